import Derived.Test.YtmhkelfmciepaaaK1
import Derived.Test.YtmhkelfmciepaaaK1
import Derived.Test.YtmhkelfmciepaaaK1
import Derived.WalkLawsBesides
import Derived.WalkSpells
import Derived.OpenShut
import Derived.BigQuiet
import Derived.Deep.QuietTactic
import Derived.Deep.RegionHeld3
import Derived.Deep.CutRange
namespace Go.Proofs.Ytmhkelfmciepaaa
open Go.RowKit
/-! GroupEntry: what the laws do with one (by lawrow.py). -/
structure Ge where
  tm : Int
  tx : ByteArray
def Ge.row (o : Ge) : Array Value := #[.int .i64 (o).tm, .string (o).tx]
/-- the cells of a row of them -/
def geF (o : Nat → Ge) (p : Nat) : Value :=
  if p % 2 = 0 then .int .i64 (o (p / 2)).tm else .string (o (p / 2)).tx
theorem geF0 (o : Nat → Ge) (k : Nat) : geF o (k * 2) = .int .i64 (o k).tm := by unfold geF; rw [if_pos (by omega), show (k * 2) / 2 = k by omega]
theorem geF1 (o : Nat → Ge) (k : Nat) : geF o (k * 2 + 1) = .string (o k).tx := by unfold geF; rw [if_neg (by omega), show (k * 2 + 1) / 2 = k by omega]
/-- a slice of them that is read -/
def Ges (w : World) (a : Option Addr) (n cap : Nat) (o : Nat → Ge) : Prop :=
  n ≤ cap ∧ (n = 0 ∨ ∃ b off, a = some ⟨b, off, none⟩ ∧ b < w.heap.size ∧ ∀ k, k < n → w.cell? ⟨b, off + k * 2, none⟩ = some (.int .i64 (o k).tm) ∧ w.cell? ⟨b, off + k * 2 + 1, none⟩ = some (.string (o k).tx))
theorem Ges.below {w w' : World} {a : Option Addr} {n cap : Nat} {o : Nat → Ge} (h : Ges w a n cap o) (hb : Below w.heap.size w w') : Ges w' a n cap o := by
  refine ⟨h.1, ?_⟩
  rcases h.2 with h0 | ⟨b, off, rfl, h1, h2⟩
  · exact Or.inl h0
  · refine Or.inr ⟨b, off, rfl, Nat.lt_of_lt_of_le h1 hb.size, fun k hk => ?_⟩
    obtain ⟨c0, c1⟩ := h2 k hk
    exact ⟨(hb.cell (p := ⟨b, _, none⟩) h1).trans c0, (hb.cell (p := ⟨b, _, none⟩) h1).trans c1⟩
theorem Ges.of_row {w : World} {b : Nat} {t : TypeId} {n : Nat} {o : Nat → Ge} (h : FRow w b t (n * 2) (geF o)) : Ges w (some ⟨b, 0, none⟩) n n o := by
  refine ⟨Nat.le_refl _, Or.inr ⟨b, 0, rfl, h.lt, fun k hk => ?_⟩⟩
  have g0 := h.cell (show k * 2 < n * 2 by omega)
  have g1 := h.cell (show k * 2 + 1 < n * 2 by omega)
  rw [geF0] at g0
  rw [geF1] at g1
  simp only [Nat.zero_add]
  exact ⟨g0, g1⟩
/-- how much the laws count them -/
def szGe (o : Nat → Ge) : Nat → Nat
  | 0 => 0
  | k + 1 => szGe o k + (o k).tx.size
theorem szGe_mono (o : Nat → Ge) {j k : Nat} (h : j ≤ k) : szGe o j ≤ szGe o k := by
  induction k with
  | zero => rw [Nat.le_zero.mp h]; exact Nat.le_refl _
  | succ k ih => rcases Nat.lt_or_ge j (k + 1) with h1 | h1
                 · have := ih (by omega); show _ ≤ szGe o k + _; omega
                 · rw [show j = k + 1 by omega]; exact Nat.le_refl _
theorem balGe {w w' : World} (h : Below w.heap.size w w') (o : Obj) : Below w.heap.size w (w'.alloc o) := h.alloc h.size o
end Go.Proofs.Ytmhkelfmciepaaa
namespace Go.Proofs.Ytmhkelfmciepaaa
open Go.RowKit
/-! Rows of GroupEntry: what the laws do with them (by lawrow.py). -/
def ge0 : Ge := ⟨0, ⟨#[]⟩⟩
/-- the first k of them, then empty ones -/
def geTo (o : Nat → Ge) (k i : Nat) : Ge := if i < k then o i else ge0
end Go.Proofs.Ytmhkelfmciepaaa
namespace Go.Proofs.Ytmhkelfmciepaaa
open Go.RowKit
/-! GroupOut: what the laws do with one (by lawrow.py). -/
structure Gou where
  cd : Int
  vo : Int
  cm : Int
def Gou.row (o : Gou) : Array Value := #[.int .i64 (o).cd, .int .i64 (o).vo, .int .i64 (o).cm]
/-- the cells of a row of them -/
def gouF (o : Nat → Gou) (p : Nat) : Value :=
  if p % 3 = 0 then .int .i64 (o (p / 3)).cd else if p % 3 = 1 then .int .i64 (o (p / 3)).vo else .int .i64 (o (p / 3)).cm
theorem gouF0 (o : Nat → Gou) (k : Nat) : gouF o (k * 3) = .int .i64 (o k).cd := by unfold gouF; rw [if_pos (by omega), show (k * 3) / 3 = k by omega]
theorem gouF1 (o : Nat → Gou) (k : Nat) : gouF o (k * 3 + 1) = .int .i64 (o k).vo := by unfold gouF; rw [if_neg (by omega), if_pos (by omega), show (k * 3 + 1) / 3 = k by omega]
theorem gouF2 (o : Nat → Gou) (k : Nat) : gouF o (k * 3 + 2) = .int .i64 (o k).cm := by unfold gouF; rw [if_neg (by omega), if_neg (by omega), show (k * 3 + 2) / 3 = k by omega]
/-- a slice of them that is read -/
def Gous (w : World) (a : Option Addr) (n cap : Nat) (o : Nat → Gou) : Prop :=
  n ≤ cap ∧ (n = 0 ∨ ∃ b off, a = some ⟨b, off, none⟩ ∧ b < w.heap.size ∧ ∀ k, k < n → w.cell? ⟨b, off + k * 3, none⟩ = some (.int .i64 (o k).cd) ∧ w.cell? ⟨b, off + k * 3 + 1, none⟩ = some (.int .i64 (o k).vo) ∧ w.cell? ⟨b, off + k * 3 + 2, none⟩ = some (.int .i64 (o k).cm))
theorem Gous.below {w w' : World} {a : Option Addr} {n cap : Nat} {o : Nat → Gou} (h : Gous w a n cap o) (hb : Below w.heap.size w w') : Gous w' a n cap o := by
  refine ⟨h.1, ?_⟩
  rcases h.2 with h0 | ⟨b, off, rfl, h1, h2⟩
  · exact Or.inl h0
  · refine Or.inr ⟨b, off, rfl, Nat.lt_of_lt_of_le h1 hb.size, fun k hk => ?_⟩
    obtain ⟨c0, c1, c2⟩ := h2 k hk
    exact ⟨(hb.cell (p := ⟨b, _, none⟩) h1).trans c0, (hb.cell (p := ⟨b, _, none⟩) h1).trans c1, (hb.cell (p := ⟨b, _, none⟩) h1).trans c2⟩
theorem Gous.of_row {w : World} {b : Nat} {t : TypeId} {n : Nat} {o : Nat → Gou} (h : FRow w b t (n * 3) (gouF o)) : Gous w (some ⟨b, 0, none⟩) n n o := by
  refine ⟨Nat.le_refl _, Or.inr ⟨b, 0, rfl, h.lt, fun k hk => ?_⟩⟩
  have g0 := h.cell (show k * 3 < n * 3 by omega)
  have g1 := h.cell (show k * 3 + 1 < n * 3 by omega)
  have g2 := h.cell (show k * 3 + 2 < n * 3 by omega)
  rw [gouF0] at g0
  rw [gouF1] at g1
  rw [gouF2] at g2
  simp only [Nat.zero_add]
  exact ⟨g0, g1, g2⟩
/-- how much the laws count them -/
def szGou (o : Nat → Gou) : Nat → Nat
  | 0 => 0
  | k + 1 => szGou o k
theorem szGou_mono (o : Nat → Gou) {j k : Nat} (h : j ≤ k) : szGou o j ≤ szGou o k := by
  induction k with
  | zero => rw [Nat.le_zero.mp h]; exact Nat.le_refl _
  | succ k ih => rcases Nat.lt_or_ge j (k + 1) with h1 | h1
                 · have := ih (by omega); show _ ≤ szGou o k; omega
                 · rw [show j = k + 1 by omega]; exact Nat.le_refl _
theorem balGou {w w' : World} (h : Below w.heap.size w w') (o : Obj) : Below w.heap.size w (w'.alloc o) := h.alloc h.size o
end Go.Proofs.Ytmhkelfmciepaaa
namespace Go.Proofs.Ytmhkelfmciepaaa
open Go.RowKit
/-! Rows of GroupOut: what the laws do with them (by lawrow.py). -/
def gou0 : Gou := ⟨0, 0, 0⟩
/-- the first k of them, then empty ones -/
def gouTo (o : Nat → Gou) (k i : Nat) : Gou := if i < k then o i else gou0
end Go.Proofs.Ytmhkelfmciepaaa
