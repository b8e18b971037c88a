import Derived.Test.YtmjolkagkeonfaaGreatDoorRMarkT
import Derived.Test.YtmjolkagkeonfaaGreatDoorRRows1
import Derived.Test.YtmjolkagkeonfaaGreatDoorRFRow
import Derived.WalkLawsBesides
import Derived.WalkSpells
import Derived.OpenShut
import Derived.BigQuiet
import Derived.Deep.QuietTactic
import Derived.Deep.RegionHeld3
import Derived.Deep.CutRange
namespace Go.Proofs.YtmjolkagkeonfaaGreatDoorR
open Go.RowKit
/-! Condition: what the laws do with one (by lawrow.py). -/
structure Cn where
  kd : Int
  tx : ByteArray
  tm : Int
def Cn.row (o : Cn) : Array Value := #[.int .i64 (o).kd, .string (o).tx, .int .i64 (o).tm]
/-- the cells of a row of them -/
def cnF (o : Nat → Cn) (p : Nat) : Value :=
  if p % 3 = 0 then .int .i64 (o (p / 3)).kd else if p % 3 = 1 then .string (o (p / 3)).tx else .int .i64 (o (p / 3)).tm
theorem cnF0 (o : Nat → Cn) (k : Nat) : cnF o (k * 3) = .int .i64 (o k).kd := by unfold cnF; rw [if_pos (by omega), show (k * 3) / 3 = k by omega]
theorem cnF1 (o : Nat → Cn) (k : Nat) : cnF o (k * 3 + 1) = .string (o k).tx := by unfold cnF; rw [if_neg (by omega), if_pos (by omega), show (k * 3 + 1) / 3 = k by omega]
theorem cnF2 (o : Nat → Cn) (k : Nat) : cnF o (k * 3 + 2) = .int .i64 (o k).tm := by unfold cnF; rw [if_neg (by omega), if_neg (by omega), show (k * 3 + 2) / 3 = k by omega]
/-- a slice of them that is read -/
def Cns (w : World) (a : Option Addr) (n cap : Nat) (o : Nat → Cn) : Prop :=
  n ≤ cap ∧ (n = 0 ∨ ∃ b off, a = some ⟨b, off, none⟩ ∧ b < w.heap.size ∧ ∀ k, k < n → w.cell? ⟨b, off + k * 3, none⟩ = some (.int .i64 (o k).kd) ∧ w.cell? ⟨b, off + k * 3 + 1, none⟩ = some (.string (o k).tx) ∧ w.cell? ⟨b, off + k * 3 + 2, none⟩ = some (.int .i64 (o k).tm))
theorem Cns.below {w w' : World} {a : Option Addr} {n cap : Nat} {o : Nat → Cn} (h : Cns w a n cap o) (hb : Below w.heap.size w w') : Cns w' a n cap o := by
  refine ⟨h.1, ?_⟩
  rcases h.2 with h0 | ⟨b, off, rfl, h1, h2⟩
  · exact Or.inl h0
  · refine Or.inr ⟨b, off, rfl, Nat.lt_of_lt_of_le h1 hb.size, fun k hk => ?_⟩
    obtain ⟨c0, c1, c2⟩ := h2 k hk
    exact ⟨(hb.cell (p := ⟨b, _, none⟩) h1).trans c0, (hb.cell (p := ⟨b, _, none⟩) h1).trans c1, (hb.cell (p := ⟨b, _, none⟩) h1).trans c2⟩
theorem Cns.of_row {w : World} {b : Nat} {t : TypeId} {n : Nat} {o : Nat → Cn} (h : FRow w b t (n * 3) (cnF o)) : Cns w (some ⟨b, 0, none⟩) n n o := by
  refine ⟨Nat.le_refl _, Or.inr ⟨b, 0, rfl, h.lt, fun k hk => ?_⟩⟩
  have g0 := h.cell (show k * 3 < n * 3 by omega)
  have g1 := h.cell (show k * 3 + 1 < n * 3 by omega)
  have g2 := h.cell (show k * 3 + 2 < n * 3 by omega)
  rw [cnF0] at g0
  rw [cnF1] at g1
  rw [cnF2] at g2
  simp only [Nat.zero_add]
  exact ⟨g0, g1, g2⟩
/-- how much the laws count them -/
def szCn (o : Nat → Cn) : Nat → Nat
  | 0 => 0
  | k + 1 => szCn o k + (o k).tx.size
theorem szCn_mono (o : Nat → Cn) {j k : Nat} (h : j ≤ k) : szCn o j ≤ szCn o k := by
  induction k with
  | zero => rw [Nat.le_zero.mp h]; exact Nat.le_refl _
  | succ k ih => rcases Nat.lt_or_ge j (k + 1) with h1 | h1
                 · have := ih (by omega); show _ ≤ szCn o k + _; omega
                 · rw [show j = k + 1 by omega]; exact Nat.le_refl _
theorem balCn {w w' : World} (h : Below w.heap.size w w') (o : Obj) : Below w.heap.size w (w'.alloc o) := h.alloc h.size o
set_option maxRecDepth 20000 in
set_option maxHeartbeats 1000000 in
theorem eqCn (p0 : Int) (p1 : ByteArray) (p2 : Int) (w : World) :
    Calls Tryz.prog 89 #[.agg #[.int .i64 p0, .string p1, .int .i64 p2], .agg #[.int .i64 p0, .string p1, .int .i64 p2]] w fun e w' => e = .returned (.bool true) ∧ Below w.heap.size w w' := by
  have d0 : (p0 != p0) = false := by simp
  have d2 : (p2 != p2) = false := by simp
  go_enter Tryz.func89, Tryz.ntmps89
  go_wp2
  go_ret
  exact ⟨rfl, ((Below.refl _ _).alloc (Nat.le_refl _) _).alloc (by simp) _⟩
end Go.Proofs.YtmjolkagkeonfaaGreatDoorR
