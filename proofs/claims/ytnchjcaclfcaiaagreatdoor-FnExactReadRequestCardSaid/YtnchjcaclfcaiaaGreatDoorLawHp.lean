import Derived.Test.YtnchjcaclfcaiaaGreatDoorMarkT
import Derived.Test.YtnchjcaclfcaiaaGreatDoorRows1
import Derived.Test.YtnchjcaclfcaiaaGreatDoorFRow
import Derived.WalkLawsBesides
import Derived.WalkSpells
import Derived.OpenShut
import Derived.BigQuiet
import Derived.Deep.QuietTactic
import Derived.Deep.RegionHeld3
import Derived.Deep.CutRange
namespace Go.Proofs.YtnchjcaclfcaiaaGreatDoor
open Go.RowKit
/-! Pair: what the laws do with one (by lawrow.py). -/
structure Hp where
  nm : ByteArray
  vl : ByteArray
def Hp.row (o : Hp) : Array Value := #[.string (o).nm, .string (o).vl]
/-- the cells of a row of them -/
def hpF (o : Nat → Hp) (p : Nat) : Value :=
  if p % 2 = 0 then .string (o (p / 2)).nm else .string (o (p / 2)).vl
theorem hpF0 (o : Nat → Hp) (k : Nat) : hpF o (k * 2) = .string (o k).nm := by unfold hpF; rw [if_pos (by omega), show (k * 2) / 2 = k by omega]
theorem hpF1 (o : Nat → Hp) (k : Nat) : hpF o (k * 2 + 1) = .string (o k).vl := by unfold hpF; rw [if_neg (by omega), show (k * 2 + 1) / 2 = k by omega]
/-- a slice of them that is read -/
def Hps (w : World) (a : Option Addr) (n cap : Nat) (o : Nat → Hp) : Prop :=
  n ≤ cap ∧ (n = 0 ∨ ∃ b off, a = some ⟨b, off, none⟩ ∧ b < w.heap.size ∧ ∀ k, k < n → w.cell? ⟨b, off + k * 2, none⟩ = some (.string (o k).nm) ∧ w.cell? ⟨b, off + k * 2 + 1, none⟩ = some (.string (o k).vl))
theorem Hps.below {w w' : World} {a : Option Addr} {n cap : Nat} {o : Nat → Hp} (h : Hps w a n cap o) (hb : Below w.heap.size w w') : Hps w' a n cap o := by
  refine ⟨h.1, ?_⟩
  rcases h.2 with h0 | ⟨b, off, rfl, h1, h2⟩
  · exact Or.inl h0
  · refine Or.inr ⟨b, off, rfl, Nat.lt_of_lt_of_le h1 hb.size, fun k hk => ?_⟩
    obtain ⟨c0, c1⟩ := h2 k hk
    exact ⟨(hb.cell (p := ⟨b, _, none⟩) h1).trans c0, (hb.cell (p := ⟨b, _, none⟩) h1).trans c1⟩
theorem Hps.of_row {w : World} {b : Nat} {t : TypeId} {n : Nat} {o : Nat → Hp} (h : FRow w b t (n * 2) (hpF o)) : Hps w (some ⟨b, 0, none⟩) n n o := by
  refine ⟨Nat.le_refl _, Or.inr ⟨b, 0, rfl, h.lt, fun k hk => ?_⟩⟩
  have g0 := h.cell (show k * 2 < n * 2 by omega)
  have g1 := h.cell (show k * 2 + 1 < n * 2 by omega)
  rw [hpF0] at g0
  rw [hpF1] at g1
  simp only [Nat.zero_add]
  exact ⟨g0, g1⟩
/-- how much the laws count them -/
def szHp (o : Nat → Hp) : Nat → Nat
  | 0 => 0
  | k + 1 => szHp o k + (o k).nm.size + (o k).vl.size
theorem szHp_mono (o : Nat → Hp) {j k : Nat} (h : j ≤ k) : szHp o j ≤ szHp o k := by
  induction k with
  | zero => rw [Nat.le_zero.mp h]; exact Nat.le_refl _
  | succ k ih => rcases Nat.lt_or_ge j (k + 1) with h1 | h1
                 · have := ih (by omega); show _ ≤ szHp o k + _ + _; omega
                 · rw [show j = k + 1 by omega]; exact Nat.le_refl _
theorem balHp {w w' : World} (h : Below w.heap.size w w') (o : Obj) : Below w.heap.size w (w'.alloc o) := h.alloc h.size o
set_option maxRecDepth 20000 in
set_option maxHeartbeats 1000000 in
theorem eqHp (p0 : ByteArray) (p1 : ByteArray) (w : World) :
    Calls Tryz.prog 102 #[.agg #[.string p0, .string p1], .agg #[.string p0, .string p1]] w fun e w' => e = .returned (.bool true) ∧ Below w.heap.size w w' := by
  go_enter Tryz.func102, Tryz.ntmps102
  go_wp2
  go_ret
  exact ⟨rfl, ((Below.refl _ _).alloc (Nat.le_refl _) _).alloc (by simp) _⟩
end Go.Proofs.YtnchjcaclfcaiaaGreatDoor
