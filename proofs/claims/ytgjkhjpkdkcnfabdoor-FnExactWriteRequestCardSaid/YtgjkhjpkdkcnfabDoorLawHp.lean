import Derived.Test.YtgjkhjpkdkcnfabDoorMarkT
import Derived.Test.YtgjkhjpkdkcnfabDoorRows1
import Derived.Test.YtgjkhjpkdkcnfabDoorFRow
import Derived.WalkLawsBesides
import Derived.WalkSpells
import Derived.OpenShut
import Derived.BigQuiet
import Derived.Deep.QuietTactic
import Derived.Deep.RegionHeld3
import Derived.Deep.CutRange
namespace Go.Proofs.YtgjkhjpkdkcnfabDoor
open Go.RowKit
/-! Pair: what the laws do with one (by lawrow.py). -/
structure Hp where
  nm : ByteArray
  vl : ByteArray
def Hp.row (o : Hp) : Array Value := #[.string (o).nm, .string (o).vl]
/-- the cells of a row of them -/
def hpF (o : Nat → Hp) (p : Nat) : Value :=
  if p % 2 = 0 then .string (o (p / 2)).nm else .string (o (p / 2)).vl
theorem hpF0 (o : Nat → Hp) (k : Nat) : hpF o (k * 2) = .string (o k).nm := by unfold hpF; rw [if_pos (by omega), show (k * 2) / 2 = k by omega]
theorem hpF1 (o : Nat → Hp) (k : Nat) : hpF o (k * 2 + 1) = .string (o k).vl := by unfold hpF; rw [if_neg (by omega), show (k * 2 + 1) / 2 = k by omega]
/-- a slice of them that is read -/
def Hps (w : World) (a : Option Addr) (n cap : Nat) (o : Nat → Hp) : Prop :=
  n ≤ cap ∧ (n = 0 ∨ ∃ b off, a = some ⟨b, off, none⟩ ∧ b < w.heap.size ∧ ∀ k, k < n → w.cell? ⟨b, off + k * 2, none⟩ = some (.string (o k).nm) ∧ w.cell? ⟨b, off + k * 2 + 1, none⟩ = some (.string (o k).vl))
theorem Hps.below {w w' : World} {a : Option Addr} {n cap : Nat} {o : Nat → Hp} (h : Hps w a n cap o) (hb : Below w.heap.size w w') : Hps w' a n cap o := by
  refine ⟨h.1, ?_⟩
  rcases h.2 with h0 | ⟨b, off, rfl, h1, h2⟩
  · exact Or.inl h0
  · refine Or.inr ⟨b, off, rfl, Nat.lt_of_lt_of_le h1 hb.size, fun k hk => ?_⟩
    obtain ⟨c0, c1⟩ := h2 k hk
    exact ⟨(hb.cell (p := ⟨b, _, none⟩) h1).trans c0, (hb.cell (p := ⟨b, _, none⟩) h1).trans c1⟩
theorem Hps.of_row {w : World} {b : Nat} {t : TypeId} {n : Nat} {o : Nat → Hp} (h : FRow w b t (n * 2) (hpF o)) : Hps w (some ⟨b, 0, none⟩) n n o := by
  refine ⟨Nat.le_refl _, Or.inr ⟨b, 0, rfl, h.lt, fun k hk => ?_⟩⟩
  have g0 := h.cell (show k * 2 < n * 2 by omega)
  have g1 := h.cell (show k * 2 + 1 < n * 2 by omega)
  rw [hpF0] at g0
  rw [hpF1] at g1
  simp only [Nat.zero_add]
  exact ⟨g0, g1⟩
/-- how much the laws count them -/
def szHp (o : Nat → Hp) : Nat → Nat
  | 0 => 0
  | k + 1 => szHp o k + (o k).nm.size + (o k).vl.size
theorem szHp_mono (o : Nat → Hp) {j k : Nat} (h : j ≤ k) : szHp o j ≤ szHp o k := by
  induction k with
  | zero => rw [Nat.le_zero.mp h]; exact Nat.le_refl _
  | succ k ih => rcases Nat.lt_or_ge j (k + 1) with h1 | h1
                 · have := ih (by omega); show _ ≤ szHp o k + _ + _; omega
                 · rw [show j = k + 1 by omega]; exact Nat.le_refl _
theorem balHp {w w' : World} (h : Below w.heap.size w w') (o : Obj) : Below w.heap.size w (w'.alloc o) := h.alloc h.size o
set_option maxRecDepth 20000 in
set_option maxHeartbeats 1000000 in
theorem eqHp (p0 : ByteArray) (p1 : ByteArray) (w : World) :
    Calls Tryd.prog 40 #[.agg #[.string p0, .string p1], .agg #[.string p0, .string p1]] w fun e w' => e = .returned (.bool true) ∧ Below w.heap.size w w' := by
  go_enter Tryd.func40, Tryd.ntmps40
  go_wp2
  go_ret
  exact ⟨rfl, ((Below.refl _ _).alloc (Nat.le_refl _) _).alloc (by simp) _⟩
set_option maxRecDepth 20000 in
set_option maxHeartbeats 1000000 in
theorem sz1Hp (p0 : ByteArray) (p1 : ByteArray) (l : Int) (hl : l ≤ 1048576) (hl0 : 0 ≤ l) (h0 : p0.size ≤ 9223372036854775807) (h1 : p1.size ≤ 9223372036854775807) (w : World) :
    Calls Tryd.prog 20 #[.agg #[.string p0, .string p1], .int .i64 l] w fun e w' => e = .returned (.int .i64 (if (p0.size : Int) + p1.size ≤ l then l - p0.size - p1.size else -1)) ∧ Below w.heap.size w w' := by
  by_cases g0 : l - (p0.size : Int) < 0
  · rw [if_neg (by omega)]
    go_enter Tryd.func20, Tryd.ntmps20
    go_wp2
    go_ret
    exact ⟨rfl, (Below.refl _ _).alloc (Nat.le_refl _) _⟩
  ·
    by_cases g1 : l - (p0.size : Int) - (p1.size : Int) < 0
    · rw [if_neg (by omega)]
      go_enter Tryd.func20, Tryd.ntmps20
      go_wp2
      go_ret
      exact ⟨rfl, (Below.refl _ _).alloc (Nat.le_refl _) _⟩
    · rw [if_pos (by omega)]
      go_enter Tryd.func20, Tryd.ntmps20
      go_wp2
      go_ret
      exact ⟨rfl, (Below.refl _ _).alloc (Nat.le_refl _) _⟩
theorem oneHp (p0 : ByteArray) (p1 : ByteArray) : (#[.string p0, .string p1] : Array Value).all (·.oneCell') = true := by simp [Value.oneCell']
set_option maxRecDepth 20000 in
set_option maxHeartbeats 2000000 in
theorem to1Hp (p0 : ByteArray) (p1 : ByteArray) (w : World) :
    Calls Tryd.prog 28 #[.agg #[.string p0, .string p1]] w fun e w' => e = .returned (.agg #[.string p0, .string p1]) ∧ Below w.heap.size w w' := by
  obtain ⟨W0, hW0⟩ : ∃ W, W = (((w.alloc (.cells #[.string p0, .string p1] 51)).alloc (.cells #[.string ⟨#[]⟩, .string ⟨#[]⟩] 45)).alloc (.cells #[.string ⟨#[]⟩, .string ⟨#[]⟩] 45)) := ⟨_, rfl⟩
  have A0 : RowAt W0 w.heap.size 51 #[.string p0, .string p1] := by rw [hW0]; exact ((RowAt.new _ _ _).alloc _).alloc _
  have R0 : RowAt W0 (w.heap.size + 1) 45 #[.string ⟨#[]⟩, .string ⟨#[]⟩] := by rw [hW0]; exact (RowAt.next _ _ _ (by rw [size_al])).alloc _
  have O0 : RowAt W0 (w.heap.size + 1 + 1) 45 #[.string ⟨#[]⟩, .string ⟨#[]⟩] := by rw [hW0]; exact RowAt.next _ _ _ (by simp only [size_al])
  have B0 : Below w.heap.size w W0 := by rw [hW0]; exact balHp (balHp (balHp (Below.refl _ _) _) _) _
  obtain ⟨W1, hW1⟩ : ∃ W, W = W0.setCell ⟨w.heap.size + 1 + 1, 0, none⟩ (.string p0) := ⟨_, rfl⟩
  have A1 : RowAt W1 w.heap.size 51 #[.string p0, .string p1] := by rw [hW1]; exact A0.other _ _ (by simp; omega)
  have R1 : RowAt W1 (w.heap.size + 1) 45 #[.string ⟨#[]⟩, .string ⟨#[]⟩] := by rw [hW1]; exact R0.other _ _ (by simp)
  have O1 : RowAt W1 (w.heap.size + 1 + 1) 45 #[.string p0, .string ⟨#[]⟩] := by rw [hW1]; exact O0.set 0 _
  have B1 : Below w.heap.size w W1 := by rw [hW1]; exact B0.setCell (by simp; omega) _
  have a0 : W0.cell? ⟨w.heap.size, 0, none⟩ = some (.string p0) := A0.cell 0
  have o0 : W0.cell? ⟨w.heap.size + 1 + 1, 0, none⟩ = some (.string ⟨#[]⟩) := O0.cell 0
  have f0 := O0.free 0
  obtain ⟨W2, hW2⟩ : ∃ W, W = W1.setCell ⟨w.heap.size + 1 + 1, 1, none⟩ (.string p1) := ⟨_, rfl⟩
  have A2 : RowAt W2 w.heap.size 51 #[.string p0, .string p1] := by rw [hW2]; exact A1.other _ _ (by simp; omega)
  have R2 : RowAt W2 (w.heap.size + 1) 45 #[.string ⟨#[]⟩, .string ⟨#[]⟩] := by rw [hW2]; exact R1.other _ _ (by simp)
  have O2 : RowAt W2 (w.heap.size + 1 + 1) 45 #[.string p0, .string p1] := by rw [hW2]; exact O1.set 1 _
  have B2 : Below w.heap.size w W2 := by rw [hW2]; exact B1.setCell (by simp; omega) _
  have a1 : W1.cell? ⟨w.heap.size, 1, none⟩ = some (.string p1) := A1.cell 1
  have o1 : W1.cell? ⟨w.heap.size + 1 + 1, 1, none⟩ = some (.string ⟨#[]⟩) := O1.cell 1
  have f1 := O1.free 1
  have HW0 := hid hW0
  have HW1 := hid hW1
  have HW2 := hid hW2
  have q0 : W2.cell? ⟨w.heap.size + 1 + 1, 0, none⟩ = some (.string p0) := O2.cell 0
  have q1 : W2.cell? ⟨w.heap.size + 1 + 1, 1, none⟩ = some (.string p1) := O2.cell 1
  have HR := hid R2
  have HB := hid B2
  clear hW0 A0 R0 O0 B0 hW1 A1 R1 O1 B1 hW2 A2 R2 O2 B2
  go_enter Tryd.func28, Tryd.ntmps28
  go_upto_region 2 with fail
  rw [← HW0.out]
  go_upto_region 3 with fail
  rw [← HW1.out]
  clear a0 o0 f0
  go_upto_region 4 with fail
  rw [← HW2.out]
  clear a1 o1 f1
  go_wp2_with (refine wpList_store_row rfl 45 (.tmp 2) (.tmp 10) rfl (w.heap.size + 1) #[.string p0, .string p1] rfl rfl _ _ HR.out (by kernel_rfl) rfl (oneHp _ _) ?_)
  refine bodyPost_ret (v := .agg #[.string p0, .string p1]) ?_ rfl ⟨rfl, below_setRow HB.out _ _ (by omega)⟩
  exact results_cell_row Tryd.results28 _ _ (w.heap.size + 1) _ _ _ _ rfl (HR.out.setRow _) Tryd.underlying45 rfl (by kernel_rfl)
end Go.Proofs.YtgjkhjpkdkcnfabDoor
