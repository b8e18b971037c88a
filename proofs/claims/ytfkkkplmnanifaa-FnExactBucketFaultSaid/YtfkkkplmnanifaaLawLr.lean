import Derived.Test.YtfkkkplmnanifaaMarkT
import Derived.Test.YtfkkkplmnanifaaRows1
import Derived.Test.YtfkkkplmnanifaaFRow
import Derived.WalkLawsBesides
import Derived.WalkSpells
import Derived.OpenShut
import Derived.BigQuiet
import Derived.Deep.QuietTactic
import Derived.Deep.RegionHeld3
import Derived.Deep.CutRange
namespace Go.Proofs.Ytfkkkplmnanifaa
open Go.RowKit
/-! LifeRule: what the laws do with one (by lawrow.py). -/
structure Lr where
  kd : Int
  px : ByteArray
  ag : Int
def Lr.row (o : Lr) : Array Value := #[.int .i64 (o).kd, .string (o).px, .int .i64 (o).ag]
/-- the cells of a row of them -/
def lrF (o : Nat → Lr) (p : Nat) : Value :=
  if p % 3 = 0 then .int .i64 (o (p / 3)).kd else if p % 3 = 1 then .string (o (p / 3)).px else .int .i64 (o (p / 3)).ag
theorem lrF0 (o : Nat → Lr) (k : Nat) : lrF o (k * 3) = .int .i64 (o k).kd := by unfold lrF; rw [if_pos (by omega), show (k * 3) / 3 = k by omega]
theorem lrF1 (o : Nat → Lr) (k : Nat) : lrF o (k * 3 + 1) = .string (o k).px := by unfold lrF; rw [if_neg (by omega), if_pos (by omega), show (k * 3 + 1) / 3 = k by omega]
theorem lrF2 (o : Nat → Lr) (k : Nat) : lrF o (k * 3 + 2) = .int .i64 (o k).ag := by unfold lrF; rw [if_neg (by omega), if_neg (by omega), show (k * 3 + 2) / 3 = k by omega]
/-- a slice of them that is read -/
def Lrs (w : World) (a : Option Addr) (n cap : Nat) (o : Nat → Lr) : Prop :=
  n ≤ cap ∧ (n = 0 ∨ ∃ b off, a = some ⟨b, off, none⟩ ∧ b < w.heap.size ∧ ∀ k, k < n → w.cell? ⟨b, off + k * 3, none⟩ = some (.int .i64 (o k).kd) ∧ w.cell? ⟨b, off + k * 3 + 1, none⟩ = some (.string (o k).px) ∧ w.cell? ⟨b, off + k * 3 + 2, none⟩ = some (.int .i64 (o k).ag))
theorem Lrs.below {w w' : World} {a : Option Addr} {n cap : Nat} {o : Nat → Lr} (h : Lrs w a n cap o) (hb : Below w.heap.size w w') : Lrs w' a n cap o := by
  refine ⟨h.1, ?_⟩
  rcases h.2 with h0 | ⟨b, off, rfl, h1, h2⟩
  · exact Or.inl h0
  · refine Or.inr ⟨b, off, rfl, Nat.lt_of_lt_of_le h1 hb.size, fun k hk => ?_⟩
    obtain ⟨c0, c1, c2⟩ := h2 k hk
    exact ⟨(hb.cell (p := ⟨b, _, none⟩) h1).trans c0, (hb.cell (p := ⟨b, _, none⟩) h1).trans c1, (hb.cell (p := ⟨b, _, none⟩) h1).trans c2⟩
theorem Lrs.of_row {w : World} {b : Nat} {t : TypeId} {n : Nat} {o : Nat → Lr} (h : FRow w b t (n * 3) (lrF o)) : Lrs w (some ⟨b, 0, none⟩) n n o := by
  refine ⟨Nat.le_refl _, Or.inr ⟨b, 0, rfl, h.lt, fun k hk => ?_⟩⟩
  have g0 := h.cell (show k * 3 < n * 3 by omega)
  have g1 := h.cell (show k * 3 + 1 < n * 3 by omega)
  have g2 := h.cell (show k * 3 + 2 < n * 3 by omega)
  rw [lrF0] at g0
  rw [lrF1] at g1
  rw [lrF2] at g2
  simp only [Nat.zero_add]
  exact ⟨g0, g1, g2⟩
/-- how much the laws count them -/
def szLr (o : Nat → Lr) : Nat → Nat
  | 0 => 0
  | k + 1 => szLr o k + (o k).px.size
theorem szLr_mono (o : Nat → Lr) {j k : Nat} (h : j ≤ k) : szLr o j ≤ szLr o k := by
  induction k with
  | zero => rw [Nat.le_zero.mp h]; exact Nat.le_refl _
  | succ k ih => rcases Nat.lt_or_ge j (k + 1) with h1 | h1
                 · have := ih (by omega); show _ ≤ szLr o k + _; omega
                 · rw [show j = k + 1 by omega]; exact Nat.le_refl _
theorem balLr {w w' : World} (h : Below w.heap.size w w') (o : Obj) : Below w.heap.size w (w'.alloc o) := h.alloc h.size o
set_option maxRecDepth 20000 in
set_option maxHeartbeats 1000000 in
theorem eqLr (p0 : Int) (p1 : ByteArray) (p2 : Int) (w : World) :
    Calls Try.prog 31 #[.agg #[.int .i64 p0, .string p1, .int .i64 p2], .agg #[.int .i64 p0, .string p1, .int .i64 p2]] w fun e w' => e = .returned (.bool true) ∧ Below w.heap.size w w' := by
  have d0 : (p0 != p0) = false := by simp
  have d2 : (p2 != p2) = false := by simp
  go_enter Try.func31, Try.ntmps31
  go_wp2
  go_ret
  exact ⟨rfl, ((Below.refl _ _).alloc (Nat.le_refl _) _).alloc (by simp) _⟩
set_option maxRecDepth 20000 in
set_option maxHeartbeats 1000000 in
theorem sz1Lr (p0 : Int) (p1 : ByteArray) (p2 : Int) (l : Int) (hl : l ≤ 1048576) (hl0 : 0 ≤ l) (h1 : p1.size ≤ 9223372036854775807) (w : World) :
    Calls Try.prog 24 #[.agg #[.int .i64 p0, .string p1, .int .i64 p2], .int .i64 l] w fun e w' => e = .returned (.int .i64 (if (p1.size : Int) ≤ l then l - p1.size else -1)) ∧ Below w.heap.size w w' := by
  by_cases g1 : l - (p1.size : Int) < 0
  · rw [if_neg (by omega)]
    go_enter Try.func24, Try.ntmps24
    go_wp2
    go_ret
    exact ⟨rfl, (Below.refl _ _).alloc (Nat.le_refl _) _⟩
  · rw [if_pos (by omega)]
    go_enter Try.func24, Try.ntmps24
    go_wp2
    go_ret
    exact ⟨rfl, (Below.refl _ _).alloc (Nat.le_refl _) _⟩
theorem oneLr (p0 : Int) (p1 : ByteArray) (p2 : Int) : (#[.int .i64 p0, .string p1, .int .i64 p2] : Array Value).all (·.oneCell') = true := by simp [Value.oneCell']
set_option maxRecDepth 20000 in
set_option maxHeartbeats 2000000 in
theorem to1Lr (p0 : Int) (p1 : ByteArray) (p2 : Int) (w : World) :
    Calls Try.prog 26 #[.agg #[.int .i64 p0, .string p1, .int .i64 p2]] w fun e w' => e = .returned (.agg #[.int .i64 p0, .string p1, .int .i64 p2]) ∧ Below w.heap.size w w' := by
  obtain ⟨W0, hW0⟩ : ∃ W, W = (((w.alloc (.cells #[.int .i64 p0, .string p1, .int .i64 p2] 50)).alloc (.cells #[.int .i64 0, .string ⟨#[]⟩, .int .i64 0] 53)).alloc (.cells #[.int .i64 0, .string ⟨#[]⟩, .int .i64 0] 53)) := ⟨_, rfl⟩
  have A0 : RowAt W0 w.heap.size 50 #[.int .i64 p0, .string p1, .int .i64 p2] := by rw [hW0]; exact ((RowAt.new _ _ _).alloc _).alloc _
  have R0 : RowAt W0 (w.heap.size + 1) 53 #[.int .i64 0, .string ⟨#[]⟩, .int .i64 0] := by rw [hW0]; exact (RowAt.next _ _ _ (by rw [size_al])).alloc _
  have O0 : RowAt W0 (w.heap.size + 1 + 1) 53 #[.int .i64 0, .string ⟨#[]⟩, .int .i64 0] := by rw [hW0]; exact RowAt.next _ _ _ (by simp only [size_al])
  have B0 : Below w.heap.size w W0 := by rw [hW0]; exact balLr (balLr (balLr (Below.refl _ _) _) _) _
  obtain ⟨W1, hW1⟩ : ∃ W, W = W0.setCell ⟨w.heap.size + 1 + 1, 0, none⟩ (.int .i64 p0) := ⟨_, rfl⟩
  have A1 : RowAt W1 w.heap.size 50 #[.int .i64 p0, .string p1, .int .i64 p2] := by rw [hW1]; exact A0.other _ _ (by simp; omega)
  have R1 : RowAt W1 (w.heap.size + 1) 53 #[.int .i64 0, .string ⟨#[]⟩, .int .i64 0] := by rw [hW1]; exact R0.other _ _ (by simp)
  have O1 : RowAt W1 (w.heap.size + 1 + 1) 53 #[.int .i64 p0, .string ⟨#[]⟩, .int .i64 0] := by rw [hW1]; exact O0.set 0 _
  have B1 : Below w.heap.size w W1 := by rw [hW1]; exact B0.setCell (by simp; omega) _
  have a0 : W0.cell? ⟨w.heap.size, 0, none⟩ = some (.int .i64 p0) := A0.cell 0
  have o0 : W0.cell? ⟨w.heap.size + 1 + 1, 0, none⟩ = some (.int .i64 0) := O0.cell 0
  have f0 := O0.free 0
  obtain ⟨W2, hW2⟩ : ∃ W, W = W1.setCell ⟨w.heap.size + 1 + 1, 1, none⟩ (.string p1) := ⟨_, rfl⟩
  have A2 : RowAt W2 w.heap.size 50 #[.int .i64 p0, .string p1, .int .i64 p2] := by rw [hW2]; exact A1.other _ _ (by simp; omega)
  have R2 : RowAt W2 (w.heap.size + 1) 53 #[.int .i64 0, .string ⟨#[]⟩, .int .i64 0] := by rw [hW2]; exact R1.other _ _ (by simp)
  have O2 : RowAt W2 (w.heap.size + 1 + 1) 53 #[.int .i64 p0, .string p1, .int .i64 0] := by rw [hW2]; exact O1.set 1 _
  have B2 : Below w.heap.size w W2 := by rw [hW2]; exact B1.setCell (by simp; omega) _
  have a1 : W1.cell? ⟨w.heap.size, 1, none⟩ = some (.string p1) := A1.cell 1
  have o1 : W1.cell? ⟨w.heap.size + 1 + 1, 1, none⟩ = some (.string ⟨#[]⟩) := O1.cell 1
  have f1 := O1.free 1
  obtain ⟨W3, hW3⟩ : ∃ W, W = W2.setCell ⟨w.heap.size + 1 + 1, 2, none⟩ (.int .i64 p2) := ⟨_, rfl⟩
  have A3 : RowAt W3 w.heap.size 50 #[.int .i64 p0, .string p1, .int .i64 p2] := by rw [hW3]; exact A2.other _ _ (by simp; omega)
  have R3 : RowAt W3 (w.heap.size + 1) 53 #[.int .i64 0, .string ⟨#[]⟩, .int .i64 0] := by rw [hW3]; exact R2.other _ _ (by simp)
  have O3 : RowAt W3 (w.heap.size + 1 + 1) 53 #[.int .i64 p0, .string p1, .int .i64 p2] := by rw [hW3]; exact O2.set 2 _
  have B3 : Below w.heap.size w W3 := by rw [hW3]; exact B2.setCell (by simp; omega) _
  have a2 : W2.cell? ⟨w.heap.size, 2, none⟩ = some (.int .i64 p2) := A2.cell 2
  have o2 : W2.cell? ⟨w.heap.size + 1 + 1, 2, none⟩ = some (.int .i64 0) := O2.cell 2
  have f2 := O2.free 2
  have HW0 := hid hW0
  have HW1 := hid hW1
  have HW2 := hid hW2
  have HW3 := hid hW3
  have q0 : W3.cell? ⟨w.heap.size + 1 + 1, 0, none⟩ = some (.int .i64 p0) := O3.cell 0
  have q1 : W3.cell? ⟨w.heap.size + 1 + 1, 1, none⟩ = some (.string p1) := O3.cell 1
  have q2 : W3.cell? ⟨w.heap.size + 1 + 1, 2, none⟩ = some (.int .i64 p2) := O3.cell 2
  have HR := hid R3
  have HB := hid B3
  clear hW0 A0 R0 O0 B0 hW1 A1 R1 O1 B1 hW2 A2 R2 O2 B2 hW3 A3 R3 O3 B3
  go_enter Try.func26, Try.ntmps26
  go_upto_region 2 with fail
  rw [← HW0.out]
  go_upto_region 3 with fail
  rw [← HW1.out]
  clear a0 o0 f0
  go_upto_region 4 with fail
  rw [← HW2.out]
  clear a1 o1 f1
  go_upto_region 5 with fail
  rw [← HW3.out]
  clear a2 o2 f2
  go_wp2_with (refine wpList_store_row rfl 53 (.tmp 2) (.tmp 13) rfl (w.heap.size + 1) #[.int .i64 p0, .string p1, .int .i64 p2] rfl rfl _ _ HR.out (by kernel_rfl) rfl (oneLr _ _ _) ?_)
  refine bodyPost_ret (v := .agg #[.int .i64 p0, .string p1, .int .i64 p2]) ?_ rfl ⟨rfl, below_setRow HB.out _ _ (by omega)⟩
  exact results_cell_row Try.results26 _ _ (w.heap.size + 1) _ _ _ _ rfl (HR.out.setRow _) Try.underlying53 rfl (by kernel_rfl)
end Go.Proofs.Ytfkkkplmnanifaa
