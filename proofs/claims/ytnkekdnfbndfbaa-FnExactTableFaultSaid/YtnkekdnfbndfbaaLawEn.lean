import Derived.Test.YtnkekdnfbndfbaaMarkT
import Derived.Test.YtnkekdnfbndfbaaRows1
import Derived.Test.YtnkekdnfbndfbaaFRow
import Derived.WalkLawsBesides
import Derived.WalkSpells
import Derived.OpenShut
import Derived.BigQuiet
import Derived.Deep.QuietTactic
import Derived.Deep.RegionHeld3
import Derived.Deep.CutRange
namespace Go.Proofs.Ytnkekdnfbndfbaa
open Go.RowKit
/-! RunEntry: what the laws do with one (by lawrow.py). -/
structure En where
  ky : ByteArray
  sq : Int
  gn : Bool
  tx : ByteArray
def En.row (o : En) : Array Value := #[.string (o).ky, .int .i64 (o).sq, .bool (o).gn, .string (o).tx]
/-- the cells of a row of them -/
def enF (o : Nat → En) (p : Nat) : Value :=
  if p % 4 = 0 then .string (o (p / 4)).ky else if p % 4 = 1 then .int .i64 (o (p / 4)).sq else if p % 4 = 2 then .bool (o (p / 4)).gn else .string (o (p / 4)).tx
theorem enF0 (o : Nat → En) (k : Nat) : enF o (k * 4) = .string (o k).ky := by unfold enF; rw [if_pos (by omega), show (k * 4) / 4 = k by omega]
theorem enF1 (o : Nat → En) (k : Nat) : enF o (k * 4 + 1) = .int .i64 (o k).sq := by unfold enF; rw [if_neg (by omega), if_pos (by omega), show (k * 4 + 1) / 4 = k by omega]
theorem enF2 (o : Nat → En) (k : Nat) : enF o (k * 4 + 2) = .bool (o k).gn := by unfold enF; rw [if_neg (by omega), if_neg (by omega), if_pos (by omega), show (k * 4 + 2) / 4 = k by omega]
theorem enF3 (o : Nat → En) (k : Nat) : enF o (k * 4 + 3) = .string (o k).tx := by unfold enF; rw [if_neg (by omega), if_neg (by omega), if_neg (by omega), show (k * 4 + 3) / 4 = k by omega]
/-- a slice of them that is read -/
def Ens (w : World) (a : Option Addr) (n cap : Nat) (o : Nat → En) : Prop :=
  n ≤ cap ∧ (n = 0 ∨ ∃ b off, a = some ⟨b, off, none⟩ ∧ b < w.heap.size ∧ ∀ k, k < n → w.cell? ⟨b, off + k * 4, none⟩ = some (.string (o k).ky) ∧ w.cell? ⟨b, off + k * 4 + 1, none⟩ = some (.int .i64 (o k).sq) ∧ w.cell? ⟨b, off + k * 4 + 2, none⟩ = some (.bool (o k).gn) ∧ w.cell? ⟨b, off + k * 4 + 3, none⟩ = some (.string (o k).tx))
theorem Ens.below {w w' : World} {a : Option Addr} {n cap : Nat} {o : Nat → En} (h : Ens w a n cap o) (hb : Below w.heap.size w w') : Ens w' a n cap o := by
  refine ⟨h.1, ?_⟩
  rcases h.2 with h0 | ⟨b, off, rfl, h1, h2⟩
  · exact Or.inl h0
  · refine Or.inr ⟨b, off, rfl, Nat.lt_of_lt_of_le h1 hb.size, fun k hk => ?_⟩
    obtain ⟨c0, c1, c2, c3⟩ := h2 k hk
    exact ⟨(hb.cell (p := ⟨b, _, none⟩) h1).trans c0, (hb.cell (p := ⟨b, _, none⟩) h1).trans c1, (hb.cell (p := ⟨b, _, none⟩) h1).trans c2, (hb.cell (p := ⟨b, _, none⟩) h1).trans c3⟩
theorem Ens.of_row {w : World} {b : Nat} {t : TypeId} {n : Nat} {o : Nat → En} (h : FRow w b t (n * 4) (enF o)) : Ens w (some ⟨b, 0, none⟩) n n o := by
  refine ⟨Nat.le_refl _, Or.inr ⟨b, 0, rfl, h.lt, fun k hk => ?_⟩⟩
  have g0 := h.cell (show k * 4 < n * 4 by omega)
  have g1 := h.cell (show k * 4 + 1 < n * 4 by omega)
  have g2 := h.cell (show k * 4 + 2 < n * 4 by omega)
  have g3 := h.cell (show k * 4 + 3 < n * 4 by omega)
  rw [enF0] at g0
  rw [enF1] at g1
  rw [enF2] at g2
  rw [enF3] at g3
  simp only [Nat.zero_add]
  exact ⟨g0, g1, g2, g3⟩
/-- how much the laws count them -/
def szEn (o : Nat → En) : Nat → Nat
  | 0 => 0
  | k + 1 => szEn o k + (o k).ky.size + (o k).tx.size
theorem szEn_mono (o : Nat → En) {j k : Nat} (h : j ≤ k) : szEn o j ≤ szEn o k := by
  induction k with
  | zero => rw [Nat.le_zero.mp h]; exact Nat.le_refl _
  | succ k ih => rcases Nat.lt_or_ge j (k + 1) with h1 | h1
                 · have := ih (by omega); show _ ≤ szEn o k + _ + _; omega
                 · rw [show j = k + 1 by omega]; exact Nat.le_refl _
theorem balEn {w w' : World} (h : Below w.heap.size w w') (o : Obj) : Below w.heap.size w (w'.alloc o) := h.alloc h.size o
set_option maxRecDepth 20000 in
set_option maxHeartbeats 1000000 in
theorem eqEn (p0 : ByteArray) (p1 : Int) (p2 : Bool) (p3 : ByteArray) (w : World) :
    Calls Try.prog 60 #[.agg #[.string p0, .int .i64 p1, .bool p2, .string p3], .agg #[.string p0, .int .i64 p1, .bool p2, .string p3]] w fun e w' => e = .returned (.bool true) ∧ Below w.heap.size w w' := by
  have d1 : (p1 != p1) = false := by simp
  have d2 : (p2 != p2) = false := by simp
  go_enter Try.func60, Try.ntmps60
  go_wp2
  go_ret
  exact ⟨rfl, ((Below.refl _ _).alloc (Nat.le_refl _) _).alloc (by simp) _⟩
set_option maxRecDepth 20000 in
set_option maxHeartbeats 1000000 in
theorem sz1En (p0 : ByteArray) (p1 : Int) (p2 : Bool) (p3 : ByteArray) (l : Int) (hl : l ≤ 1048576) (hl0 : 0 ≤ l) (h0 : p0.size ≤ 9223372036854775807) (h3 : p3.size ≤ 9223372036854775807) (w : World) :
    Calls Try.prog 58 #[.agg #[.string p0, .int .i64 p1, .bool p2, .string p3], .int .i64 l] w fun e w' => e = .returned (.int .i64 (if (p0.size : Int) + p3.size ≤ l then l - p0.size - p3.size else -1)) ∧ Below w.heap.size w w' := by
  by_cases g0 : l - (p0.size : Int) < 0
  · rw [if_neg (by omega)]
    go_enter Try.func58, Try.ntmps58
    go_wp2
    go_ret
    exact ⟨rfl, (Below.refl _ _).alloc (Nat.le_refl _) _⟩
  ·
    by_cases g3 : l - (p0.size : Int) - (p3.size : Int) < 0
    · rw [if_neg (by omega)]
      go_enter Try.func58, Try.ntmps58
      go_wp2
      go_ret
      exact ⟨rfl, (Below.refl _ _).alloc (Nat.le_refl _) _⟩
    · rw [if_pos (by omega)]
      go_enter Try.func58, Try.ntmps58
      go_wp2
      go_ret
      exact ⟨rfl, (Below.refl _ _).alloc (Nat.le_refl _) _⟩
theorem oneEn (p0 : ByteArray) (p1 : Int) (p2 : Bool) (p3 : ByteArray) : (#[.string p0, .int .i64 p1, .bool p2, .string p3] : Array Value).all (·.oneCell') = true := by simp [Value.oneCell']
set_option maxRecDepth 20000 in
set_option maxHeartbeats 2000000 in
theorem to1En (p0 : ByteArray) (p1 : Int) (p2 : Bool) (p3 : ByteArray) (w : World) :
    Calls Try.prog 59 #[.agg #[.string p0, .int .i64 p1, .bool p2, .string p3]] w fun e w' => e = .returned (.agg #[.string p0, .int .i64 p1, .bool p2, .string p3]) ∧ Below w.heap.size w w' := by
  obtain ⟨W0, hW0⟩ : ∃ W, W = (((w.alloc (.cells #[.string p0, .int .i64 p1, .bool p2, .string p3] 92)).alloc (.cells #[.string ⟨#[]⟩, .int .i64 0, .bool false, .string ⟨#[]⟩] 34)).alloc (.cells #[.string ⟨#[]⟩, .int .i64 0, .bool false, .string ⟨#[]⟩] 34)) := ⟨_, rfl⟩
  have A0 : RowAt W0 w.heap.size 92 #[.string p0, .int .i64 p1, .bool p2, .string p3] := by rw [hW0]; exact ((RowAt.new _ _ _).alloc _).alloc _
  have R0 : RowAt W0 (w.heap.size + 1) 34 #[.string ⟨#[]⟩, .int .i64 0, .bool false, .string ⟨#[]⟩] := by rw [hW0]; exact (RowAt.next _ _ _ (by rw [size_al])).alloc _
  have O0 : RowAt W0 (w.heap.size + 1 + 1) 34 #[.string ⟨#[]⟩, .int .i64 0, .bool false, .string ⟨#[]⟩] := by rw [hW0]; exact RowAt.next _ _ _ (by simp only [size_al])
  have B0 : Below w.heap.size w W0 := by rw [hW0]; exact balEn (balEn (balEn (Below.refl _ _) _) _) _
  obtain ⟨W1, hW1⟩ : ∃ W, W = W0.setCell ⟨w.heap.size + 1 + 1, 0, none⟩ (.string p0) := ⟨_, rfl⟩
  have A1 : RowAt W1 w.heap.size 92 #[.string p0, .int .i64 p1, .bool p2, .string p3] := by rw [hW1]; exact A0.other _ _ (by simp; omega)
  have R1 : RowAt W1 (w.heap.size + 1) 34 #[.string ⟨#[]⟩, .int .i64 0, .bool false, .string ⟨#[]⟩] := by rw [hW1]; exact R0.other _ _ (by simp)
  have O1 : RowAt W1 (w.heap.size + 1 + 1) 34 #[.string p0, .int .i64 0, .bool false, .string ⟨#[]⟩] := by rw [hW1]; exact O0.set 0 _
  have B1 : Below w.heap.size w W1 := by rw [hW1]; exact B0.setCell (by simp; omega) _
  have a0 : W0.cell? ⟨w.heap.size, 0, none⟩ = some (.string p0) := A0.cell 0
  have o0 : W0.cell? ⟨w.heap.size + 1 + 1, 0, none⟩ = some (.string ⟨#[]⟩) := O0.cell 0
  have f0 := O0.free 0
  obtain ⟨W2, hW2⟩ : ∃ W, W = W1.setCell ⟨w.heap.size + 1 + 1, 1, none⟩ (.int .i64 p1) := ⟨_, rfl⟩
  have A2 : RowAt W2 w.heap.size 92 #[.string p0, .int .i64 p1, .bool p2, .string p3] := by rw [hW2]; exact A1.other _ _ (by simp; omega)
  have R2 : RowAt W2 (w.heap.size + 1) 34 #[.string ⟨#[]⟩, .int .i64 0, .bool false, .string ⟨#[]⟩] := by rw [hW2]; exact R1.other _ _ (by simp)
  have O2 : RowAt W2 (w.heap.size + 1 + 1) 34 #[.string p0, .int .i64 p1, .bool false, .string ⟨#[]⟩] := by rw [hW2]; exact O1.set 1 _
  have B2 : Below w.heap.size w W2 := by rw [hW2]; exact B1.setCell (by simp; omega) _
  have a1 : W1.cell? ⟨w.heap.size, 1, none⟩ = some (.int .i64 p1) := A1.cell 1
  have o1 : W1.cell? ⟨w.heap.size + 1 + 1, 1, none⟩ = some (.int .i64 0) := O1.cell 1
  have f1 := O1.free 1
  obtain ⟨W3, hW3⟩ : ∃ W, W = W2.setCell ⟨w.heap.size + 1 + 1, 2, none⟩ (.bool p2) := ⟨_, rfl⟩
  have A3 : RowAt W3 w.heap.size 92 #[.string p0, .int .i64 p1, .bool p2, .string p3] := by rw [hW3]; exact A2.other _ _ (by simp; omega)
  have R3 : RowAt W3 (w.heap.size + 1) 34 #[.string ⟨#[]⟩, .int .i64 0, .bool false, .string ⟨#[]⟩] := by rw [hW3]; exact R2.other _ _ (by simp)
  have O3 : RowAt W3 (w.heap.size + 1 + 1) 34 #[.string p0, .int .i64 p1, .bool p2, .string ⟨#[]⟩] := by rw [hW3]; exact O2.set 2 _
  have B3 : Below w.heap.size w W3 := by rw [hW3]; exact B2.setCell (by simp; omega) _
  have a2 : W2.cell? ⟨w.heap.size, 2, none⟩ = some (.bool p2) := A2.cell 2
  have o2 : W2.cell? ⟨w.heap.size + 1 + 1, 2, none⟩ = some (.bool false) := O2.cell 2
  have f2 := O2.free 2
  obtain ⟨W4, hW4⟩ : ∃ W, W = W3.setCell ⟨w.heap.size + 1 + 1, 3, none⟩ (.string p3) := ⟨_, rfl⟩
  have A4 : RowAt W4 w.heap.size 92 #[.string p0, .int .i64 p1, .bool p2, .string p3] := by rw [hW4]; exact A3.other _ _ (by simp; omega)
  have R4 : RowAt W4 (w.heap.size + 1) 34 #[.string ⟨#[]⟩, .int .i64 0, .bool false, .string ⟨#[]⟩] := by rw [hW4]; exact R3.other _ _ (by simp)
  have O4 : RowAt W4 (w.heap.size + 1 + 1) 34 #[.string p0, .int .i64 p1, .bool p2, .string p3] := by rw [hW4]; exact O3.set 3 _
  have B4 : Below w.heap.size w W4 := by rw [hW4]; exact B3.setCell (by simp; omega) _
  have a3 : W3.cell? ⟨w.heap.size, 3, none⟩ = some (.string p3) := A3.cell 3
  have o3 : W3.cell? ⟨w.heap.size + 1 + 1, 3, none⟩ = some (.string ⟨#[]⟩) := O3.cell 3
  have f3 := O3.free 3
  have HW0 := hid hW0
  have HW1 := hid hW1
  have HW2 := hid hW2
  have HW3 := hid hW3
  have HW4 := hid hW4
  have q0 : W4.cell? ⟨w.heap.size + 1 + 1, 0, none⟩ = some (.string p0) := O4.cell 0
  have q1 : W4.cell? ⟨w.heap.size + 1 + 1, 1, none⟩ = some (.int .i64 p1) := O4.cell 1
  have q2 : W4.cell? ⟨w.heap.size + 1 + 1, 2, none⟩ = some (.bool p2) := O4.cell 2
  have q3 : W4.cell? ⟨w.heap.size + 1 + 1, 3, none⟩ = some (.string p3) := O4.cell 3
  have HR := hid R4
  have HB := hid B4
  clear hW0 A0 R0 O0 B0 hW1 A1 R1 O1 B1 hW2 A2 R2 O2 B2 hW3 A3 R3 O3 B3 hW4 A4 R4 O4 B4
  go_enter Try.func59, Try.ntmps59
  go_upto_region 2 with fail
  rw [← HW0.out]
  go_upto_region 3 with fail
  rw [← HW1.out]
  clear a0 o0 f0
  go_upto_region 4 with fail
  rw [← HW2.out]
  clear a1 o1 f1
  go_upto_region 5 with fail
  rw [← HW3.out]
  clear a2 o2 f2
  go_upto_region 6 with fail
  rw [← HW4.out]
  clear a3 o3 f3
  go_wp2_with (refine wpList_store_row rfl 34 (.tmp 2) (.tmp 16) rfl (w.heap.size + 1) #[.string p0, .int .i64 p1, .bool p2, .string p3] rfl rfl _ _ HR.out (by kernel_rfl) rfl (oneEn _ _ _ _) ?_)
  refine bodyPost_ret (v := .agg #[.string p0, .int .i64 p1, .bool p2, .string p3]) ?_ rfl ⟨rfl, below_setRow HB.out _ _ (by omega)⟩
  exact results_cell_row Try.results59 _ _ (w.heap.size + 1) _ _ _ _ rfl (HR.out.setRow _) Try.underlying34 rfl (by kernel_rfl)
end Go.Proofs.Ytnkekdnfbndfbaa
