import Derived.Test.YtefnoeaehglihaaDoorISums2
namespace Go.Proofs.YtefnoeaehglihaaDoor
open Go.RowKit
/-! The program's sumTable: of. -/
theorem Tbl.mine_lt {base R : Nat} {s : ByteArray} {w : World} {hv pv : Value} {n m : Nat} (T : Tbl base R s w hv pv n m) {b : Nat} (h : Mine R hv pv b) : b < w.heap.size := by
  rcases h with h | h | h
  · have := T.lo; have := T.bs; omega
  · exact (World.ownsRow.lt T.hh b h).2
  · exact (World.ownsRow.lt T.hp b h).2
theorem Tbl.mine_lo {base R : Nat} {s : ByteArray} {w : World} {hv pv : Value} {n m : Nat} (T : Tbl base R s w hv pv n m) {b : Nat} (h : Mine R hv pv b) : R ≤ b := by
  rcases h with h | h | h
  · omega
  · have := (World.ownsRow.lt T.hh b h).1; have := T.lo; omega
  · have := (World.ownsRow.lt T.hp b h).1; have := T.lo; omega
set_option maxRecDepth 20000 in
set_option maxHeartbeats 4000000 in
theorem of_all (base R : Nat) (s : ByteArray) (a z : Nat) (haz : a + z ≤ s.size) (hz : z ≤ 400000) (hs : s.size ≤ 1048576) (hv pv : Value) (n m : Nat) (w : World) (T : Tbl base R s w hv pv n m) :
    Calls Tryd.prog 57 #[.pointer (some ⟨R, 1, none⟩), .string s, .agg #[.int .i64 (a : Nat), .int .i64 (z : Nat)], .int .i64 5] w fun e w' => e = .returned (.int .i64 (sumOf (s.extract a (a + z)) 5)) ∧ ∃ hv' pv' n' m', Tbl base R s w' hv' pv' n' m' ∧ Step (Mine R hv pv) w (Mine R hv' pv') w' := by
  have HT := hid T
  have nB : ¬ Mine R hv pv w.heap.size := fun q => by have := T.mine_lt q; omega
  have waz : IntKind.i64.wrap ((a : Int) + (z : Int)) = (a : Int) + (z : Int) := by simp [IntKind.wrap, IntKind.bits, IntKind.signed]; omega
  have RE := fun w T => hid (reach_all base R s (a + z) haz hs hv pv n m w T)
  rw [show ((a + z : Nat) : Int) = (a : Int) + (z : Int) by omega] at RE
  have TS := hid (table_sum s a z haz hz)
  clear T
  go_enter Tryd.func57, Tryd.ntmps57
  go_wp2_with fail
  refine (RE _ (HT.out.alloc _)).out.mono ?_
  rintro e w1 ⟨rfl, hv1, n1, T1, hn1, S1⟩
  have hB1 : Blk w1 w.heap.size #[.int .i64 (a : Nat), .int .i64 (z : Nat)] 52 := S1.blk (Blk.made w _ _) nB
  have S01 : Hid (Step (Mine R hv pv) w (Mine R hv1 pv) w1) := (Step.of_below ((Below.refl _ _).alloc (Nat.le_refl _) _)).trans S1
  have HT1 := hid T1
  rcases T1.hh.shape with ⟨q, q2⟩ | ⟨g1, c1, hpv, hcap⟩
  · rw [hdL_len] at q2; omega
  rw [hdL_len] at hpv hcap
  subst hpv
  have k1 := T1.blk.cell 1 _ rfl
  have b0 := hB1.cell 0 _ rfl
  have b1 := hB1.cell 1 _ rfl
  have ca : w1.cell? ⟨g1, a, none⟩ = some (.int .i64 (hd s a)) := by
    have := T1.hh.at a (by rw [hdL_len]; omega)
    rw [this]; simp [hdL, show a < n1 by omega]
  have bda := hd_bd s a
  obtain ⟨x, hx⟩ : ∃ x, x = hd s a := ⟨_, rfl⟩
  rw [← hx] at ca TS bda
  obtain ⟨x0, x1⟩ := bda
  have tm : (6 + 2147483647 - x).tmod 2147483647 = (6 + 2147483647 - x) % 2147483647 := Int.tmod_eq_emod_of_nonneg (by omega)
  have tm' : (2147483653 - x).tmod 2147483647 = (6 + 2147483647 - x) % 2147483647 := by rw [show (2147483653 : Int) - x = 6 + 2147483647 - x by omega]; exact tm
  have wz1 : IntKind.i64.wrap 2147483653 = 2147483653 := by decide
  have wz2 : IntKind.i64.wrap (2147483653 - x) = 2147483653 - x := by simp [IntKind.wrap, IntKind.bits, IntKind.signed]; omega
  obtain ⟨ah, hah⟩ : ∃ y, y = (6 + 2147483647 - x) % 2147483647 := ⟨_, rfl⟩
  have ah0 : 0 ≤ ah := by omega
  have ah1 : ah < 2147483647 := by omega
  rw [← hah] at tm' TS
  have nB1 : Hid (¬ Mine R (.slice (some ⟨g1, 0, none⟩) n1 c1) pv w.heap.size) := fun q => by rcases S1.own _ q with r | r; (exact nB r); (rw [World.size_alloc] at r; omega)
  have ce : w1.cell? ⟨g1, a + z, none⟩ = some (.int .i64 (hd s (a + z))) := by
    have := T1.hh.at (a + z) (by rw [hdL_len]; omega)
    rw [this]; simp [hdL, show a + z < n1 by omega]
  have bde := hd_bd s (a + z)
  obtain ⟨y, hy⟩ : ∃ x, x = hd s (a + z) := ⟨_, rfl⟩
  rw [← hy] at ce TS bde
  obtain ⟨y0, y1⟩ := bde
  have PW := fun w T => hid (power_all base R s z (by omega) hs (.slice (some ⟨g1, 0, none⟩) n1 c1) pv n1 m w T)
  have bdp := pw_bd z
  obtain ⟨pz, hpz⟩ : ∃ x, x = pw z := ⟨_, rfl⟩
  rw [← hpz] at PW TS bdp
  have m0 : 0 ≤ ah * pz := Int.mul_nonneg ah0 bdp.1
  have m1 : ah * pz ≤ 2147483646 * 2147483646 := Int.mul_le_mul (by omega) (by omega) bdp.1 (by decide)
  have wm : IntKind.i64.wrap (ah * pz) = ah * pz := by simp [IntKind.wrap, IntKind.bits, IntKind.signed]; omega
  have wa : IntKind.i64.wrap (y + ah * pz) = y + ah * pz := by simp [IntKind.wrap, IntKind.bits, IntKind.signed]; omega
  have ta : (y + ah * pz).tmod 2147483647 = (y + ah * pz) % 2147483647 := Int.tmod_eq_emod_of_nonneg (by omega)
  have ie0 : (0 : Int) ≤ (a : Int) + (z : Int) := by omega
  have ie1 : (a : Int) + (z : Int) < (n1 : Int) := by omega
  have iet : ((a : Int) + (z : Int)).toNat = a + z := by omega
  have FS := fun w => hid (ifirstSum 5 (by decide) (by decide) w)
  have ia0 : (0 : Int) ≤ (a : Int) := by omega
  have ia1 : (a : Int) < (n1 : Int) := by omega
  have HN1 := hid hn1
  have HBX := hid hB1
  have CE : Hid (hd s (a + z) = y) := hy.symm
  have HW1 : Hid (w.heap.size < w1.heap.size) := hB1.lt
  clear T1 S1 RE hB1 hx hn1 tm hah hy hpz bdp m0 m1
  go_wp2_with fail
  go_region_held3 (fun wx => (wx.cell? ⟨R, 1, none⟩ = some (.slice (some ⟨g1, 0, none⟩) n1 c1) ∧ wx.cell? ⟨w.heap.size, 0, none⟩ = some (.int .i64 (a : Nat))) ∧ wx.cell? ⟨g1, a, none⟩ = some (.int .i64 x)) (first | exact ⟨⟨k1, b0⟩, ca⟩ | (go_keep; done)) ((go_at_call 44; refine (FS _).out.mono ?_; rintro e v1 ⟨rfl, rfl⟩))
  go_wp2_with fail
  go_region_held3 (fun wx => (wx.cell? ⟨R, 1, none⟩ = some (.slice (some ⟨g1, 0, none⟩) n1 c1) ∧ wx.cell? ⟨w.heap.size, 1, none⟩ = some (.int .i64 (z : Nat))) ∧ wx.cell? ⟨g1, a + z, none⟩ = some (.int .i64 y)) (first | exact ⟨⟨k1, b1⟩, ce⟩ | exact ⟨⟨k9, b9⟩, c9⟩ | (go_keep; done)) ((go_at_call 62; refine (PW _ (by first | exact HT1.out | exact HT1.out.drew | exact HT1.out.drew.drew)).out.mono ?_; rintro e w9 ⟨rfl, pv9, m9, T9, S9⟩; have HT9 := hid T9; have HS9 := hid S9; have k9 : w9.cell? ⟨R, 1, none⟩ = some (.slice (some ⟨g1, 0, none⟩) n1 c1) := T9.blk.cell 1 _ rfl; have b9 : w9.cell? ⟨w.heap.size, 1, none⟩ = some (.int .i64 (z : Nat)) := (Step.blk S9 HBX.out nB1.out).cell 1 _ rfl; have c9 : w9.cell? ⟨g1, a + z, none⟩ = some (.int .i64 y) := (by rw [T9.hh.at (a + z) (by rw [hdL_len]; have := HN1.out; omega), ← CE.out]; have := HN1.out; simp [hdL, show a + z < n1 by omega]); clear T9 S9))
  all_goals go_wp2
  all_goals go_ret
  all_goals exact ⟨by rw [← TS.out]; rfl, _, _, _, _, HT9.out, S01.out.trans (by first | exact HS9.out | exact (Step.of_below (Below.refl _ _).drew).trans HS9.out | exact (Step.of_below (Below.refl _ _).drew.drew).trans HS9.out)⟩
end Go.Proofs.YtefnoeaehglihaaDoor
