import Derived.Test.YteimhnklebppkahSGetNum
namespace Go.Proofs.Yteimhnklebppkah
open Go.RowKit
theorem getNum_out (s : ByteArray) (p : Int) (h : p < 0 ∨ s.size ≤ p) : getNum s p = none := by
  refine getNum_none s p ?_
  have : restL s p = [] := by
    unfold restL
    split
    · rfl
    · obtain ⟨a, rfl⟩ := Int.eq_ofNat_of_zero_le (show 0 ≤ p by omega)
      rw [List.drop_of_length_le (by simp; omega)]
  rw [this]; rfl
set_option maxHeartbeats 400000 in
theorem sgetNum_out (s : ByteArray) (p : Int) (h : p < 0 ∨ s.size ≤ p) (w : World) :
    Calls Try.prog 9 #[.string s, .int .i64 p] w fun e w' => e = .returned (numV p (getNum s p)) ∧ Below w.heap.size w w' := by
  have HN := hid (getNum_out s p h)
  by_cases h0 : p < 0
  · have d0 : decide (p < 0) = true := by simp; omega
    go_enter Try.func9, Try.ntmps9
    go_wp2
    refine bodyPost_ret (v := .agg #[.bool false, .int .i64 0, .int .i64 0]) (by simp [results, Try.results9, go_sem]) rfl ⟨by rw [HN.out]; rfl, ?_⟩
    exact (Below.refl _ _).alloc (Nat.le_refl _) _
  · have d0 : decide (p < 0) = false := by simp; omega
    have d1 : decide ((s.size : Int) ≤ p) = true := by simp; omega
    go_enter Try.func9, Try.ntmps9
    go_wp2
    refine bodyPost_ret (v := .agg #[.bool false, .int .i64 0, .int .i64 0]) (by simp [results, Try.results9, go_sem]) rfl ⟨by rw [HN.out]; rfl, ?_⟩
    exact (Below.refl _ _).alloc (Nat.le_refl _) _
theorem sgetNum_all (s : ByteArray) (p : Int) (hs : s.size ≤ 1048576) (w : World) :
    Calls Try.prog 9 #[.string s, .int .i64 p] w fun e w' => e = .returned (numV p (getNum s p)) ∧ Below w.heap.size w w' := by
  by_cases h : p < 0 ∨ s.size ≤ p
  · exact sgetNum_out s p h w
  · obtain ⟨a, rfl⟩ := Int.eq_ofNat_of_zero_le (show 0 ≤ p by omega)
    exact sgetNum_in s a hs (by omega) w
theorem numV_form (p : Int) (r : Option (Nat × Nat)) : ∃ g x y, numV p r = .agg #[.bool g, .int .i64 x, .int .i64 y] := by
  cases r with
  | none => exact ⟨_, _, _, rfl⟩
  | some q => obtain ⟨v, n⟩ := q; exact ⟨_, _, _, rfl⟩
set_option maxHeartbeats 400000 in
theorem eqNum_same (g : Bool) (x y : Int) (w : World) :
    Calls Try.prog 11 #[.agg #[.bool g, .int .i64 x, .int .i64 y], .agg #[.bool g, .int .i64 x, .int .i64 y]] w fun e w' => e = .returned (.bool true) ∧ Below w.heap.size w w' := by
  go_enter Try.func11, Try.ntmps11
  go_wp2
  go_ret
  exact ⟨rfl, ((Below.refl _ _).alloc (Nat.le_refl _) _).alloc (by simp) _⟩
set_option maxHeartbeats 400000 in
theorem fnExactGetNum_walk (s : ByteArray) (hs0 : s.size ≤ maxLen) (p : Int) (_ : (Lit.int .i64 p).wf = true) (w : World) :
    Calls Try.prog 3 #[.string s, .int .i64 p] w fun e w' => e = .returned (.bool true) ∧ Below w.heap.size w w' := by
  unfold maxLen at hs0
  by_cases hs : s.size ≤ 1048576
  · obtain ⟨g, x, y, hv⟩ := numV_form p (getNum s p)
    have HV := hid hv
    clear hv
    go_enter Try.func3, Try.ntmps3
    go_wp2_with fail
    refine (sgetNum_all s p hs _).mono ?_
    rintro e w1 ⟨rfl, hb1⟩
    rw [HV.out]
    go_wp2_with fail
    refine (igetNum_all s p hs _).mono ?_
    rintro e w2 ⟨rfl, hb2⟩
    have hz : w1.heap.size < w2.heap.size := by have := hb2.size; simp at this; omega
    have hB : Blk w2 w1.heap.size #[.bool g, .int .i64 x, .int .i64 y] 23 := (hb2.block _ (by simp)).trans (Blk.made w1 _ _)
    have q0 := hB.cell 0 _ rfl
    have q1 := hB.cell 1 _ rfl
    have q2 := hB.cell 2 _ rfl
    have HB : Hid (Below w.heap.size w w2) := (hb1.alloc hb1.size _).trans (hb2.mono (by have := hb1.size; simp; omega))
    have hsz : w.heap.size ≤ w2.heap.size := HB.out.size
    clear hb1 hb2 hB
    rw [HV.out]
    go_wp2_with fail
    refine (eqNum_same g x y _).mono ?_
    rintro e w3 ⟨rfl, hb3⟩
    go_wp2
    go_ret
    exact ⟨rfl, (HB.out.alloc hsz _).trans (hb3.mono (by simp; omega))⟩
  · go_enter Try.func3, Try.ntmps3
    go_wp2_with fail
    go_ret
    exact ⟨rfl, Below.refl _ _⟩
end Go.Proofs.Yteimhnklebppkah
