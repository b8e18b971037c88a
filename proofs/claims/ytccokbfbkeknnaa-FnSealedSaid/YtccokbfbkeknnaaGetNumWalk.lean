import Derived.Test.YtccokbfbkeknnaaSGetNum
namespace Go.Proofs.Ytccokbfbkeknnaa
open Go.RowKit
theorem getNum_out (s : ByteArray) (p : Int) (h : p < 0 ∨ s.size ≤ p) : getNum s p = none := by
  refine getNum_none s p ?_
  have : restL s p = [] := by
    unfold restL
    split
    · rfl
    · obtain ⟨a, rfl⟩ := Int.eq_ofNat_of_zero_le (show 0 ≤ p by omega)
      rw [List.drop_of_length_le (by simp; omega)]
  rw [this]; rfl
set_option maxHeartbeats 400000 in
theorem sgetNum_out (s : ByteArray) (p : Int) (h : p < 0 ∨ s.size ≤ p) (w : World) :
    Calls Try.prog 58 #[.string s, .int .i64 p] w fun e w' => e = .returned (numV p (getNum s p)) ∧ Below w.heap.size w w' := by
  have HN := hid (getNum_out s p h)
  by_cases h0 : p < 0
  · have d0 : decide (p < 0) = true := by simp; omega
    go_enter Try.func58, Try.ntmps58
    go_wp2
    refine bodyPost_ret (v := .agg #[.bool false, .int .i64 0, .int .i64 0]) (by simp [results, Try.results58, go_sem]) rfl ⟨by rw [HN.out]; rfl, ?_⟩
    exact (Below.refl _ _).alloc (Nat.le_refl _) _
  · have d0 : decide (p < 0) = false := by simp; omega
    have d1 : decide ((s.size : Int) ≤ p) = true := by simp; omega
    go_enter Try.func58, Try.ntmps58
    go_wp2
    refine bodyPost_ret (v := .agg #[.bool false, .int .i64 0, .int .i64 0]) (by simp [results, Try.results58, go_sem]) rfl ⟨by rw [HN.out]; rfl, ?_⟩
    exact (Below.refl _ _).alloc (Nat.le_refl _) _
theorem sgetNum_all (s : ByteArray) (p : Int) (hs : s.size ≤ 1048576) (w : World) :
    Calls Try.prog 58 #[.string s, .int .i64 p] w fun e w' => e = .returned (numV p (getNum s p)) ∧ Below w.heap.size w w' := by
  by_cases h : p < 0 ∨ s.size ≤ p
  · exact sgetNum_out s p h w
  · obtain ⟨a, rfl⟩ := Int.eq_ofNat_of_zero_le (show 0 ≤ p by omega)
    exact sgetNum_in s a hs (by omega) w
end Go.Proofs.Ytccokbfbkeknnaa
