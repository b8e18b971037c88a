import Derived.Test.YtlobnmcjnaibaajDoorMatMulCore
namespace Go.Proofs.YtlobnmcjnaibaajDoor
open Go.RowKit
theorem fnExactMatMul_small (r c : Int) (a : Option Addr) (len cap : Nat) (xs : List Int) (r' c' : Int) (a' : Option Addr) (len' cap' : Nat) (ys : List Int) (w : World) (hT : Tab w) (h : Ints .i64 w a len cap xs) (h' : Ints .i64 w a' len' cap' ys) (hsum : len + len' ≤ 1048576) :
    Calls Tryd.prog 3 #[.agg #[.int .i64 r, .int .i64 c, .slice a len cap], .agg #[.int .i64 r', .int .i64 c', .slice a' len' cap']] w fun e w' => e = .returned (.bool true) ∧ Below w.heap.size w w' := by
  have hxl := h.1
  have hyl := h'.1
  by_cases hok : mfault r c xs = 0 ∧ mfault r' c' ys = 0 ∧ c = r'
  · obtain ⟨f1, f2, hc⟩ := hok
    obtain ⟨R, C, rfl, rfl, h1, h2, h3, h4, us, rfl, h5, h6⟩ := mfault_ok f1
    obtain ⟨C', D, e1, rfl, g1, g2, g3, g4, vs, rfl, g5, g6⟩ := mfault_ok f2
    subst e1
    obtain rfl : C = C' := by omega
    rw [nl_len] at hxl hyl
    have hq : R * D ≤ 64 * 64 := Nat.mul_le_mul h2 g4
    refine fnExactMatMul_core 0 R D (nl (mulL us vs R C D)) (by rw [nl_len, mulL_len]; omega) R C a len cap (nl us) C D a' len' cap' (nl vs) w hT h h' hsum (fun b b' w hw hw' => ?_) (fun b b' w hT hw hw' => ?_)
    · refine (smatmul_ok R C D h1 h2 h3 h4 g3 g4 us vs (small_of h6) (small_of g6) h5 g5 (some ⟨b, 0, none⟩) len len (some ⟨b', 0, none⟩) len' len' w (hw.ints2 (by rw [nl_len]; exact hxl)) (hw'.ints2 (by rw [nl_len]; exact hyl)) f1 f2).mono ?_
      rintro e w' ⟨g, he, hg, hW, hb⟩
      exact Ans.yes he hg hW (by rw [nl_len, mulL_len]) hb
    · refine (imatmul_ok R C D h1 h2 h3 h4 g3 g4 us vs (small_of h6) (small_of g6) h5 g5 (some ⟨b, 0, none⟩) len len (some ⟨b', 0, none⟩) len' len' w hT (hw.ints2 (by rw [nl_len]; exact hxl)) (hw'.ints2 (by rw [nl_len]; exact hyl)) f1 f2).mono ?_
      rintro e w' ⟨g, q, hq, he, hg, hW, hb⟩
      exact Ans.yes he hg hW (by rw [nl_len, mulL_len]; exact hq.symm) hb
  · refine fnExactMatMul_core 1 0 0 [] (by decide) r c a len cap xs r' c' a' len' cap' ys w hT h h' hsum (fun b b' w hw hw' => ?_) (fun b b' w hT hw hw' => ?_)
    · refine (smatmul_no r c r' c' xs ys (some ⟨b, 0, none⟩) len len (some ⟨b', 0, none⟩) len' len' w (hw.ints2 hxl) (hw'.ints2 hyl) (by omega) (by omega) hok).mono ?_
      rintro e w' ⟨he, hb⟩
      exact Ans.no he hb
    · refine (imatmul_no r c r' c' xs ys (some ⟨b, 0, none⟩) len len (some ⟨b', 0, none⟩) len' len' w (hw.ints2 hxl) (hw'.ints2 hyl) (by omega) (by omega) hok).mono ?_
      rintro e w' ⟨he, hb⟩
      exact Ans.no he hb
set_option maxRecDepth 20000 in
set_option maxHeartbeats 1000000 in
theorem fnExactMatMul_walk {w : World} (hT : Tab w) (r : Int) (_wr : (Lit.int .i64 r).wf = true) (c : Int) (_wc : (Lit.int .i64 c).wf = true) (a : Option Addr) (len cap : Nat) (zs : List Int) (h : IsRow .i64 w a len cap zs) (r' : Int) (_wr' : (Lit.int .i64 r').wf = true) (c' : Int) (_wc' : (Lit.int .i64 c').wf = true) (a' : Option Addr) (len' cap' : Nat) (zs' : List Int) (h' : IsRow .i64 w a' len' cap' zs') :
    Calls Tryd.prog 3 #[.agg #[.int .i64 r, .int .i64 c, .slice a len cap], .agg #[.int .i64 r', .int .i64 c', .slice a' len' cap']] w fun e w' => e = .returned (.bool true) ∧ Below w.heap.size w w' := by
  have hm := h.le
  have hm' := h'.le
  unfold maxLen at hm hm'
  by_cases hsum : len + len' ≤ 1048576
  · exact fnExactMatMul_small r c a len cap _ r' c' a' len' cap' _ w hT (Ints.of_isRow h) (Ints.of_isRow h') hsum
  · have bA : Below w.heap.size w ((w.alloc (.cells #[.int .i64 r, .int .i64 c, .slice a len cap] 24)).alloc (.cells #[.int .i64 r', .int .i64 c', .slice a' len' cap'] 24)) := ((Below.refl _ _).alloc (Nat.le_refl _) _).alloc (by rw [size_al]; omega) _
    have BA := hid bA
    clear h h' hT bA
    by_cases hle : len ≤ 1048576
    · have dL : decide ((1048576 : Int) - (len : Int) < 0) = false := by simp; omega
      have rQ : RowAt ((w.alloc (.cells #[.int .i64 r, .int .i64 c, .slice a len cap] 24)).alloc (.cells #[.int .i64 r', .int .i64 c', .slice a' len' cap'] 24)) (w.heap.size + 1) 24 #[.int .i64 r', .int .i64 c', .slice a' len' cap'] := RowAt.next (w.alloc _) _ _ (by rw [size_al])
      have RQ := hid rQ
      clear rQ
      go_enter Tryd.func3, Tryd.ntmps3
      go_wp2_with fail
      refine (szMx r c a len cap 1048576 (by decide) (by decide) (by omega) _).mono ?_
      rintro e w1 ⟨rfl, hb1⟩
      rw [if_pos (show (len : Int) ≤ 1048576 by omega)]
      have B1 := hid (BA.out.trans (hb1.mono (by simp only [size_al]; omega)))
      have r1 := RQ.out.below hb1 (by simp only [size_al]; omega)
      clear hb1 BA RQ
      go_wp2_with (refine wpList_load_row rfl 24 (.tmp 3) rfl (w.heap.size + 1) rfl _ _ _ _ r1 Tryd.underlying24 rfl (by kernel_rfl) ?_)
      refine (szMx r' c' a' len' cap' (1048576 - (len : Int)) (by omega) (by omega) (by omega) _).mono ?_
      rintro e w2 ⟨rfl, hb2⟩
      rw [if_neg (show ¬ (len' : Int) ≤ 1048576 - (len : Int) by omega)]
      have B2 := hid (B1.out.trans (hb2.mono B1.out.size))
      clear hb2 r1
      go_wp2
      go_ret
      exact ⟨rfl, B2.out⟩
    · go_enter Tryd.func3, Tryd.ntmps3
      go_wp2_with fail
      refine (szMx r c a len cap 1048576 (by decide) (by decide) (by omega) _).mono ?_
      rintro e w1 ⟨rfl, hb1⟩
      rw [if_neg (show ¬ (len : Int) ≤ 1048576 by omega)]
      have B1 := hid (BA.out.trans (hb1.mono (by simp only [size_al]; omega)))
      clear hb1
      go_wp2
      go_ret
      exact ⟨rfl, B1.out⟩
end Go.Proofs.YtlobnmcjnaibaajDoor
