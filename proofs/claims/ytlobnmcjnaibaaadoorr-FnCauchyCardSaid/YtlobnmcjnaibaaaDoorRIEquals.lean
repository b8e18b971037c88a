import Derived.Test.YtlobnmcjnaibaaaDoorRISmall
namespace Go.Proofs.YtlobnmcjnaibaaaDoorR
open Go.RowKit
theorem pad_eq {xs ys ts us : List Nat} {q : Nat} (hq : q ≤ 64) (hx : xs.length = q) (hy : ys.length = q) (h1 : ∀ p, ts.getD p 0 = if p < q then xs.getD p 0 else 0) (h2 : ∀ p, us.getD p 0 = if p < q then ys.getD p 0 else 0) :
    ((List.range 64).all fun i => decide (ts.getD i 0 = us.getD i 0)) = decide (xs = ys) := by
  by_cases e : xs = ys
  · subst e
    rw [decide_eq_true rfl, List.all_eq_true]
    intro i _
    rw [h1, h2]; simp
  · rw [decide_eq_false e, Bool.eq_false_iff]
    intro h
    rw [List.all_eq_true] at h
    apply e
    apply List.ext_getElem?
    intro i
    by_cases hi : i < q
    · have := h i (List.mem_range.2 (by omega))
      rw [h1, h2, if_pos hi, if_pos hi, List.getD_eq_getElem?_getD, List.getD_eq_getElem?_getD] at this
      rw [List.getElem?_eq_getElem (by omega), List.getElem?_eq_getElem (by omega)] at this ⊢
      simpa using this
    · rw [List.getElem?_eq_none (by omega), List.getElem?_eq_none (by omega)]
set_option maxRecDepth 20000 in
set_option maxHeartbeats 4000000 in
theorem iequals (R C ga gb q : Nat) (xs ys : List Nat) (w : World) (hq8 : q ≤ 8192) (ha : Gr w ga xs) (hb : Gr w gb ys) (hx : xs.length = q) (hy : ys.length = q) (sx : Small xs) (sy : Small ys) :
    Calls Tryd.prog 43 #[grv R C ga q, grv R C gb q] w fun e w' => e = .returned (.bool (decide (xs = ys))) ∧ Below w.heap.size w w' := by
  obtain ⟨W, hW⟩ : ∃ W, W = (w.alloc (.cells #[.int .i64 R, .int .i64 C, .slice (some ⟨ga, 0, none⟩) q q] 46)).alloc (.cells #[.int .i64 R, .int .i64 C, .slice (some ⟨gb, 0, none⟩) q q] 46) := ⟨_, rfl⟩
  have hWs : W.heap.size = w.heap.size + 1 + 1 := by rw [hW]; simp only [size_al]
  have A0 : Hid (RowAt W w.heap.size 46 #[.int .i64 R, .int .i64 C, .slice (some ⟨ga, 0, none⟩) q q]) := by rw [hW]; exact (RowAt.new w _ _).alloc _
  have B0 : Hid (RowAt W (w.heap.size + 1) 46 #[.int .i64 R, .int .i64 C, .slice (some ⟨gb, 0, none⟩) q q]) := by rw [hW]; exact RowAt.next (w.alloc _) _ _ (by rw [size_al])
  have ZA : Hid (Gr W ga xs) := by rw [hW]; exact (ha.alloc _).alloc _
  have ZB : Hid (Gr W gb ys) := by rw [hW]; exact (hb.alloc _).alloc _
  have L0 : Hid (Below w.heap.size w W) := by rw [hW]; exact ((Below.refl _ _).alloc (Nat.le_refl _) _).alloc (by rw [size_al]; omega) _
  have la : ga < W.heap.size := ZA.out.lt
  have lb : gb < W.heap.size := ZB.out.lt
  have a0 := A0.out.cell 0
  have a1 := A0.out.cell 1
  have a2 := A0.out.cell 2
  have b0 := B0.out.cell 0
  have b1 := B0.out.cell 1
  have b2 := B0.out.cell 2
  have dR : ((R : Int) != (R : Int)) = false := by simp
  have dC : ((C : Int) != (C : Int)) = false := by simp
  have HX := hid hx
  have HY := hid hy
  have SX := hid sx
  have SY := hid sy
  clear ha hb hx hy sx sy
  obtain ⟨r, hr⟩ : ∃ r, r = decide (xs = ys) := ⟨_, rfl⟩
  rw [← hr]
  by_cases h64 : q ≤ 64
  · have d0 : decide ((q : Int) ≤ 64) = true := by simp; omega
    have HR := hid hr
    clear hr
    go_enter Tryd.func43, Tryd.ntmps43
    go_wp2_with fail
    rw [← hW]
    clear hW
    go_wp2_with fail
    go_region_held3 (fun wx => wx.cell? ⟨w.heap.size, 0, none⟩ = some (.int .i64 R) ∧ wx.cell? ⟨w.heap.size, 1, none⟩ = some (.int .i64 C) ∧ wx.cell? ⟨w.heap.size, 2, none⟩ = some (.slice (some ⟨ga, 0, none⟩) q q) ∧ wx.cell? ⟨w.heap.size + 1, 0, none⟩ = some (.int .i64 R) ∧ wx.cell? ⟨w.heap.size + 1, 1, none⟩ = some (.int .i64 C) ∧ wx.cell? ⟨w.heap.size + 1, 2, none⟩ = some (.slice (some ⟨gb, 0, none⟩) q q))
      ((first | (go_keep; done) | exact ⟨A2.cell 0, A2.cell 1, A2.cell 2, B2.cell 0, B2.cell 1, B2.cell 2⟩ | exact ⟨A1.cell 0, A1.cell 1, A1.cell 2, B1.cell 0, B1.cell 1, B1.cell 2⟩))
      ((first
        | (go_at_call 52; (fail_if_success have hh := hb1); refine (ismall R C ga q xs _ ZA.out.drew HX.out h64).mono ?_; rintro e w1 ⟨ts1, rfl, l1, p1, hb1⟩; have A1 := A0.out.drew.below hb1 (by show _ < W.heap.size; omega); have B1 := B0.out.drew.below hb1 (by show _ < W.heap.size; omega))
        | (go_at_call 52; refine (ismall R C gb q ys _ (ZB.out.drew.below hb1 lb) HY.out h64).mono ?_; rintro e w2 ⟨ts2, rfl, l2, p2, hb2⟩; have A2 := A1.below hb2 A1.lt; have B2 := B1.below hb2 B1.lt; have L2 := L0.out.drew.trans ((hb1.trans (hb2.mono hb1.size)).mono L0.out.size); have HC : ∀ w, (Op.equalIn 10000 70 (.agg (cells8 ts1)) (.agg (cells8 ts2))).run Tryd.prog w = .ok r w := fun w => (eq_arr8 9998 ts1 ts2 l1 l2 w).trans (by rw [pad_eq h64 HX.out HY.out p1 p2, HR.out]))))
    have L2' := hid L2
    clear L2 A1 A2 B1 B2 hb1 hb2 p1 p2 HC l1 l2
    go_wp2
    go_ret
    exact ⟨rfl, L2'.out⟩
  · have d0 : decide ((q : Int) ≤ 64) = false := by simp; omega
    go_enter Tryd.func43, Tryd.ntmps43
    go_wp2_with fail
    rw [← hW]
    clear hW
    go_wp2_with fail
    refine (ibequal ga gb q xs ys _ ZA.out ZB.out HX.out HY.out SX.out SY.out).mono ?_
    rintro e w1 ⟨rfl, rfl⟩
    go_wp2
    go_ret
    exact ⟨by rw [hr]; rfl, L0.out⟩
end Go.Proofs.YtlobnmcjnaibaaaDoorR
