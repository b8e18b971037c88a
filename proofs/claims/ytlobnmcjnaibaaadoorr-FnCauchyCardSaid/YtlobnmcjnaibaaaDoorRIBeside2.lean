import Derived.Test.YtlobnmcjnaibaaaDoorRIBeside
namespace Go.Proofs.YtlobnmcjnaibaaaDoorR
open Go.RowKit
set_option maxRecDepth 20000 in
set_option maxHeartbeats 8000000 in
theorem ibeside (R C D N ga gb qa qb q : Nat) (xs ys : List Nat) (w : World) (hR1 : 1 ≤ R) (hR : R ≤ 64) (hC1 : 1 ≤ C) (hD1 : 1 ≤ D) (hN : N = C + D) (hN2 : N ≤ 128) (hqa : qa = R * C) (hqb : qb = R * D) (hq : q = R * N) (ha : Gr w ga xs) (hb : Gr w gb ys) (hx : xs.length = qa) (hy : ys.length = qb) (sx : Small xs) (sy : Small ys) :
    Calls Tryd.prog 44 #[grv R C ga qa, grv R D gb qb] w fun e w' => ∃ g zs, e = .returned (grv R N g q) ∧ w.heap.size ≤ g ∧ Gr w' g zs ∧ zs.length = q ∧ Small zs ∧ (∀ i j, i < R → j < N → mo N zs i j = if j < C then mo C xs i j else mo D ys i (j - C)) ∧ Below w.heap.size w w' := by
  have hqb2 : q ≤ 64 * 128 := by rw [hq]; exact Nat.mul_le_mul hR hN2
  have hq8 : q ≤ 8192 := by omega
  have a8 : qa ≤ 8192 := by have : qa ≤ 64 * 128 := by { rw [hqa]; exact Nat.mul_le_mul hR (by omega) }; omega
  have b8 : qb ≤ 8192 := by have : qb ≤ 64 * 128 := by { rw [hqb]; exact Nat.mul_le_mul hR (by omega) }; omega
  have hqi : Hid ((R : Int) * (N : Int) = (q : Int)) := by show _ = _; rw [hq]; simp
  have hNi : (C : Int) + (D : Int) = (N : Int) := by omega
  have hN1 : 1 ≤ N := by omega
  have HQ := hid hq
  have HQA := hid hqa
  have HQB := hid hqb
  have HX := hid hx
  have HY := hid hy
  have SX := hid sx
  have SY := hid sy
  obtain ⟨W, hW⟩ : ∃ W, W = ((w.alloc (.cells #[.int .i64 R, .int .i64 C, .slice (some ⟨ga, 0, none⟩) qa qa] 46)).alloc (.cells #[.int .i64 R, .int .i64 D, .slice (some ⟨gb, 0, none⟩) qb qb] 46)).alloc (.cells #[.int .i64 0, .int .i64 0, .slice none 0 0] 46) := ⟨_, rfl⟩
  have hWs : W.heap.size = w.heap.size + 1 + 1 + 1 := by rw [hW]; simp only [size_al]
  have A0 : Hid (RowAt W w.heap.size 46 #[.int .i64 R, .int .i64 C, .slice (some ⟨ga, 0, none⟩) qa qa]) := by rw [hW]; exact ((RowAt.new w _ _).alloc _).alloc _
  have B0 : Hid (RowAt W (w.heap.size + 1) 46 #[.int .i64 R, .int .i64 D, .slice (some ⟨gb, 0, none⟩) qb qb]) := by rw [hW]; exact (RowAt.next (w.alloc _) _ _ (by rw [size_al])).alloc _
  have R0 : Hid (RowAt W (w.heap.size + 1 + 1) 46 #[.int .i64 0, .int .i64 0, .slice none 0 0]) := by rw [hW]; exact RowAt.next ((w.alloc _).alloc _) _ _ (by rw [size_al, size_al])
  have ZA : Hid (Gr W ga xs) := by rw [hW]; exact ((ha.alloc _).alloc _).alloc _
  have ZB : Hid (Gr W gb ys) := by rw [hW]; exact ((hb.alloc _).alloc _).alloc _
  have L0 : Hid (Below w.heap.size w W) := by rw [hW]; exact (((Below.refl _ _).alloc (Nat.le_refl _) _).alloc (by rw [size_al]; omega) _).alloc (by rw [size_al, size_al]; omega) _
  have la : ga < W.heap.size := ZA.out.lt
  have lb : gb < W.heap.size := ZB.out.lt
  clear ha hb hx hy sx sy hq hqa hqb hqb2 hN
  have a0 := A0.out.cell 0
  have a1 := A0.out.cell 1
  have b1 := B0.out.cell 1
  go_enter Tryd.func44, Tryd.ntmps44
  go_wp2_with fail
  rw [← hW]
  clear hW
  go_wp2_with fail
  refine (inewB R N q _ hqi (by omega)).mono ?_
  rintro e w1 ⟨g, rfl, hg, hG, hbw⟩
  have S0 := hid (NgSt.start (R := R) (C := N) (q := q) hG List.length_replicate hbw hg)
  have a0' := (A0.out.below S0.out.bel (by omega)).cell 0
  obtain ⟨m, hm⟩ : ∃ m, m = w1.heap.size := ⟨_, rfl⟩
  clear hbw hG
  clear a0 a1 b1
  go_wp2
  rw [← hm] at S0 ⊢
  clear hm a0'
  go_loopw [17] (fun x wr => ∃ (I : Nat) (zs : List Nat), I ≤ R ∧ x = .int .i64 I ∧ NgSt W wr m g R N q zs ∧ Small zs ∧ (∀ i j, i < I → j < N → mo N zs i j = if j < C then mo C xs i j else mo D ys i (j - C))) (fun x _ => R - (intOf x).toNat)
  case atStart => exact ⟨0, _, Nat.zero_le _, rfl, S0.out, zeros_small q, fun i j hi _ => absurd hi (Nat.not_lt_zero _)⟩
  case round =>
    obtain ⟨I, zs, hI, rfl, hS, hsm, hmo⟩ := hrel
    have HS := hid hS
    have SM := hid hsm
    have HM := hid hmo
    clear hS hsm hmo S0
    have hml := HS.out.o2
    have hmg := HS.out.o3
    by_cases hlt : I < R
    · have hlt' : (I : Int) < (R : Int) := by omega
      have nI : I * N + N ≤ q := by have := mul_pos_lt hlt (show N - 1 < N by omega); rw [← HQ.out] at this; omega
      have nA : ∀ k, k < C → I * C + k < xs.length := fun k hk => by rw [HX.out, HQA.out]; exact mul_pos_lt hlt hk
      have nB : ∀ k, k < D → I * D + k < ys.length := fun k hk => by rw [HY.out, HQB.out]; exact mul_pos_lt hlt hk
      have NA := hid nA
      have NB := hid nB
      have NI := hid nI
      have AR := hid (A0.out.below HS.out.bel (by omega))
      have BR := hid (B0.out.below HS.out.bel (by omega))
      have GA := hid (ZA.out.below HS.out.bel la)
      have GB := hid (ZB.out.below HS.out.bel lb)
      have x0 := AR.out.cell 0
      have x1 := AR.out.cell 1
      have x2 := AR.out.cell 2
      have y0 := BR.out.cell 0
      have y1 := BR.out.cell 1
      have y2 := BR.out.cell 2
      have z0 := HS.out.M0.cell 0
      have z1 := HS.out.M0.cell 1
      have z2 := HS.out.M0.cell 2
      clear nA nB nI
      go_wp2_with fail
      go_region_held3 (fun wx => wx.cell? ⟨w.heap.size, 0, none⟩ = some (.int .i64 R) ∧ wx.cell? ⟨w.heap.size, 1, none⟩ = some (.int .i64 C) ∧ wx.cell? ⟨w.heap.size, 2, none⟩ = some (.slice (some ⟨ga, 0, none⟩) qa qa) ∧ wx.cell? ⟨m, 0, none⟩ = some (.int .i64 R) ∧ wx.cell? ⟨m, 1, none⟩ = some (.int .i64 N) ∧ wx.cell? ⟨m, 2, none⟩ = some (.slice (some ⟨g, 0, none⟩) q q))
        ((first | (go_keep; done) | exact ⟨A3.cell 0, A3.cell 1, A3.cell 2, S3.M0.cell 0, S3.M0.cell 1, S3.M0.cell 2⟩))
        ((first
          | (go_at_call 46; refine (irowF _ _ _ _ _ (by assumption) (by assumption) (by assumption) (by assumption) (by assumption) _).mono ?_; rintro e wA ⟨rfl, rfl⟩)
          | (refine step_copy8 (by rfl) _ _ (by rfl) g (I * N) N (q - I * N) ga (I * C) C (qa - I * C) (by rfl) (by rfl) 5 zs ((HS.out.alloc _).alloc _).drew.Z C (show C = min C N from (Nat.min_eq_left (by omega)).symm) (fun k => xs.getD (I * C + k) 0) (fun k hk => ((GA.out.alloc _).alloc _).drew.cell (NA.out k hk)) (by rw [HS.out.len]; have := NI.out; omega) ?_; intro w3 zs3 r3 l3 p3 g3; have S3 := ((HS.out.alloc _).alloc _).drew.grown g3 r3 (l3.trans HS.out.len); have A3 := A0.out.below S3.bel (by omega))))
      have S4 := hid S3
      have P3 : Hid (∀ p, zs3.getD p 0 = layN zs (I * N + 0) C (fun k => xs.getD (I * C + k) 0) p) := p3
      have SM3 := hid (lay_small p3 SM.out (fun k => SX.out _))
      clear S3 A3 p3 l3 r3 g3
      clear AR BR GA GB x0 x1 x2 y0 y1 y2 z0 z1 z2
      have AR := hid (A0.out.below S4.out.bel (by omega))
      have BR := hid (B0.out.below S4.out.bel (by omega))
      have GB := hid (ZB.out.below S4.out.bel lb)
      have x1 := AR.out.cell 1
      have y0 := BR.out.cell 0
      have y1 := BR.out.cell 1
      have y2 := BR.out.cell 2
      have z0 := S4.out.M0.cell 0
      have z1 := S4.out.M0.cell 1
      have z2 := S4.out.M0.cell 2
      have cN : (C : Int) ≤ (N : Int) := by omega
      have cN2 : (N : Int) ≤ ((q - I * N : Nat) : Int) := by have := NI.out; omega
      have c0 : (0 : Int) ≤ (C : Int) := by omega
      have cS : ((N : Int)).toNat - ((C : Int)).toNat = D := by omega
      have cS2 : N - C = D := by omega
      go_wp2_with fail
      go_region_held3 (fun wx => wx.cell? ⟨w.heap.size, 1, none⟩ = some (.int .i64 C) ∧ wx.cell? ⟨w.heap.size + 1, 0, none⟩ = some (.int .i64 R) ∧ wx.cell? ⟨w.heap.size + 1, 1, none⟩ = some (.int .i64 D) ∧ wx.cell? ⟨w.heap.size + 1, 2, none⟩ = some (.slice (some ⟨gb, 0, none⟩) qb qb) ∧ wx.cell? ⟨m, 0, none⟩ = some (.int .i64 R) ∧ wx.cell? ⟨m, 1, none⟩ = some (.int .i64 N) ∧ wx.cell? ⟨m, 2, none⟩ = some (.slice (some ⟨g, 0, none⟩) q q))
        ((first | (go_keep; done) | exact ⟨A5.cell 1, B5.cell 0, B5.cell 1, B5.cell 2, S5.M0.cell 0, S5.M0.cell 1, S5.M0.cell 2⟩))
        ((first
          | (go_at_call 46; refine (irowF _ _ _ _ _ (by assumption) (by assumption) (by assumption) (by assumption) (by assumption) _).mono ?_; rintro e wA ⟨rfl, rfl⟩)
          | (refine step_copy8 (by rfl) _ _ (by rfl) g (I * N + C) D (q - I * N - C) gb (I * D) D (qb - I * D) (by rfl) (by rfl) 5 zs3 ((S4.out.alloc _).alloc _).drew.Z D (show D = min D D from (Nat.min_self _).symm) (fun k => ys.getD (I * D + k) 0) (fun k hk => ((GB.out.alloc _).alloc _).drew.cell (NB.out k hk)) (by rw [S4.out.len]; have := NI.out; omega) ?_; intro w5 zs5 r5 l5 p5 g5; have S5 := ((S4.out.alloc _).alloc _).drew.grown g5 r5 (l5.trans S4.out.len); have A5 := A0.out.below S5.bel (by omega); have B5 := B0.out.below S5.bel (by omega))))
      have S6 := hid S5
      have SM5 := hid (lay_small p5 SM3.out (fun k => SY.out _))
      have HM5 : Hid (∀ i j, i < I + 1 → j < N → mo N zs5 i j = if j < C then mo C xs i j else mo D ys i (j - C)) := fun i j hi hj => by
        rw [mo_lay p5 (by omega) hj]
        by_cases e : i = I ∧ C ≤ j ∧ j < C + D
        · obtain ⟨rfl, e1, e2⟩ := e
          rw [if_pos ⟨rfl, e1, e2⟩, if_neg (by omega)]; rfl
        · rw [if_neg e, mo_lay P3.out (by omega) hj]
          by_cases e3 : i = I ∧ 0 ≤ j ∧ j < 0 + C
          · obtain ⟨rfl, e1, e2⟩ := e3
            rw [if_pos ⟨rfl, e1, e2⟩, if_pos (by omega)]; rfl
          · rw [if_neg e3]; exact HM.out i j (by omega) hj
      clear S5 A5 B5 p5 l5 r5 g5 x1 y0 y1 y2 z0 z1 z2
      go_wp2
      go_roundw
      case rel => exact ⟨I + 1, zs5, by omega, by go_num, S6.out, SM5.out, HM5.out⟩
      case measure => simp [intOf]; omega
    · have hie : I = R := by omega
      subst hie
      have R1 := hid (R0.out.below HS.out.bel (by omega))
      have r0 := HS.out.M0
      go_wp2_with (first
        | refine wpList_load_row rfl 46 (.tmp 5) rfl m rfl _ _ _ _ r0 Tryd.underlying46 rfl (by kernel_rfl) ?_
        | refine wpList_store_row rfl 46 (.tmp 4) (.tmp 38) rfl (w.heap.size + 1 + 1) #[.int .i64 I, .int .i64 N, .slice (some ⟨g, 0, none⟩) q q] rfl rfl _ _ R1.out (by kernel_rfl) rfl (one3 _ _ _ _ _) ?_)
      refine bodyPost_ret (v := grv I N g q) ?_ rfl ⟨g, zs, rfl, by omega, ?_, HS.out.len, SM.out, fun i j hi hj => HM.out i j hi hj, ?_⟩
      · exact results_cell_row Tryd.results44 _ _ (w.heap.size + 1 + 1) _ _ _ _ rfl (R1.out.setRow _) Tryd.underlying46 rfl (by kernel_rfl)
      · exact HS.out.Z.otherRow _ _ (by omega)
      · exact below_setRow (L0.out.trans (HS.out.bel.mono (by omega))) _ _ (by omega)
end Go.Proofs.YtlobnmcjnaibaaaDoorR
