import Derived.Test.YtlobnmcjnaibaaaDoorRIBeside
namespace Go.Proofs.YtlobnmcjnaibaaaDoorR
open Go.RowKit
set_option maxRecDepth 20000 in
set_option maxHeartbeats 8000000 in
theorem ibehind (R C D N ga qa q : Nat) (xs : List Nat) (w : World) (hR1 : 1 ≤ R) (hR : R ≤ 64) (hC1 : 1 ≤ C) (hD1 : 1 ≤ D) (hN : N = C + D) (hN2 : N ≤ 128) (hqa : qa = R * N) (hq : q = R * D) (ha : Gr w ga xs) (hx : xs.length = qa) (sx : Small xs) :
    Calls Tryd.prog 45 #[grv R N ga qa, .int .i64 C] w fun e w' => ∃ g zs, e = .returned (grv R D g q) ∧ w.heap.size ≤ g ∧ Gr w' g zs ∧ zs.length = q ∧ Small zs ∧ (∀ i j, i < R → j < D → mo D zs i j = mo N xs i (C + j)) ∧ Below w.heap.size w w' := by
  have a8 : qa ≤ 8192 := by have : qa ≤ 64 * 128 := by { rw [hqa]; exact Nat.mul_le_mul hR (by omega) }; omega
  have hq8 : q ≤ 8192 := by have : q ≤ 64 * 128 := by { rw [hq]; exact Nat.mul_le_mul hR (by omega) }; omega
  have hqi : Hid ((R : Int) * (D : Int) = (q : Int)) := by show _ = _; rw [hq]; simp
  have hNi : (N : Int) - (C : Int) = (D : Int) := by omega
  have hND : N - C = D := by omega
  have hNC : C + D ≤ N := by omega
  have hN1 : 1 ≤ N := by omega
  have HQ := hid hq
  have HQA := hid hqa
  have HX := hid hx
  have SX := hid sx
  obtain ⟨W, hW⟩ : ∃ W, W = (w.alloc (.cells #[.int .i64 R, .int .i64 N, .slice (some ⟨ga, 0, none⟩) qa qa] 46)).alloc (.cells #[.int .i64 0, .int .i64 0, .slice none 0 0] 46) := ⟨_, rfl⟩
  have hWs : W.heap.size = w.heap.size + 1 + 1 := by rw [hW]; simp only [size_al]
  have A0 : Hid (RowAt W w.heap.size 46 #[.int .i64 R, .int .i64 N, .slice (some ⟨ga, 0, none⟩) qa qa]) := by rw [hW]; exact (RowAt.new w _ _).alloc _
  have R0 : Hid (RowAt W (w.heap.size + 1) 46 #[.int .i64 0, .int .i64 0, .slice none 0 0]) := by rw [hW]; exact RowAt.next (w.alloc _) _ _ (by rw [size_al])
  have ZA : Hid (Gr W ga xs) := by rw [hW]; exact (ha.alloc _).alloc _
  have L0 : Hid (Below w.heap.size w W) := by rw [hW]; exact ((Below.refl _ _).alloc (Nat.le_refl _) _).alloc (by rw [size_al]; omega) _
  have la : ga < W.heap.size := ZA.out.lt
  clear ha hx sx hq hqa hN
  have a0 := A0.out.cell 0
  have a1 := A0.out.cell 1
  go_enter Tryd.func45, Tryd.ntmps45
  go_wp2_with fail
  rw [← hW]
  clear hW
  go_wp2_with fail
  refine (inewB R D q _ hqi (by omega)).mono ?_
  rintro e w1 ⟨g, rfl, hg, hG, hbw⟩
  have S0 := hid (NgSt.start (R := R) (C := D) (q := q) hG List.length_replicate hbw hg)
  have a0' := (A0.out.below S0.out.bel (by omega)).cell 0
  obtain ⟨m, hm⟩ : ∃ m, m = w1.heap.size := ⟨_, rfl⟩
  clear hbw hG
  clear a0 a1
  go_wp2
  rw [← hm] at S0 ⊢
  clear hm a0'
  go_loopw [16] (fun x wr => ∃ (I : Nat) (zs : List Nat), I ≤ R ∧ x = .int .i64 I ∧ NgSt W wr m g R D q zs ∧ Small zs ∧ (∀ i j, i < I → j < D → mo D zs i j = mo N xs i (C + j))) (fun x _ => R - (intOf x).toNat)
  case atStart => exact ⟨0, _, Nat.zero_le _, rfl, S0.out, zeros_small q, fun i j hi _ => absurd hi (Nat.not_lt_zero _)⟩
  case round =>
    obtain ⟨I, zs, hI, rfl, hS, hsm, hmo⟩ := hrel
    have HS := hid hS
    have SM := hid hsm
    have HM := hid hmo
    clear hS hsm hmo S0
    have hml := HS.out.o2
    have hmg := HS.out.o3
    by_cases hlt : I < R
    · have hlt' : (I : Int) < (R : Int) := by omega
      have NA : Hid (∀ k, k < N → I * N + k < xs.length) := fun k hk => by rw [HX.out, HQA.out]; exact mul_pos_lt hlt hk
      have NI : Hid (I * D + D ≤ q) := by show _ ≤ _; have := mul_pos_lt hlt (show D - 1 < D by omega); rw [← HQ.out] at this; omega
      have AR := hid (A0.out.below HS.out.bel (by omega))
      have GA := hid (ZA.out.below HS.out.bel la)
      have x0 := AR.out.cell 0
      have x1 := AR.out.cell 1
      have x2 := AR.out.cell 2
      have z0 := HS.out.M0.cell 0
      have z1 := HS.out.M0.cell 1
      have z2 := HS.out.M0.cell 2
      have cN : (C : Int) ≤ (N : Int) := by omega
      have c0 : (0 : Int) ≤ (C : Int) := by omega
      have cN2 : (N : Int) ≤ ((qa - I * N : Nat) : Int) := by have := NA.out (N - 1) (by omega); rw [HX.out] at this; omega
      have cS : ((N : Int)).toNat - ((C : Int)).toNat = D := by omega
      have cne : ¬ (qa - I * N = C) := by have := NA.out (N - 1) (by omega); rw [HX.out] at this; omega
      go_wp2_with fail
      go_region_held3 (fun wx => wx.cell? ⟨w.heap.size, 0, none⟩ = some (.int .i64 R) ∧ wx.cell? ⟨w.heap.size, 1, none⟩ = some (.int .i64 N) ∧ wx.cell? ⟨w.heap.size, 2, none⟩ = some (.slice (some ⟨ga, 0, none⟩) qa qa) ∧ wx.cell? ⟨m, 0, none⟩ = some (.int .i64 R) ∧ wx.cell? ⟨m, 1, none⟩ = some (.int .i64 D) ∧ wx.cell? ⟨m, 2, none⟩ = some (.slice (some ⟨g, 0, none⟩) q q))
        ((first | (go_keep; done) | exact ⟨A3.cell 0, A3.cell 1, A3.cell 2, S3.M0.cell 0, S3.M0.cell 1, S3.M0.cell 2⟩))
        ((first
          | (go_at_call 46; refine (irowF _ _ _ _ _ (by assumption) (by assumption) (by assumption) (by assumption) (by assumption) _).mono ?_; rintro e wA ⟨rfl, rfl⟩)
          | (refine step_copy8 (by rfl) _ _ (by rfl) g (I * D) D (q - I * D) ga (I * N + C) D (qa - I * N - C) (by rfl) (by rfl) 5 zs ((HS.out.alloc _).alloc _).drew.Z D (show D = min D D from (Nat.min_self _).symm) (fun k => xs.getD (I * N + C + k) 0) (fun k hk => ((GA.out.alloc _).alloc _).drew.cell (by have := NA.out (C + k) (by omega); omega)) (by rw [HS.out.len]; have := NI.out; omega) ?_; intro w3 zs3 r3 l3 p3 g3; have S3 := ((HS.out.alloc _).alloc _).drew.grown g3 r3 (l3.trans HS.out.len); have A3 := A0.out.below S3.bel (by omega))))
      have S6 := hid S3
      have SM5 := hid (lay_small p3 SM.out (fun k => SX.out _))
      have HM5 : Hid (∀ i j, i < I + 1 → j < D → mo D zs3 i j = mo N xs i (C + j)) := fun i j hi hj => by
        have p3' : ∀ p, zs3.getD p 0 = layN zs (I * D + 0) D (fun k => xs.getD (I * N + C + k) 0) p := p3
        rw [mo_lay p3' (by omega) hj]
        by_cases e : i = I ∧ 0 ≤ j ∧ j < 0 + D
        · obtain ⟨rfl, e1, e2⟩ := e
          rw [if_pos ⟨rfl, e1, e2⟩, Nat.sub_zero]; unfold mo; rw [Nat.add_assoc]
        · rw [if_neg e]; exact HM.out i j (by omega) hj
      clear S3 A3 p3 l3 r3 g3 x0 x1 x2 z0 z1 z2
      go_wp2
      go_roundw
      case rel => exact ⟨I + 1, zs3, by omega, by go_num, S6.out, SM5.out, HM5.out⟩
      case measure => simp [intOf]; omega
    · have hie : I = R := by omega
      subst hie
      have R1 := hid (R0.out.below HS.out.bel (by omega))
      have r0 := HS.out.M0
      go_wp2_with (first
        | refine wpList_load_row rfl 46 (.tmp 5) rfl m rfl _ _ _ _ r0 Tryd.underlying46 rfl (by kernel_rfl) ?_
        | refine wpList_store_row rfl 46 (.tmp 4) (.tmp 29) rfl (w.heap.size + 1) #[.int .i64 I, .int .i64 D, .slice (some ⟨g, 0, none⟩) q q] rfl rfl _ _ R1.out (by kernel_rfl) rfl (one3 _ _ _ _ _) ?_)
      refine bodyPost_ret (v := grv I D g q) ?_ rfl ⟨g, zs, rfl, by omega, ?_, HS.out.len, SM.out, fun i j hi hj => HM.out i j hi hj, ?_⟩
      · exact results_cell_row Tryd.results45 _ _ (w.heap.size + 1) _ _ _ _ rfl (R1.out.setRow _) Tryd.underlying46 rfl (by kernel_rfl)
      · exact HS.out.Z.otherRow _ _ (by omega)
      · exact below_setRow (L0.out.trans (HS.out.bel.mono (by omega))) _ _ (by omega)
end Go.Proofs.YtlobnmcjnaibaaaDoorR
