import Derived.Test.YtlobnmcjnaibaaaDoorRIBeside
namespace Go.Proofs.YtlobnmcjnaibaaaDoorR
open Go.RowKit
theorem feeds_other {w : World} {g g2 o n o2 : Nat} {zs ys : List Nat} {fs : Nat → Nat} (h2 : Gr w g2 ys) (hne : g2 ≠ g) (hf : ∀ k, k < n → o2 + k < ys.length ∧ fs k = ys.getD (o2 + k) 0) : Feeds w g o n g2 o2 zs fs := by
  intro wr zs' _ _ _ hg k hk
  obtain ⟨h, e⟩ := hf k hk
  rw [e]; exact (h2.far hg (by intro e; injection e with e; exact hne e)).cell h
theorem list_ext_mo {R C q : Nat} {xs ys : List Nat} (hC : 1 ≤ C) (hq : q = R * C) (hx : xs.length = q) (hy : ys.length = q) (h : ∀ i j, i < R → j < C → mo C xs i j = mo C ys i j) : xs = ys := by
  apply List.ext_getElem?
  intro p
  by_cases hp : p < q
  · have e : p = p / C * C + p % C := by rw [Nat.mul_comm]; exact (Nat.div_add_mod p C).symm
    have h1 : p % C < C := Nat.mod_lt _ (by omega)
    have h2 : p / C < R := Nat.div_lt_of_lt_mul (by rw [Nat.mul_comm, ← hq]; exact hp)
    have := h (p / C) (p % C) h2 h1
    unfold mo at this
    rw [← e, List.getD_eq_getElem?_getD, List.getD_eq_getElem?_getD, List.getElem?_eq_getElem (by omega), List.getElem?_eq_getElem (by omega)] at this
    rw [List.getElem?_eq_getElem (by omega), List.getElem?_eq_getElem (by omega)]; simpa using this
  · rw [List.getElem?_eq_none (by omega), List.getElem?_eq_none (by omega)]
set_option maxRecDepth 20000 in
set_option maxHeartbeats 8000000 in
theorem itimes (R C D ga gb qa qb q : Nat) (xs ys : List Nat) (w : World) (hT : Tab w) (hR1 : 1 ≤ R) (hR : R ≤ 64) (hC1 : 1 ≤ C) (hC : C ≤ 64) (hD1 : 1 ≤ D) (hD : D ≤ 64) (hqa : qa = R * C) (hqb : qb = C * D) (hq : q = R * D) (ha : Gr w ga xs) (hb : Gr w gb ys) (hx : xs.length = qa) (hy : ys.length = qb) (sx : Small xs) (sy : Small ys) :
    Calls Tryd.prog 34 #[grv R C ga qa, grv C D gb qb] w fun e w' => ∃ g, e = .returned (grv R D g q) ∧ w.heap.size ≤ g ∧ Gr w' g (mulL xs ys R C D) ∧ Below w.heap.size w w' := by
  have hq8 : q ≤ 8192 := by have : q ≤ 64 * 64 := by { rw [hq]; exact Nat.mul_le_mul hR hD }; omega
  have a8 : qa ≤ 8192 := by have : qa ≤ 64 * 64 := by { rw [hqa]; exact Nat.mul_le_mul hR hC }; omega
  have b8 : qb ≤ 8192 := by have : qb ≤ 64 * 64 := by { rw [hqb]; exact Nat.mul_le_mul hC hD }; omega
  have hqi : Hid ((R : Int) * (D : Int) = (q : Int)) := by show _ = _; rw [hq]; simp
  have HQ := hid hq
  have HQA := hid hqa
  have HQB := hid hqb
  have HX := hid hx
  have HY := hid hy
  have SX := hid sx
  have SY := hid sy
  obtain ⟨W, hW⟩ : ∃ W, W = ((w.alloc (.cells #[.int .i64 R, .int .i64 C, .slice (some ⟨ga, 0, none⟩) qa qa] 46)).alloc (.cells #[.int .i64 C, .int .i64 D, .slice (some ⟨gb, 0, none⟩) qb qb] 46)).alloc (.cells #[.int .i64 0, .int .i64 0, .slice none 0 0] 46) := ⟨_, rfl⟩
  have hWs : W.heap.size = w.heap.size + 1 + 1 + 1 := by rw [hW]; simp only [size_al]
  have A0 : Hid (RowAt W w.heap.size 46 #[.int .i64 R, .int .i64 C, .slice (some ⟨ga, 0, none⟩) qa qa]) := by rw [hW]; exact ((RowAt.new w _ _).alloc _).alloc _
  have B0 : Hid (RowAt W (w.heap.size + 1) 46 #[.int .i64 C, .int .i64 D, .slice (some ⟨gb, 0, none⟩) qb qb]) := by rw [hW]; exact (RowAt.next (w.alloc _) _ _ (by rw [size_al])).alloc _
  have R0 : Hid (RowAt W (w.heap.size + 1 + 1) 46 #[.int .i64 0, .int .i64 0, .slice none 0 0]) := by rw [hW]; exact RowAt.next ((w.alloc _).alloc _) _ _ (by rw [size_al, size_al])
  have ZA : Hid (Gr W ga xs) := by rw [hW]; exact ((ha.alloc _).alloc _).alloc _
  have ZB : Hid (Gr W gb ys) := by rw [hW]; exact ((hb.alloc _).alloc _).alloc _
  have T0 : Hid (Tab W) := by rw [hW]; exact ((hT.alloc _).alloc _).alloc _
  have L0 : Hid (Below w.heap.size w W) := by rw [hW]; exact (((Below.refl _ _).alloc (Nat.le_refl _) _).alloc (by rw [size_al]; omega) _).alloc (by rw [size_al, size_al]; omega) _
  have la : ga < W.heap.size := ZA.out.lt
  have lb : gb < W.heap.size := ZB.out.lt
  have hw1 := hT.lt
  clear ha hb hx hy sx sy hq hqa hqb hT
  have a0 := A0.out.cell 0
  have b1 := B0.out.cell 1
  go_enter Tryd.func34, Tryd.ntmps34
  go_wp2_with fail
  rw [← hW]
  clear hW
  go_wp2_with fail
  refine (inewB R D q _ hqi (by omega)).mono ?_
  rintro e w1 ⟨g, rfl, hg, hG, hbw⟩
  have S0 := hid (NgSt.start (R := R) (C := D) (q := q) hG List.length_replicate hbw hg)
  have a0' := (A0.out.below S0.out.bel (by omega)).cell 0
  obtain ⟨m, hm⟩ : ∃ m, m = w1.heap.size := ⟨_, rfl⟩
  clear hbw hG a0 b1
  go_wp2
  rw [← hm] at S0 ⊢
  clear hm a0'
  go_loopw [16] (fun x wr => ∃ (I : Nat) (zs : List Nat), I ≤ R ∧ x = .int .i64 I ∧ NgSt W wr m g R D q zs ∧ Small zs ∧ (∀ i j, i < R → j < D → mo D zs i j = if i < I then dotN xs ys C D i j C else 0)) (fun x _ => R - (intOf x).toNat)
  case atStart => exact ⟨0, _, Nat.zero_le _, rfl, S0.out, zeros_small q, fun i j _ _ => by unfold mo; rw [zeros_at, if_neg (by omega)]⟩
  case round =>
    obtain ⟨I, zs, hI, rfl, hS, hsm, hmo⟩ := hrel
    have HS := hid hS
    have SM := hid hsm
    have HM := hid hmo
    clear hS hsm hmo S0
    have hml := HS.out.o2
    have hmg := HS.out.o3
    by_cases hlt : I < R
    · have hlt' : (I : Int) < (R : Int) := by omega
      have AR := hid (A0.out.below HS.out.bel (by omega))
      have r1 := AR.out
      have HM0 : Hid (∀ i j, i < R → j < D → mo D zs i j = if i < I then dotN xs ys C D i j C else if i = I then dotN xs ys C D i j 0 else 0) := fun i j hi hj => by
        rw [HM.out i j hi hj]
        by_cases e : i < I
        · rw [if_pos e, if_pos e]
        · rw [if_neg e, if_neg e]; split <;> rfl
      have NI : Hid (I * D + D ≤ q) := by show _ ≤ _; have := mul_pos_lt hlt (show D - 1 < D by omega); rw [← HQ.out] at this; omega
      go_wp2_with (refine wpList_load_row rfl 46 (.tmp 2) rfl w.heap.size rfl _ _ _ _ r1 Tryd.underlying46 rfl (by kernel_rfl) ?_)
      refine (irowF R C ga qa I a8 HQA hR hC1 hlt _).mono ?_
      rintro e w2 ⟨rfl, rfl⟩
      have S1 := hid (HS.out.alloc (.cells #[.int .i64 R, .int .i64 C, .slice (some ⟨ga, 0, none⟩) qa qa] 46))
      clear r1 AR HM HS
      go_wp2
      go_loopw [23] (fun x wr => ∃ (K : Nat) (zs : List Nat), K ≤ C ∧ x = .int .i64 K ∧ NgSt W wr m g R D q zs ∧ Small zs ∧ (∀ i j, i < R → j < D → mo D zs i j = if i < I then dotN xs ys C D i j C else if i = I then dotN xs ys C D i j K else 0)) (fun x _ => C - (intOf x).toNat)
      case atStart => exact ⟨0, zs, Nat.zero_le _, rfl, S1.out, SM.out, HM0.out⟩
      case round =>
        clear S1 SM HM0 zs
        obtain ⟨K, zs, hK, rfl, hS, hsm, hmo⟩ := hrel
        have HS := hid hS
        have SM := hid hsm
        have HM := hid hmo
        clear hS hsm hmo
        by_cases hlk : K < C
        · have hlk' : (K : Int) < (C : Int) := by omega
          have k0 : (0 : Int) ≤ (K : Int) := by omega
          have bA : I * C + K < xs.length := by rw [HX.out, HQA.out]; exact mul_pos_lt hlt hlk
          have GA := hid (ZA.out.below HS.out.bel la)
          have cA := GA.out.cell bA
          obtain ⟨Fa, hFa⟩ : ∃ Fa, Fa = xs.getD (I * C + K) 0 := ⟨_, rfl⟩
          rw [← hFa] at cA
          have hFl : Fa < 256 := by rw [hFa]; exact SX.out _
          have GB := hid (ZB.out.below HS.out.bel lb)
          have TB := hid (T0.out.below HS.out.bel (by omega))
          have AR := hid (B0.out.below HS.out.bel (by omega))
          have HFa := hid hFa
          have y0 := AR.out.cell 0
          have y1 := AR.out.cell 1
          have y2 := AR.out.cell 2
          have z0 := HS.out.M0.cell 0
          have z1 := HS.out.M0.cell 1
          have z2 := HS.out.M0.cell 2
          have FE : Hid (∀ o o', Feeds ((wr.alloc o).alloc o').drew g (I * D) D gb (K * D) zs (fun j => ys.getD (K * D + j) 0)) := fun o o' => feeds_other ((GB.out.alloc o).alloc o').drew (by omega) (fun k hk => ⟨by rw [HY.out, HQB.out]; exact mul_pos_lt hlk hk, rfl⟩)
          clear hFa bA
          go_wp2_with fail
          go_region_held3 (fun wx => wx.cell? ⟨w.heap.size + 1, 0, none⟩ = some (.int .i64 C) ∧ wx.cell? ⟨w.heap.size + 1, 1, none⟩ = some (.int .i64 D) ∧ wx.cell? ⟨w.heap.size + 1, 2, none⟩ = some (.slice (some ⟨gb, 0, none⟩) qb qb) ∧ wx.cell? ⟨m, 0, none⟩ = some (.int .i64 R) ∧ wx.cell? ⟨m, 1, none⟩ = some (.int .i64 D) ∧ wx.cell? ⟨m, 2, none⟩ = some (.slice (some ⟨g, 0, none⟩) q q))
            ((first | (go_keep; done) | exact ⟨B3.cell 0, B3.cell 1, B3.cell 2, S3.M0.cell 0, S3.M0.cell 1, S3.M0.cell 2⟩))
            ((first
              | (go_at_call 46; refine (irowF _ _ _ _ _ (by assumption) (by assumption) (by assumption) (by assumption) (by assumption) _).mono ?_; rintro e wA ⟨rfl, rfl⟩)
              | (go_at_call 49; refine (iaddm Fa hFl g (I * D) D D _ gb (K * D) _ (Nat.le_refl _) zs (fun j => ys.getD (K * D + j) 0) _ ((TB.out.alloc _).alloc _).drew ((HS.out.alloc _).alloc _).drew.Z (by rw [HS.out.len]; exact NI.out) SM.out (fun k _ => SY.out _) (by omega) (FE.out _ _)).mono ?_; rintro e w3 ⟨rfl, ⟨zs3, hz3, hl3, hp3⟩, hg3⟩; have S3 := ((HS.out.alloc _).alloc _).drew.grown hg3 hz3 (hl3.trans HS.out.len); have B3 := B0.out.below S3.bel (by omega))))
          have S4 := hid S3
          have SM4 : Hid (Small zs3) := fun p => by rw [hp3 p]; exact addAt_small hFl SM.out p
          have HM4 : Hid (∀ i j, i < R → j < D → mo D zs3 i j = if i < I then dotN xs ys C D i j C else if i = I then dotN xs ys C D i j (K + 1) else 0) := fun i j hi hj => by
            rw [mo_add hp3 hj]
            by_cases e : i = I
            · subst e
              rw [if_pos rfl, if_neg (by omega), if_pos rfl, HM.out i j hi hj, if_neg (by omega), if_pos rfl, HFa.out]; rfl
            · rw [if_neg e, HM.out i j hi hj]
              by_cases e2 : i < I
              · rw [if_pos e2, if_pos e2]
              · rw [if_neg e2, if_neg e2, if_neg e, if_neg e]
          clear S3 B3 hp3 hl3 hz3 hg3 y0 y1 y2 z0 z1 z2 cA
          go_wp2
          go_roundw
          case rel => exact ⟨K + 1, zs3, by omega, by go_num, S4.out, SM4.out, HM4.out⟩
          case measure => simp [intOf]; omega
        · have hke : K = C := by omega
          subst hke
          have HM5 : Hid (∀ i j, i < R → j < D → mo D zs i j = if i < I + 1 then dotN xs ys K D i j K else 0) := fun i j hi hj => by
            rw [HM.out i j hi hj]
            by_cases e2 : i < I
            · rw [if_pos e2, if_pos (by omega)]
            · rw [if_neg e2]
              by_cases e : i = I
              · rw [if_pos e, if_pos (by omega)]
              · rw [if_neg e, if_neg (by omega)]
          go_wp2
          go_roundw
          case rel => exact ⟨I + 1, zs, by omega, by go_num, HS.out, SM.out, HM5.out⟩
          case measure => simp [intOf]; omega
    · have hie : I = R := by omega
      subst hie
      have HE : Hid (zs = mulL xs ys I C D) := list_ext_mo hD1 HQ.out HS.out.len (by rw [mulL_len]; exact HQ.out.symm) (fun i j hi hj => by rw [HM.out i j hi hj, if_pos hi]; unfold mo; rw [mulL_at hi hj])
      have R1 := hid (R0.out.below HS.out.bel (by omega))
      have r0 := HS.out.M0
      go_wp2_with (first
        | refine wpList_load_row rfl 46 (.tmp 5) rfl m rfl _ _ _ _ r0 Tryd.underlying46 rfl (by kernel_rfl) ?_
        | refine wpList_store_row rfl 46 (.tmp 4) (.tmp 38) rfl (w.heap.size + 1 + 1) #[.int .i64 I, .int .i64 D, .slice (some ⟨g, 0, none⟩) q q] rfl rfl _ _ R1.out (by kernel_rfl) rfl (one3 _ _ _ _ _) ?_)
      refine bodyPost_ret (v := grv I D g q) ?_ rfl ⟨g, rfl, by omega, ?_, ?_⟩
      · exact results_cell_row Tryd.results34 _ _ (w.heap.size + 1 + 1) _ _ _ _ rfl (R1.out.setRow _) Tryd.underlying46 rfl (by kernel_rfl)
      · rw [← HE.out]; exact HS.out.Z.otherRow _ _ (by omega)
      · exact below_setRow (L0.out.trans (HS.out.bel.mono (by omega))) _ _ (by omega)
end Go.Proofs.YtlobnmcjnaibaaaDoorR
