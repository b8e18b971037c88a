import Derived.Test.YtlobnmcjnaibaaaDoorRIBeside2
import Derived.Test.YtlobnmcjnaibaaaDoorRIBehind
import Derived.Test.YtlobnmcjnaibaaaDoorRSInv
namespace Go.Proofs.YtlobnmcjnaibaaaDoorR
open Go.RowKit
/-- the unit, as a list's matrix -/
theorem fm_unit {n : Nat} {us : List Nat} (h : ∀ i j, i < n → j < n → mo n us i j = if i = j then 1 else 0) (i j : Nat) (hi : i < n) (hj : j < n) : fm (mo n us) i j = if i = j then 1 else 0 := by
  unfold fm; simp only [h i j hi hj]; split <;> rfl
theorem unit_inv {n : Nat} {M : Mx} (h : ∀ i j, i < n → j < n → M i j = if i = j then 1 else 0) : IsInv n M M := fun i j hi hj => by
  rw [F.sm_one n i hi (fun k hk hne => by rw [h i k hi hk, if_neg (fun e => hne e.symm), F.zero_mul]), h i i hi hi, if_pos rfl, F.one_mul, h i j hi hj]
theorem rank_full {n : Nat} {M X : Mx} (h : IsInv n X M) : rank n n M = n := cntP_full.2 fun _ hi => h.noDep hi
theorem results_row_tmp {P : Program} {fn : Func} {p u : Tmp} {ty : TypeId} (h : fn.results = #[.cell p ty, .tmp u]) (tmps : Array Value) (w : World) (g : Nat) (t : TypeId) (cs : Array Value) (fr : Nat × Nat) (d : TypeDesc) (v : Value)
    (hp : tmps.getD p undef = .pointer (some ⟨g, 0, none⟩)) (hv : tmps.getD u undef = v) (hg : w.heap[g]? = some (.cells cs t fr))
    (hu : P.underlying ty = some d) (hd : (match d with | .struct _ | .array _ _ => true | _ => false) = true) (hi : (P.info? ty).map (·.size) = some cs.size) :
    (results fn tmps).run P w = .ok (.tuple #[.agg cs, v]) w := by
  have hp' : tmps[p]?.getD undef = .pointer (some ⟨g, 0, none⟩) := by simpa using hp
  have hv' : tmps[u]?.getD undef = v := by simpa using hv
  simp [results, h, hp', hv', asAddr, run_loadVar_row w g t ty cs fr d hg hu hd hi]
theorem dep_aug {n : Nat} {M : Mx} : ∀ k, k ≤ n → cntP (fun c => ¬ Dep n (n + n) (aug n M) c) k = cntP (fun c => ¬ Dep n n M c) k
  | 0, _ => rfl
  | k + 1, h => by
    have ih := dep_aug (n := n) (M := M) k (by omega)
    have hk := aug_dep (n := n) (M := M) (c := k) (by omega)
    by_cases e : Dep n n M k
    · rw [cntP_no (P := fun c => ¬ Dep n n M c) (fun h' => h' e), cntP_no (P := fun c => ¬ Dep n (n + n) (aug n M) c) (fun h' => h' (hk.2 e)), ih]
    · rw [cntP_yes (P := fun c => ¬ Dep n n M c) e, cntP_yes (P := fun c => ¬ Dep n (n + n) (aug n M) c) (fun h' => e (hk.1 h')), ih]
theorem cnt_aug {n N : Nat} {M : Mx} (hN : N = n + n) : cntP (fun c => ¬ Dep n N (aug n M) c) n = rank n n M := by subst hN; exact dep_aug n (Nat.le_refl _)
theorem inv_math {n N : Nat} {M A : Mx} {p : Nat → Nat} (hN : N = n + n) (hk : KerEq n N (aug n M) A) (hr : Red n A (cntP (fun c => ¬ Dep n N (aug n M) c) n) p n) (hp : cntP (fun c => ¬ Dep n N (aug n M) c) n = n → ∀ t, t < n → p t = t) (RK : rank n n M = n) :
    IsInv n M (fun i j => A i (n + j)) ∧ IsInv n (fun i j => A i (n + j)) M := by
  have e := cnt_aug (M := M) hN
  rw [RK] at e
  rw [e] at hr hp
  subst hN
  refine aug_inv hk fun i j hi hj => ?_
  have := hr.unit i j hi hj
  rw [hp rfl j hj] at this; exact this
theorem ielimK (A0 : Mx) (R C n q g K : Nat) (HK : Hid (cntP (fun c => ¬ Dep R C A0 c) n = K)) (xs : List Nat) (w : World) (hT : Tab w) (hg1 : 1 < g) (hR1 : 1 ≤ R) (hR : R ≤ 64) (hC1 : 1 ≤ C) (hC : C ≤ 128) (hn : n ≤ C) (hq : q = R * C) (hz : Gr w g xs) (hl : xs.length = q) (hs : Small xs) (hA : ∀ i j, i < R → j < C → fm (mo C xs) i j = A0 i j) :
    Calls Tryd.prog 32 #[grv R C g q, .int .i64 n] w fun e w' => e = .returned (.int .i64 K) ∧ (∃ zs p, Gr w' g zs ∧ zs.length = q ∧ Small zs ∧ KerEq R C A0 (fm (mo C zs)) ∧ Red R (fm (mo C zs)) (cntP (fun c => ¬ Dep R C A0 c) n) p n ∧ (cntP (fun c => ¬ Dep R C A0 c) n = n → ∀ t, t < n → p t = t)) ∧ w.grownBy w' (some g) := by
  have := ielim A0 R C n q g xs w hT hg1 hR1 hR hC1 hC hn hq hz hl hs hA
  have hk := HK.out
  refine this.mono ?_
  rintro e w' ⟨rfl, h2, h3⟩
  exact ⟨by rw [hk], h2, h3⟩
set_option maxRecDepth 20000 in
set_option maxHeartbeats 8000000 in
theorem iinverse (n q g : Nat) (xs : List Nat) (w : World) (hT : Tab w) (hn1 : 1 ≤ n) (hn : n ≤ 64) (hq : q = n * n) (hz : Gr w g xs) (hl : xs.length = q) (hs : Small xs) :
    Calls Tryd.prog 24 #[grv n n g q] w fun e w' => Below w.heap.size w w' ∧ ((rank n n (fm (mo n xs)) = n ∧ ∃ b X, e = .returned (.tuple #[grv n n b q, .bool true]) ∧ w.heap.size ≤ b ∧ Gr w' b X ∧ X.length = q ∧ Small X ∧ IsInv n (fm (mo n xs)) (fm (mo n X)) ∧ IsInv n (fm (mo n X)) (fm (mo n xs))) ∨
      (rank n n (fm (mo n xs)) < n ∧ e = .returned (.tuple #[.agg #[.int .i64 0, .int .i64 0, .slice none 0 0], .bool false]))) := by
  have hq4 : q ≤ 8192 := by have : q ≤ 64 * 64 := by { rw [hq]; exact Nat.mul_le_mul hn hn }; omega
  have HQ := hid hq
  have HL := hid hl
  have HS := hid hs
  have hg := hz.lt
  obtain ⟨W, hW⟩ : ∃ W, W = (w.alloc (.cells #[.int .i64 n, .int .i64 n, .slice (some ⟨g, 0, none⟩) q q] 46)).alloc (.cells #[.int .i64 0, .int .i64 0, .slice none 0 0] 46) := ⟨_, rfl⟩
  have hWs : W.heap.size = w.heap.size + 1 + 1 := by rw [hW]; simp only [size_al]
  have A0 : Hid (RowAt W w.heap.size 46 #[.int .i64 n, .int .i64 n, .slice (some ⟨g, 0, none⟩) q q]) := by rw [hW]; exact (RowAt.new w _ _).alloc _
  have R0 : Hid (RowAt W (w.heap.size + 1) 46 #[.int .i64 0, .int .i64 0, .slice none 0 0]) := by rw [hW]; exact RowAt.next (w.alloc _) _ _ (by rw [size_al])
  have ZA : Hid (Gr W g xs) := by rw [hW]; exact (hz.alloc _).alloc _
  have T0 : Hid (Tab W) := by rw [hW]; exact (hT.alloc _).alloc _
  have L0 : Hid (Below w.heap.size w W) := by rw [hW]; exact ((Below.refl _ _).alloc (Nat.le_refl _) _).alloc (by rw [size_al]; omega) _
  have hw1 := hT.lt
  clear hT hz hl hs hq
  have a0 := A0.out.cell 0
  go_enter Tryd.func24, Tryd.ntmps24
  go_wp2_with fail
  rw [← hW]
  clear hW
  go_wp2_with fail
  refine (iunitG n q hn1 hn HQ.out _).mono ?_
  rintro e w1 ⟨gu, us, rfl, hgu, hGu, hlu, hsu, hmu, hb1⟩
  obtain ⟨m1, hm1⟩ : ∃ m1, m1 = w1.heap.size := ⟨_, rfl⟩
  obtain ⟨W2, hW2⟩ : ∃ W2, W2 = w1.alloc (.cells #[.int .i64 n, .int .i64 n, .slice (some ⟨gu, 0, none⟩) q q] 46) := ⟨_, rfl⟩
  have L2 : Hid (Below W.heap.size W W2) := by rw [hW2]; exact hb1.alloc hb1.size _
  have U2 : Hid (RowAt W2 m1 46 #[.int .i64 n, .int .i64 n, .slice (some ⟨gu, 0, none⟩) q q]) := by rw [hW2, hm1]; exact RowAt.new w1 _ _
  have GU : Hid (Gr W2 gu us) := by rw [hW2]; exact hGu.alloc _
  have A2 := hid (A0.out.below L2.out (by omega))
  have R2 := hid (R0.out.below L2.out (by omega))
  have G2 := hid (ZA.out.below L2.out ZA.out.lt)
  have hm1l : W.heap.size ≤ m1 := by rw [hm1]; exact hb1.size
  have LU := hid hlu
  have SU := hid hsu
  have MU := hid hmu
  have r1 := A2.out
  have r2 := U2.out
  clear hb1 hGu hlu hsu hmu a0
  go_wp2_with (first
    | (rw [← hm1, ← hW2])
    | refine wpList_load_row rfl 46 (.tmp 1) rfl w.heap.size rfl _ _ _ _ r1 Tryd.underlying46 rfl (by kernel_rfl) ?_
    | refine wpList_load_row rfl 46 (.tmp 4) rfl m1 rfl _ _ _ _ r2 Tryd.underlying46 rfl (by kernel_rfl) ?_)
  refine (iequals n n g gu q xs us _ hq4 G2.out GU.out HL.out LU.out HS.out SU.out).mono ?_
  rintro e w3 ⟨rfl, hb3⟩
  have L3 := hid (L2.out.trans (hb3.mono L2.out.size))
  have U3 := hid (U2.out.below hb3 U2.out.lt)
  have GU3 := hid (GU.out.below hb3 GU.out.lt)
  have A3 := hid (A2.out.below hb3 A2.out.lt)
  have R3 := hid (R2.out.below hb3 R2.out.lt)
  have G3 := hid (G2.out.below hb3 G2.out.lt)
  clear hb3 r1 r2 A2 R2 G2 GU U2 L2 hW2 hm1
  have hgm : gu < w3.heap.size := GU3.out.lt
  by_cases he : xs = us
  · rw [decide_eq_true he]
    have r2 := U3.out
    go_wp2_with (first
      | refine wpList_load_row rfl 46 (.tmp 4) rfl m1 rfl _ _ _ _ r2 Tryd.underlying46 rfl (by kernel_rfl) ?_
      | refine wpList_store_row rfl 46 (.tmp 2) (.tmp 12) rfl (w.heap.size + 1) #[.int .i64 n, .int .i64 n, .slice (some ⟨gu, 0, none⟩) q q] rfl rfl _ _ R3.out (by kernel_rfl) rfl (one3 _ _ _ _ _) ?_)
    have hU := unit_inv (fm_unit MU.out)
    refine bodyPost_ret (v := .tuple #[grv n n gu q, .bool true]) ?_ rfl ⟨?_, Or.inl ⟨?_, gu, us, rfl, by omega, ?_, LU.out, SU.out, ?_, ?_⟩⟩
    · exact results_row_tmp Tryd.results24 _ _ (w.heap.size + 1) _ _ _ _ _ rfl rfl (R3.out.setRow _) Tryd.underlying46 rfl (by kernel_rfl)
    · exact below_setRow (L0.out.trans (L3.out.mono (by omega))) _ _ (by omega)
    · rw [he]; exact rank_full hU
    · exact GU3.out.otherRow _ _ (by omega)
    · rw [he]; exact hU
    · rw [he]; exact hU
  · rw [decide_eq_false he]
    obtain ⟨N, hN⟩ : ∃ N, N = n + n := ⟨_, rfl⟩
    obtain ⟨qw, hqw⟩ : ∃ qw, qw = n * N := ⟨_, rfl⟩
    obtain ⟨K, hK⟩ : ∃ K, rank n n (fm (mo n xs)) = K := ⟨_, rfl⟩
    have HN := hid hN
    have HQW := hid hqw
    have HK := hid hK
    have HKc : Hid (cntP (fun c => ¬ Dep n N (aug n (fm (mo n xs))) c) n = K) := (cnt_aug hN).trans hK
    have hN2 : N ≤ 128 := by omega
    have hN1 : 1 ≤ N := by omega
    have hnN : n ≤ N := by omega
    have r1 := A3.out
    have r2 := U3.out
    clear hN hqw hK he
    go_wp2_with (first
      | refine wpList_load_row rfl 46 (.tmp 1) rfl w.heap.size rfl _ _ _ _ r1 Tryd.underlying46 rfl (by kernel_rfl) ?_
      | refine wpList_load_row rfl 46 (.tmp 4) rfl m1 rfl _ _ _ _ r2 Tryd.underlying46 rfl (by kernel_rfl) ?_)
    refine (ibeside n n n N g gu q q qw xs us _ hn1 hn hn1 hn1 HN.out hN2 HQ.out HQ.out HQW.out G3.out GU3.out HL.out LU.out HS.out SU.out).mono ?_
    rintro e w4 ⟨gw, zs, rfl, hgw, hGw, hlw, hsw, hmw, hb4⟩
    obtain ⟨m5, hm5⟩ : ∃ m5, m5 = w4.heap.size := ⟨_, rfl⟩
    obtain ⟨W5, hW5⟩ : ∃ W5, W5 = w4.alloc (.cells #[.int .i64 n, .int .i64 N, .slice (some ⟨gw, 0, none⟩) qw qw] 46) := ⟨_, rfl⟩
    have L5 : Hid (Below W.heap.size W W5) := by rw [hW5]; exact (L3.out.trans (hb4.mono L3.out.size)).alloc (Nat.le_trans L3.out.size hb4.size) _
    have V5 : Hid (RowAt W5 m5 46 #[.int .i64 n, .int .i64 N, .slice (some ⟨gw, 0, none⟩) qw qw]) := by rw [hW5, hm5]; exact RowAt.new w4 _ _
    have GW : Hid (Gr W5 gw zs) := by rw [hW5]; exact hGw.alloc _
    have hgwm : gw < m5 := by rw [hm5]; exact hGw.lt
    have h3s := L3.out.size
    have hgw2 : W.heap.size ≤ gw := by omega
    have A5 := hid (A0.out.below L5.out (by omega))
    have R5 := hid (R0.out.below L5.out (by omega))
    have T5 := hid (T0.out.below L5.out (by omega))
    have LW := hid hlw
    have SW := hid hsw
    have MW : Hid (∀ i j, i < n → j < N → fm (mo N zs) i j = aug n (fm (mo n xs)) i j) := fun i j hi hj => by
      have h1 := hmw i j hi hj
      unfold aug
      by_cases e : j < n
      · rw [if_pos e] at h1 ⊢; exact fm_congr' h1
      · rw [if_neg e] at h1 ⊢
        rw [MU.out i (j - n) hi (by have := HN.out; omega)] at h1
        by_cases e2 : i = j - n
        · rw [if_pos e2] at h1
          rw [if_pos e2.symm]; unfold fm; simp only [h1]; rfl
        · rw [if_neg e2] at h1
          rw [if_neg (fun e3 => e2 e3.symm)]; unfold fm; simp only [h1]; rfl
    clear hb4 hGw hlw hsw hmw r1 r2 A3 U3 GU3 R3 G3
    have a0 := A5.out.cell 0
    have a1 := A5.out.cell 1
    have v0 := V5.out.cell 0
    have v1 := V5.out.cell 1
    have v2 := V5.out.cell 2
    go_wp2_with (rw [← hm5, ← hW5])
    clear hW5 hm5
    go_region_held3 (fun wx => wx.cell? ⟨w.heap.size, 0, none⟩ = some (.int .i64 n) ∧ wx.cell? ⟨w.heap.size, 1, none⟩ = some (.int .i64 n) ∧ wx.cell? ⟨m5, 0, none⟩ = some (.int .i64 n) ∧ wx.cell? ⟨m5, 1, none⟩ = some (.int .i64 N) ∧ wx.cell? ⟨m5, 2, none⟩ = some (.slice (some ⟨gw, 0, none⟩) qw qw))
      ((first | (go_keep; done) | exact ⟨A6.cell 0, A6.cell 1, V6.cell 0, V6.cell 1, V6.cell 2⟩))
      ((go_at_call 32; refine (ielimK (aug n (fm (mo n xs))) n N n qw gw K HKc zs _ T5.out.drew (by omega) hn1 hn hN1 hN2 hnN HQW.out GW.out.drew LW.out SW.out MW.out).mono ?_; rintro e w6 ⟨rfl, ⟨zs6, p6, hz6, hl6, hs6, hk6, hr6, hp6⟩, hg6⟩; have A6 := rowFar A5.out.drew hg6 (by intro e; injection e with e; omega); have V6 := rowFar V5.out.drew hg6 (by intro e; injection e with e; omega)))
    have A7 := hid A6
    have V7 := hid V6
    have R7 := hid (rowFar R5.out.drew hg6 (by intro e; injection e with e; omega))
    have Z7 := hid hz6
    have LZ := hid hl6
    have SZ := hid hs6
    have L7 : Hid (Below W.heap.size W w6) := L5.out.drew.grown hg6 (by show W.heap.size ≤ W5.heap.size; exact L5.out.size) (fun k hk => by cases hk; exact hgw2)
    have KZ := hid hk6
    have RZ := hid hr6
    have PZ := hid hp6
    clear A6 V6 hz6 hl6 hs6 hg6 hk6 hr6 hp6 a0 a1 v0 v1 v2
    have hKn : K ≤ n := by rw [← HK.out]; exact cntP_le _ _
    by_cases hlt : K < n
    · have dk : decide (K < n) = true := by simp; omega
      have dk' : decide ((K : Int) < (n : Int)) = true := by simp; omega
      go_wp2_with (refine wpList_store_row rfl 46 (.tmp 2) (.tmp 23) rfl (w.heap.size + 1) #[.int .i64 0, .int .i64 0, .slice none 0 0] rfl rfl _ _ R7.out (by kernel_rfl) rfl (by simp [Value.oneCell']) ?_)
      refine bodyPost_ret (v := .tuple #[.agg #[.int .i64 0, .int .i64 0, .slice none 0 0], .bool false]) ?_ rfl ⟨?_, Or.inr ⟨by rw [HK.out]; exact hlt, rfl⟩⟩
      · exact results_row_tmp Tryd.results24 _ _ (w.heap.size + 1) _ _ _ _ _ rfl rfl (R7.out.setRow _) Tryd.underlying46 rfl (by kernel_rfl)
      · exact below_setRow (L0.out.trans (L7.out.mono (by omega))) _ _ (by omega)
    · have dk : decide (K < n) = false := by simp; omega
      have dk' : decide ((K : Int) < (n : Int)) = false := by simp; omega
      have hKe : K = n := by omega
      have a1 := A7.out.cell 1
      have v7 := V7.out
      go_wp2_with (refine wpList_load_row rfl 46 (.tmp 5) rfl m5 rfl _ _ _ _ v7 Tryd.underlying46 rfl (by kernel_rfl) ?_)
      refine (ibehind n n n N gw qw q zs6 _ hn1 hn hn1 hn1 HN.out hN2 HQW.out HQ.out Z7.out LZ.out SZ.out).mono ?_
      rintro e w8 ⟨b, X, rfl, hb8, hX, hXl, hXs, hXm, hbel8⟩
      have R8 := hid (R7.out.below hbel8 R7.out.lt)
      have L8 := hid (L7.out.trans (hbel8.mono L7.out.size))
      have h7s := L7.out.size
      have ⟨i1, i2⟩ := inv_math HN.out KZ.out RZ.out PZ.out (by rw [HK.out]; exact hKe)
      have eX : ∀ i j, i < n → j < n → fm (mo n X) i j = (fun i j => fm (mo N zs6) i (n + j)) i j := fun i j hi hj => fm_congr' (hXm i j hi hj)
      have I1 := hid (IsInv.congr i1 (fun _ _ _ _ => rfl) eX)
      have I2 := hid (IsInv.congr i2 eX (fun _ _ _ _ => rfl))
      have HXl := hid hXl
      have HXs := hid hXs
      have HXX := hid hX
      clear hbel8 hX hXl hXs hXm i1 i2 eX v7 a1
      go_wp2_with (refine wpList_store_row rfl 46 (.tmp 2) (.tmp 27) rfl (w.heap.size + 1) #[.int .i64 n, .int .i64 n, .slice (some ⟨b, 0, none⟩) q q] rfl rfl _ _ R8.out (by kernel_rfl) rfl (one3 _ _ _ _ _) ?_)
      refine bodyPost_ret (v := .tuple #[grv n n b q, .bool true]) ?_ rfl ⟨?_, Or.inl ⟨by rw [HK.out]; exact hKe, b, X, rfl, by omega, ?_, HXl.out, HXs.out, I1.out, I2.out⟩⟩
      · exact results_row_tmp Tryd.results24 _ _ (w.heap.size + 1) _ _ _ _ _ rfl rfl (R8.out.setRow _) Tryd.underlying46 rfl (by kernel_rfl)
      · exact below_setRow (L0.out.trans (L8.out.mono (by omega))) _ _ (by omega)
      · exact HXX.out.otherRow _ _ (by omega)
end Go.Proofs.YtlobnmcjnaibaaaDoorR
