import Derived.Test.YtlobnmcjnaibaaaDoorRIUnit
import Derived.WalkMore
namespace Go.Proofs.YtlobnmcjnaibaaaDoorR
open Go.RowKit
theorem sm_of {C R : Nat} {zs : List Nat} (h : Small zs) : Sm R C (mo C zs) := fun _ _ _ _ => h _
theorem swp_small {R C a b q : Nat} {xs zs : List Nat} (hC1 : 1 ≤ C) (hq : q = R * C) (hl : zs.length = q) (hs : Small xs) (h : ∀ i j, i < R → j < C → mo C zs i j = swpN (mo C xs) a b i j) : Small zs := fun p => by
  by_cases hp : p < q
  · have e : p = p / C * C + p % C := by rw [Nat.mul_comm]; exact (Nat.div_add_mod p C).symm
    have h1 : p % C < C := Nat.mod_lt _ (by omega)
    have h2 : p / C < R := Nat.div_lt_of_lt_mul (by rw [Nat.mul_comm, ← hq]; exact hp)
    have := h (p / C) (p % C) h2 h1
    unfold mo at this
    rw [← e] at this
    rw [this]; unfold swpN
    split
    · exact hs _
    · split
      · exact hs _
      · exact hs _
  · rw [List.getD_eq_getElem?_getD, List.getElem?_eq_none (by omega)]; decide
set_option maxRecDepth 20000 in
set_option maxHeartbeats 8000000 in
/-- What elimination leaves of the first n columns: their rank, and the same kernel. -/
theorem ielim (A0 : Mx) (R C n q g : Nat) (xs : List Nat) (w : World) (hT : Tab w) (hg1 : 1 < g) (hR1 : 1 ≤ R) (hR : R ≤ 64) (hC1 : 1 ≤ C) (hC : C ≤ 128) (hn : n ≤ C) (hq : q = R * C) (hz : Gr w g xs) (hl : xs.length = q) (hs : Small xs) (hA : ∀ i j, i < R → j < C → fm (mo C xs) i j = A0 i j) :
    Calls Tryd.prog 32 #[grv R C g q, .int .i64 n] w fun e w' => e = .returned (.int .i64 (cntP (fun c => ¬ Dep R C A0 c) n : Nat)) ∧ (∃ zs p, Gr w' g zs ∧ zs.length = q ∧ Small zs ∧ KerEq R C A0 (fm (mo C zs)) ∧ Red R (fm (mo C zs)) (cntP (fun c => ¬ Dep R C A0 c) n) p n ∧ (cntP (fun c => ¬ Dep R C A0 c) n = n → ∀ t, t < n → p t = t)) ∧ w.grownBy w' (some g) := by
  have hqb : q ≤ 64 * 128 := by rw [hq]; exact Nat.mul_le_mul hR hC
  have hq8 : q ≤ 8192 := by omega
  have hg := hz.lt
  have HQ := hid hq
  have HT := hid hT
  have S0 : Hid (PutSt w (w.alloc (.cells #[.int .i64 R, .int .i64 C, .slice (some ⟨g, 0, none⟩) q q] 46)) w.heap.size R C q g xs) := ⟨RowAt.new w _ _, hz.alloc _, hl, World.grownBy_alloc w _ _, by omega⟩
  have SM := hid hs
  have K0 : Hid (KerEq R C A0 (fm (mo C xs))) := KerEq.of fun i j hi hj => (hA i j hi hj).symm
  clear hq hT hz hl hs hA hqb
  go_enter Tryd.func32, Tryd.ntmps32
  go_wp2
  go_step3
  go_wp2
  go_step3
  go_wp2
  go_loopw [5, 9] (fun k x wr => ∃ (K c : Nat) (zs : List Nat), c ≤ n ∧ K ≤ R ∧ k = .int .i64 K ∧ x = .int .i64 c ∧ Hid (K = cntP (fun c => ¬ Dep R C A0 c) c) ∧ PutSt w wr w.heap.size R C q g zs ∧ Small zs ∧ KerEq R C A0 (fm (mo C zs)) ∧ ∃ p, Red R (fm (mo C zs)) K p c ∧ (K = c → ∀ t, t < K → p t = t)) (fun _ x _ => n - (intOf x).toNat)
  case atStart => exact ⟨0, 0, xs, Nat.zero_le _, Nat.zero_le _, rfl, rfl, rfl, S0.out, SM.out, K0.out, fun _ => 0, Red.start R _ _, fun _ t ht => absurd ht (Nat.not_lt_zero _)⟩
  case round =>
    clear S0 SM K0
    obtain ⟨K, c, zs, hc, hKR, rfl, rfl, HK, hS, hsm, hk, he⟩ := hrel
    have S1 := hid hS
    have SM := hid hsm
    have K1 := hid hk
    have E1 := hid he
    clear hS hsm hk he
    by_cases hlt : c < n
    · have hlt' : (c : Int) < (n : Int) := by omega
      have hcC : c < C := by omega
      have hcC' : (c : Int) < (C : Int) := by omega
      have hc0 : (0 : Int) ≤ (c : Int) := by omega
      go_wp2
      go_loopw [5, 7] (fun k y wr => ∃ (s : Nat), K ≤ s ∧ s ≤ R ∧ k = .int .i64 K ∧ y = .int .i64 s ∧ PutSt w wr w.heap.size R C q g zs ∧ (∀ i, K ≤ i → i < s → mo C zs i c = 0)) (fun _ y _ => R - (intOf y).toNat)
      case atStart => exact ⟨K, Nat.le_refl _, hKR, rfl, rfl, S1.out, fun i h1 h2 => by omega⟩
      case round =>
        clear S1
        obtain ⟨s, hs1, hs2, rfl, rfl, hS, hz0⟩ := hrel
        have S1 := hid hS
        have Z0 := hid hz0
        clear hS hz0
        have b0 := S1.out.B.cell 0
        by_cases hsR : s < R
        · have hsR' : (s : Int) < (R : Int) := by omega
          obtain ⟨F, hF⟩ : ∃ F, F = mo C zs s c := ⟨_, rfl⟩
          have bI : s * C + c < zs.length := by rw [S1.out.len, HQ.out]; exact mul_pos_lt hsR hcC
          have cF : ∀ o, (wr.alloc o).cell? ⟨g, s * C + c, none⟩ = some (.int .u8 (F : Int)) := fun o => by rw [hF]; exact (S1.out.Z.alloc o).cell bI
          have rB := S1.out.B
          go_wp2_with (refine wpList_load_row rfl 46 (.tmp 2) rfl w.heap.size rfl _ _ _ _ rB Tryd.underlying46 rfl (by kernel_rfl) ?_)
          refine (irowF R C g q s hq8 HQ hR hC1 hsR _).mono ?_
          rintro e w2 ⟨rfl, rfl⟩
          have S2 := hid (S1.out.alloc (.cells #[.int .i64 R, .int .i64 C, .slice (some ⟨g, 0, none⟩) q q] 46))
          by_cases hF0 : F = 0
          · have Z1 : Hid (∀ i, K ≤ i → i < s + 1 → mo C zs i c = 0) := fun i h1 h2 => by
              by_cases e : i = s
              · rw [e, ← hF]; exact hF0
              · exact Z0.out i h1 (by omega)
            subst hF0
            clear hF bI rB S1
            go_wp2
            go_roundw
            case rel => exact ⟨s + 1, by omega, by omega, rfl, by go_num, S2.out, Z1.out⟩
            case measure => simp [intOf]; omega
          · have d0 : ((F : Int) != 0) = true := by simp; omega
            have d1 : ((F : Int) == 0) = false := by simp; omega
            obtain ⟨p, hp, hpt⟩ := E1.out
            have HP := hid hp
            have HPT := hid hpt
            have HF0 : Hid (mo C zs s c ≠ 0) := by show _ ≠ _; rw [← hF]; exact hF0
            have rB2 := S2.out.B
            clear hF bI rB S1 hF0 hp hpt
            go_wp2_with (refine wpList_load_row rfl 46 (.tmp 2) rfl w.heap.size rfl _ _ _ _ rB2 Tryd.underlying46 rfl (by kernel_rfl) ?_)
            refine (iswap R C s K q g zs _ hR hC1 hC hsR (by omega) HQ.out S2.out.Z S2.out.len).mono ?_
            rintro e w3 ⟨rfl, ⟨zs3, hz3, hl3, hm3⟩, hg3⟩
            have S3 := hid (S2.out.grown hg3 hz3 hl3)
            have M3 := hid hm3
            have SM3 := hid (swp_small hC1 HQ.out hl3 SM.out hm3)
            have T3 := hid (HT.out.far S3.out.gr hg1)
            have rB3 := S3.out.B
            clear hz3 hl3 hm3 hg3 S2 rB2 cF b0
            go_wp2_with (refine wpList_load_row rfl 46 (.tmp 2) rfl w.heap.size rfl _ _ _ _ rB3 Tryd.underlying46 rfl (by kernel_rfl) ?_)
            refine (iunit R C K c q g zs3 _ T3.out hg1 hR hC (by omega) hcC HQ.out S3.out.Z S3.out.len SM3.out).mono ?_
            rintro e w4 ⟨rfl, ⟨zs4, hz4, hl4, hsm4, hm4⟩, hg4⟩
            have S4 := hid (S3.out.grown hg4 hz4 hl4)
            have SM4 := hid hsm4
            have hB : ∀ i j, i < R → j < C → mo C zs3 i j = swpN (mo C zs) K s i j := fun i j hi hj => by
              rw [M3.out i j hi hj]; unfold swpN
              by_cases e1 : i = s
              · by_cases e2 : i = K
                · rw [if_pos e1, if_pos e2, ← e1, ← e2]
                · rw [if_pos e1, if_neg e2, if_pos e1]
              · by_cases e2 : i = K
                · rw [if_neg e1, if_pos e2, if_pos e2]
                · rw [if_neg e1, if_neg e2, if_neg e2, if_neg e1]
            obtain ⟨_, k4, r4, nd⟩ := elim_step (sm_of SM.out) K1.out HP.out hcC hs1 hsR HF0.out hB hm4
            have K4 := hid k4
            have R4 : Hid (∃ p, Red R (fm (mo C zs4)) (K + 1) p (c + 1) ∧ (K + 1 = c + 1 → ∀ t, t < K + 1 → p t = t)) := ⟨_, r4, fun e t ht => by
              by_cases e1 : t = K
              · simp only [e1, if_true]; omega
              · simp only [e1, if_false]; exact HPT.out (by omega) t (by omega)⟩
            have N4 : Hid (K + 1 = cntP (fun c => ¬ Dep R C A0 c) (c + 1)) := by show _ = _; rw [cntP_yes (P := fun c => ¬ Dep R C A0 c) nd, ← HK.out]
            clear hz4 hl4 hsm4 hm4 hg4 S3 rB3 hB k4 r4 nd M3
            go_wp2
            go_roundw
            case rel => exact ⟨K + 1, c + 1, zs4, by omega, by omega, by go_num, by go_num, N4, S4.out, SM4.out, K4.out, R4.out⟩
            case measure => simp [intOf]; omega
        · have hse : s = R := by omega
          subst hse
          obtain ⟨p, hp, _⟩ := E1.out
          have hKc : K ≤ c := by rw [HK.out]; exact cntP_le _ _
          obtain ⟨r4, dp⟩ := elim_none (sm_of SM.out) K1.out hp hcC Z0.out
          have R4 : Hid (∃ p, Red s (fm (mo C zs)) K p (c + 1) ∧ (K = c + 1 → ∀ t, t < K → p t = t)) := ⟨_, r4, fun e => absurd e (by omega)⟩
          have N4 : Hid (K = cntP (fun c => ¬ Dep s C A0 c) (c + 1)) := by show _ = _; rw [cntP_no (P := fun c => ¬ Dep s C A0 c) (fun h => h dp), ← HK.out]
          clear hp r4 dp
          go_wp2
          go_roundw
          case rel => exact ⟨K, c + 1, zs, by omega, by omega, rfl, by go_num, N4, S1.out, SM.out, K1.out, R4.out⟩
          case measure => simp [intOf]; omega
    · have hce : c = n := by omega
      subst hce
      go_wp2
      try rw [Exit.noGoto_ret]
      go_ret
      refine ⟨?_, ?_, S1.out.gr⟩
      · rw [← HK.out]; rfl
      · obtain ⟨p, hp, hpt⟩ := E1.out
        exact ⟨zs, p, S1.out.Z, S1.out.len, SM.out, K1.out, by rw [← HK.out]; exact hp, by rw [← HK.out]; exact fun e t ht => hpt e t (by omega)⟩
end Go.Proofs.YtlobnmcjnaibaaaDoorR
