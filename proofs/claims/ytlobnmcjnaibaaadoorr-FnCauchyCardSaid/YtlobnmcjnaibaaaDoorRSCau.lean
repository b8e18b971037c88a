import Derived.Test.YtlobnmcjnaibaaaDoorRSMul2
import Derived.Deep.RegionHeld3
namespace Go.Proofs.YtlobnmcjnaibaaaDoorR
open Go.RowKit
def cauL (R C : Nat) : List Nat := (List.range (R * C)).map fun p => gp 8 29 ((C + p / C) ^^^ (p % C)) 254
theorem cauL_len (R C : Nat) : (cauL R C).length = R * C := by simp [cauL]
theorem cauL_at {R C i j : Nat} (hi : i < R) (hj : j < C) : (cauL R C).getD (i * C + j) 0 = gp 8 29 ((C + i) ^^^ j) 254 := by
  have hp := mul_pos_lt hi hj
  have e1 : (i * C + j) / C = i := by rw [Nat.mul_comm, Nat.mul_add_div (by omega), Nat.div_eq_of_lt hj, Nat.add_zero]
  have e2 : (i * C + j) % C = j := by rw [Nat.mul_comm, Nat.mul_add_mod, Nat.mod_eq_of_lt hj]
  rw [List.getD_eq_getElem?_getD, cauL, List.getElem?_map, List.getElem?_range hp]
  simp only [Option.map_some, Option.getD_some, e1, e2]
theorem sinv8v (A G : Nat) (hA : A < 256) (HG : Hid (gp 8 29 A 254 = G)) (w : World) :
    Calls Tryd.prog 37 #[.int .i64 A] w fun e w' => e = .returned (.int .i64 G) ∧ w' = w := by
  have h := sinv8 A w
  have e : invI 8 29 (A : Int) = (G : Int) := by
    unfold invI; rw [inT_of (T := 2 ^ 8) hA, if_pos rfl]; exact congrArg (fun x : Nat => (x : Int)) HG.out
  rw [e] at h; exact h
theorem sinv8x (x : Int) (A G : Nat) (hx : x = (A : Int)) (hA : A < 256) (HG : Hid (gp 8 29 A 254 = G)) (w : World) :
    Calls Tryd.prog 37 #[.int .i64 x] w fun e w' => e = .returned (.int .i64 G) ∧ w' = w := by subst hx; exact sinv8v A G hA HG w
theorem wrap_small (n : Int) (h0 : -9223372036854775808 ≤ n) (h1 : n ≤ 9223372036854775807) : IntKind.i64.wrap n = n := by rw [IntKind.wrap_i64]; omega
structure CauSt (w wr : World) (R C q : Nat) (zs : List Nat) : Prop where
  R0 : RowAt wr w.heap.size 28 #[.int .i64 0, .int .i64 0, .int .i64 0, .slice none 0 0]
  M0 : RowAt wr (w.heap.size + 1 + 1 + 1) 25 #[.int .i64 R, .int .i64 C, .slice (some ⟨w.heap.size + 1 + 1, 0, none⟩) q q]
  Z : Wr .i64 wr (w.heap.size + 1 + 1) 0 (nl zs)
  len : zs.length = q
  bel : Below w.heap.size w wr
theorem CauSt.drew {w wr : World} {R C q : Nat} {zs : List Nat} (h : CauSt w wr R C q zs) : CauSt w wr.drew R C q zs := ⟨h.R0, h.M0, h.Z, h.len, h.bel.drew⟩
theorem CauSt.set {w wr : World} {R C q : Nat} {zs : List Nat} (h : CauSt w wr R C q zs) (i x : Nat) (hi : i < q) :
    CauSt w (wr.setCell ⟨w.heap.size + 1 + 1, i, none⟩ (.int .i64 x)) R C q (zs.set i x) := by
  refine ⟨h.R0.other _ _ (by dsimp only; omega), h.M0.other _ _ (by dsimp only; omega), ?_, by rw [List.length_set]; exact h.len, h.bel.setCell (by dsimp only; omega) _⟩
  have := h.Z.set i (x : Int) (by rw [nl_len, h.len]; exact hi)
  rw [Nat.zero_add, nl_set] at this; exact this
set_option maxRecDepth 20000 in
set_option maxHeartbeats 4000000 in
theorem scauchy_ok (R C : Nat) (hR1 : 1 ≤ R) (hR : R ≤ 64) (hC1 : 1 ≤ C) (hC : C ≤ 64) (w : World) :
    Calls Tryd.prog 15 #[.int .i64 R, .int .i64 C] w fun e w' => ∃ g, e = .returned (.agg #[.int .i64 0, .int .i64 R, .int .i64 C, .slice (some ⟨g, 0, none⟩) (R * C) (R * C)]) ∧ w.heap.size ≤ g ∧ Wr .i64 w' g 0 (nl (cauL R C)) ∧ Below w.heap.size w w' := by
  have hm : R * C ≤ 64 * 64 := Nat.mul_le_mul hR hC
  obtain ⟨q, hq⟩ : ∃ q, q = R * C := ⟨_, rfl⟩
  have HQI : Hid ((R : Int) * (C : Int) = (q : Int)) := by show _ = _; rw [hq]; simp
  rw [← hq] at hm ⊢
  have HQ := hid hq
  clear hq
  have d0 : decide ((R : Int) < 1) = false := by simp; omega
  have d1 : decide ((64 : Int) < (R : Int)) = false := by simp; omega
  have d2 : decide ((C : Int) < 1) = false := by simp; omega
  have d3 : decide ((64 : Int) < (C : Int)) = false := by simp; omega
  go_enter Tryd.func15, Tryd.ntmps15
  go_wp2_with fail
  refine (snew R C q _ HQI.out (by omega)).mono ?_
  rintro e w1 ⟨rfl, rfl⟩
  clear d0 d1 d2 d3
  go_wp2
  go_loopw [6] (fun x wr => ∃ (I : Nat) (zs : List Nat), I ≤ R ∧ zs.take (I * C) = (cauL R C).take (I * C) ∧ x = .int .i64 I ∧ CauSt w wr R C q zs) (fun x _ => R - (intOf x).toNat)
  case atStart =>
    refine ⟨0, List.replicate q 0, Nat.zero_le _, by rw [Nat.zero_mul, List.take_zero, List.take_zero], rfl, ?_⟩
    refine ⟨?_, ?_, ?_, List.length_replicate, ?_⟩
    · exact (((RowAt.new w _ _).alloc _).alloc _).alloc _
    · exact RowAt.next _ _ _ (by simp only [size_al])
    · rw [nl_zeros]; exact (Wr.of (RowAt.next _ _ _ (by simp only [size_al]))).alloc _
    · exact ((((Below.refl _ _).alloc (Nat.le_refl _) _).alloc (by simp only [size_al]; omega) _).alloc (by simp only [size_al]; omega) _).alloc (by simp only [size_al]; omega) _
  case round =>
    obtain ⟨I, zs, hI, htk, rfl, st⟩ := hrel
    have HT := hid htk
    have ST := hid st
    clear htk st
    by_cases hIR : I < R
    · have hIR' : (I : Int) < (R : Int) := by omega
      go_wp2
      go_loopw [7] (fun x wr => ∃ (J : Nat) (zs : List Nat), J ≤ C ∧ zs.take (I * C + J) = (cauL R C).take (I * C + J) ∧ x = .int .i64 J ∧ CauSt w wr R C q zs) (fun x _ => C - (intOf x).toNat)
      case atStart => exact ⟨0, zs, Nat.zero_le _, HT.out, rfl, ST.out⟩
      case round =>
        obtain ⟨J, zs2, hJ, htk, rfl, st⟩ := hrel
        have HT2 := hid htk
        have ST2 := hid st
        clear htk st
        by_cases hJD : J < C
        · have hJD' : (J : Int) < (C : Int) := by omega
          obtain ⟨q3, hq3⟩ : ∃ q3, q3 = I * C := ⟨_, rfl⟩
          have Q3 : (I : Int) * (C : Int) = (q3 : Int) := by rw [hq3]; simp
          have B3 : q3 + J < q := by rw [hq3, HQ.out]; exact mul_pos_lt hIR hJD
          have i1 : ((q3 : Int) + (J : Int)) < (q : Int) := by omega
          have i0 : (0 : Int) ≤ (q3 : Int) + (J : Int) := by omega
          have e9 : ((q3 : Int) + (J : Int)).toNat = q3 + J := by omega
          obtain ⟨V, hV⟩ : ∃ V, (C + I) ^^^ J = V := ⟨_, rfl⟩
          have hVl : V < 256 := by rw [← hV]; exact Nat.xor_lt_two_pow (n := 8) (by omega) (by omega)
          have eV : bits .xor .i64 ((C : Int) + (I : Int)) (J : Int) = (V : Int) := by
            rw [← hV, show (C : Int) + (I : Int) = ((C + I : Nat) : Int) by simp]; exact i64_xor_nat _ _ (by omega) (by omega)
          have EV : Hid (bits .xor .i64 (IntKind.i64.wrap ((C : Int) + (I : Int))) (J : Int) = (V : Int)) := by show _ = _; rw [wrap_small _ (by omega) (by omega)]; exact eV
          have W1 : IntKind.i64.wrap ((I : Int) * (C : Int)) = (q3 : Int) := by rw [Q3]; exact wrap_small _ (by omega) (by omega)
          have W0 : IntKind.i64.wrap (q3 : Int) = (q3 : Int) := wrap_small _ (by omega) (by omega)
          have W2 : IntKind.i64.wrap ((q3 : Int) + (J : Int)) = (q3 : Int) + (J : Int) := wrap_small _ (by omega) (by omega)
          have W3 : IntKind.i64.wrap (IntKind.i64.wrap ((I : Int) * (C : Int)) + (J : Int)) = (q3 : Int) + (J : Int) := by rw [W1]; exact W2
          have j1 : ((q3 + J : Nat) : Int) < (q : Int) := by omega
          have j0 : (0 : Int) ≤ ((q3 + J : Nat) : Int) := by omega
          clear eV
          obtain ⟨X, hX⟩ : ∃ X, gp 8 29 V 254 = X := ⟨_, rfl⟩
          have HT3 : Hid ((zs2.set (q3 + J) X).take (q3 + (J + 1)) = (cauL R C).take (q3 + (J + 1))) := by
            have h0 := HT2.out
            rw [← hq3] at h0
            show _ = _
            rw [← Nat.add_assoc]
            exact take_set_nl (by rw [cauL_len, ← HQ.out]; exact B3) (by rw [ST2.out.len]; exact B3) h0 (by rw [hq3, cauL_at hIR hJD, hV]; exact hX)
          have H3 := hid hq3
          have HX := hid hX
          clear hq3 hX hV
          have m1 := ST2.out.M0.cell 1
          have m2 := ST2.out.M0.cell 2
          have f2 := ST2.out.Z.free (q3 + J)
          have z2 : wr.cell? ⟨w.heap.size + 1 + 1, q3 + J, none⟩ = some (.int .i64 ((nl zs2).getD (q3 + J) 0)) := by have := ST2.out.Z.cell (i := q3 + J) (by rw [nl_len, ST2.out.len]; exact B3); rwa [Nat.zero_add] at this
          have SN := hid (ST2.out.drew.set (q3 + J) X B3)
          go_wp2_with fail
          go_region_held3 (fun wx => wx.cell? ⟨w.heap.size + 1 + 1 + 1, 2, none⟩ = some (.slice (some ⟨w.heap.size + 1 + 1, 0, none⟩) q q)) ((go_keep; done)) ((go_at_call 37; refine (sinv8x _ V X EV.out hVl HX _).mono ?_; rintro e w4 ⟨rfl, rfl⟩))
          all_goals go_wp2
          all_goals
            go_roundw
            case rel => exact ⟨J + 1, zs2.set (q3 + J) X, by omega, by rw [← H3.out]; exact HT3.out, by go_num, SN.out⟩
            case measure => simp [intOf]; omega
        · have hJe : J = C := by omega
          subst hJe
          go_wp2
          go_roundw
          case rel => exact ⟨I + 1, zs2, by omega, by rw [Nat.succ_mul]; exact HT2.out, by go_num, ST2.out⟩
          case measure => simp [intOf]; omega
    · have hIe : I = R := by omega
      subst hIe
      have m0 := ST.out.M0.cell 0
      have m1 := ST.out.M0.cell 1
      have m2 := ST.out.M0.cell 2
      have HE : Hid (zs = cauL I C) := by
        have h0 := HT.out
        rw [← HQ.out, List.take_of_length_le (by rw [ST.out.len]; exact Nat.le_refl _), List.take_of_length_le (by rw [cauL_len, ← HQ.out]; exact Nat.le_refl _)] at h0
        exact h0
      go_wp2_with (refine wpList_store_row rfl 28 (.tmp 4) (.tmp 51) rfl w.heap.size #[.int .i64 0, .int .i64 I, .int .i64 C, .slice (some ⟨w.heap.size + 1 + 1, 0, none⟩) q q] rfl rfl _ _ ST.out.R0 (by kernel_rfl) rfl (one4 _ _ _ _ _ _) ?_)
      refine bodyPost_ret (v := .agg #[.int .i64 0, .int .i64 I, .int .i64 C, .slice (some ⟨w.heap.size + 1 + 1, 0, none⟩) q q]) ?_ rfl ⟨w.heap.size + 1 + 1, rfl, by omega, ?_, ?_⟩
      · exact results_cell_row Tryd.results15 _ _ w.heap.size _ _ _ _ rfl (ST.out.R0.setRow _) Tryd.underlying28 rfl (by kernel_rfl)
      · rw [← HE.out]; exact wr_setRow ST.out.Z _ (by omega)
      · exact below_setRow ST.out.bel _ _ (by omega)
end Go.Proofs.YtlobnmcjnaibaaaDoorR
