import Derived.Test.YtmhkelfmciepaaaAM
import Derived.Deep.CutBlock
import Derived.Deep.CutRange
namespace Go.Proofs.Ytmhkelfmciepaaa
open Go.RowKit
set_option linter.unusedVariables false
/-! FnGroupGoes. -/
set_option maxRecDepth 20000 in
set_option maxHeartbeats 8000000 in
theorem fnGroupGoes_core (w : World) (a0 : Option Addr) (len0 cap0 : Nat) (hc0 : CodeOk w a0 len0) (hl0 : len0 ≤ cap0) (a1 : Option Addr) (len1 cap1 : Nat) (hc1 : CodeOk w a1 len1) (hl1 : len1 ≤ cap1) :
    Calls Try.prog 4 #[.slice a0 len0 cap0, .slice a1 len1 cap1] w fun e w' => e = .returned (.bool true) ∧ Below w.heap.size w w' := by
  have b0 := hc0.1
  have b1 := hc1.1
  have d0 : decide ((1048576 : Int) < (len0 : Int)) = false := by simp; omega
  have d1 : decide ((1048576 : Int) < (len1 : Int)) = false := by simp; omega
  have K0 := hid (drawRG_all w a0 len0 cap0 hc0 hl0)
  have C1 := hid hc1
  clear hc0 hc1 b0 b1
  go_enter Try.func4, Try.ntmps4
  go_upto_region 3 with fail
  clear d0 d1
  go_wp2_with fail
  refine K0.out.mono ?_
  rintro e w4 ⟨m, av, cv, L, rfl, hL, hO, hA, hb⟩
  have GP := hid (hO.gops hA L.length (Nat.le_refl _))
  have GK := hid (fun k => gopAt_ok hA k)
  have OQ := hid hO
  have AQ := hid hA
  have HB4 := hid hb
  clear K0 hO hA hb
  obtain ⟨W4, hW4⟩ : ∃ v, v = w4 := ⟨_, rfl⟩
  rw [← hW4] at GP OQ AQ HB4
  rw [← hW4]
  clear hW4
  by_cases hm1 : m < 1
  · go_wp2
    go_ret
    exact ⟨rfl, HB4.out⟩
  by_cases hm9 : 9 < m
  · go_wp2
    go_ret
    exact ⟨rfl, HB4.out⟩
  by_cases hL1 : 100 < L.length
  · have hL1' : (100 : Int) < (L.length : Int) := by omega
    go_wp2
    go_ret
    exact ⟨rfl, HB4.out⟩
  have hL1' : ¬ (100 : Int) < (L.length : Int) := by omega
  obtain ⟨N, hN⟩ : ∃ N : Nat, (N : Int) = m := ⟨m.toNat, by omega⟩
  subst hN
  have N1 : 1 ≤ N := by omega
  have N9 : N ≤ 9 := by omega
  have KI := hid (sRun (N : Int) av L.length cv (gopAt L) _ _ (by omega) (fun k _ => GK.out k) W4 GP.out)
  go_upto_region 6 with fail
  clear hm1 hm9 hL1 hL1'
  go_wp2_with fail
  refine KI.out.mono ?_
  rintro e w5 ⟨hans, hb5⟩
  rcases hans with ⟨hng, _⟩ | ⟨_, bS, v2, rfl, hO2, la2, lc2, mb2, hM2⟩
  · exact absurd (show grP (N : Int) L.length from ⟨by omega, by omega, by omega⟩) hng
  obtain ⟨a2, c2, rfl, hG2⟩ := OwnGo.gous hO2
  have TN : (N : Int).toNat = N := by omega
  rw [TN] at hM2 hG2 ⊢
  rw [gR_len] at hG2 ⊢
  obtain ⟨s, hs⟩ : ∃ s, s = (gR N (gopAt L) L.length).1 := ⟨_, rfl⟩
  rw [← hs] at hM2
  have HS := hid hs
  have OKS : Hid (GOks L.length s) := by rw [hs]; exact gR_ok N (gopAt L) L.length
  obtain ⟨X7, hX7⟩ : ∃ X, X = w5.heap.size := ⟨_, rfl⟩
  obtain ⟨W6, hW6⟩ : ∃ W, W = w5.alloc (.cells #[.slice a2 L.length c2, .slice (some ⟨bS, 0, none⟩) N N] 31) := ⟨_, rfl⟩
  have b56 : Below w5.heap.size w5 W6 := by rw [hW6]; exact (Below.refl _ _).alloc (Nat.le_refl _) _
  have b46 : Below W4.heap.size W4 W6 := hb5.trans (b56.mono hb5.size)
  have R7 : Hid (RowAt W6 X7 31 #[.slice a2 L.length c2, .slice (some ⟨bS, 0, none⟩) N N]) := by rw [hW6, hX7]; exact RowAt.new _ _ _
  have M7 := hid ((hM2.mr).ap (Ap.below b56))
  have B6 := hid b46
  have HW6 := hid hW6
  have HX7 := hid hX7
  clear hs hb5 hO2 hM2 hG2 hW6 hX7 b56 b46 KI GP GK TN
  go_upto_region 7 with ((refine wpList_store_row rfl 31 (.tmp 7) (.tmp 49) rfl w5.heap.size #[.slice a2 L.length c2, .slice (some ⟨bS, 0, none⟩) N N] rfl rfl _ _ (RowAt.new w5 _ _) (by kernel_rfl) rfl (by simp [Value.oneCell']) ?_); rw [World.setRow_alloc_new])
  rw [← HW6.out, ← HX7.out]
  clear HW6 HX7
  go_wp2_with fail
  go_loopw [8, 9, 10] (fun y8 y9 y10 wr => ∃ k : Nat, k ≤ N ∧ y8 = .int .i64 ((gPick s k : Nat) : Int) ∧ y9 = .int .i64 (gTop s k) ∧ y10 = .int .i64 (k : Int) ∧ ∃ md, wr = W6.drewN md) (fun _ _ y10 _ => N - (intOf y10).toNat)
  case atStart => exact ⟨0, Nat.zero_le _, rfl, rfl, rfl, 0, (World.drewN_zero W6).symm⟩
  case round =>
    obtain ⟨k, hk, rfl, rfl, rfl, md, hD⟩ := hrel
    obtain ⟨WR, rfl⟩ : ∃ v, v = wr := ⟨_, rfl⟩
    have HD := hid hD
    have hB : Below W6.heap.size W6 WR := by rw [hD]; exact ⟨rfl, rfl, rfl, Nat.le_refl _, fun _ _ => rfl⟩
    clear hD
    by_cases hkN : k < N
    · have hkN' : (k : Int) < (N : Int) := by omega
      have hPk : gPick s k < N := by
        rcases Nat.eq_zero_or_pos k with e | e
        · rw [e]; show 0 < N; omega
        · exact Nat.lt_of_lt_of_le (gPick_lt s k e) (by omega)
      have P1 : Hid (gPick s (k + 1) = if gNewer (s k).lg (s (gPick s k)).lg then k else gPick s k) := rfl
      have P2 : Hid (gTop s (k + 1) = if gTop s k < (s k).tm then (s k).tm else gTop s k) := rfl
      obtain ⟨P, hP⟩ : ∃ P, P = gPick s k := ⟨_, rfl⟩
      obtain ⟨T, hT⟩ : ∃ T, T = gTop s k := ⟨_, rfl⟩
      rw [← hP] at hPk P1
      rw [← hT] at P2
      rw [← hP, ← hT]
      clear hP hT
      have hP' : (P : Int) < (N : Int) := by omega
      have r1 := (R7.out.below hB R7.out.lt).cell 1
      obtain ⟨z1, x0, _, _, _, x4, _, LK⟩ := (M7.out.ap (Ap.below hB)).cells hkN
      obtain ⟨z2, _, _, _, _, y4, _, LP⟩ := (M7.out.ap (Ap.below hB)).cells hPk
      have lk := (OKS.out k).lg
      have lp := (OKS.out P).lg
      have bD : ∀ nn, Below WR.heap.size WR (WR.drewN nn) := fun nn => ⟨rfl, rfl, rfl, Nat.le_refl _, fun _ _ => rfl⟩
      have KN : ∀ nn, Hid (Calls Try.prog 10 #[.slice (la2 k) (s k).lg.length (lc2 k), .slice (la2 P) (s P).lg.length (lc2 P)] (WR.drewN nn) fun e w' => e = .returned (.bool (gNewer (s k).lg (s P).lg)) ∧ w' = WR.drewN nn) := fun nn => sNewer (la2 k) (lc2 k) (s k).lg (la2 P) (lc2 P) (s P).lg (by omega) (by omega) (WR.drewN nn) (LK.below (bD nn)).ges (LP.below (bD nn)).ges
      obtain ⟨b, hb⟩ : ∃ b, b = gNewer (s k).lg (s P).lg := ⟨_, rfl⟩
      rw [← hb] at KN P1
      have R8 := hid (R7.out.below hB R7.out.lt)
      clear hb LK LP bD hB
      go_upto_region 12 with fail
      go_quiet ((go_at_call 10; exact Calls.quiet_of_same (KN _).out))
      obtain ⟨WQ, hWQ⟩ : ∃ W, W = WR.drewN nq := ⟨_, rfl⟩
      have q1 : WQ.cell? ⟨X7, 1, none⟩ = some (.slice (some ⟨bS, 0, none⟩) N N) := by rw [hWQ]; exact r1
      have q0 : WQ.cell? ⟨bS, k * 6, none⟩ = some (.int .i64 (s k).tm) := by rw [hWQ]; exact x0
      have HQ := hid hWQ
      rw [← hWQ]
      clear r1 x0 x4 y4 KN hWQ
      cases b with
      | true =>
        by_cases hT : T < (s k).tm
        · go_wp2_with fail
          go_roundw
          case rel => exact ⟨k + 1, hkN, by rw [P1.out]; rfl, by rw [P2.out, if_pos hT], by go_num, md + nq, by rw [HQ.out, HD.out, World.drewN_drewN]⟩
          case measure => simp [intOf]; omega
        · go_wp2_with fail
          go_roundw
          case rel => exact ⟨k + 1, hkN, by rw [P1.out]; rfl, by rw [P2.out, if_neg hT], by go_num, md + nq, by rw [HQ.out, HD.out, World.drewN_drewN]⟩
          case measure => simp [intOf]; omega
      | false =>
        by_cases hT : T < (s k).tm
        · go_wp2_with fail
          go_roundw
          case rel => exact ⟨k + 1, hkN, by rw [P1.out]; rfl, by rw [P2.out, if_pos hT], by go_num, md + nq, by rw [HQ.out, HD.out, World.drewN_drewN]⟩
          case measure => simp [intOf]; omega
        · go_wp2_with fail
          go_roundw
          case rel => exact ⟨k + 1, hkN, by rw [P1.out]; rfl, by rw [P2.out, if_neg hT], by go_num, md + nq, by rw [HQ.out, HD.out, World.drewN_drewN]⟩
          case measure => simp [intOf]; omega
    · have hkN' : ¬ (k : Int) < (N : Int) := by omega
      have hkeq : k = N := by omega
      obtain ⟨Ld, hLd⟩ : ∃ x, x = gPick s k := ⟨_, rfl⟩
      obtain ⟨Tp, hTp⟩ : ∃ x, x = gTop s k := ⟨_, rfl⟩
      rw [← hLd, ← hTp]
      rw [hkeq] at hLd hTp
      have HLd := hid hLd
      have HTp := hid hTp
      have LdN : Ld < N := by rw [hLd]; exact gPick_lt s N (by omega)
      have TpL : Tp ≤ (L.length : Int) := by rw [hTp]; exact gTop_le s _ (by omega) (fun p => (OKS.out p).tm1) N
      have tmT : (s Ld).tm ≤ Tp := by rw [hTp]; exact gTop_max s N Ld LdN
      have tm0 : 0 ≤ (s Ld).tm := (OKS.out Ld).tm0
      have R8 := hid (R7.out.below hB R7.out.lt)
      have M8 := hid (M7.out.ap (Ap.below hB))
      have B8 := hid (B6.out.trans (hB.mono B6.out.size))
      have B8s := hid B8.out.size
      clear hLd hTp hkeq hB HD R7 M7 B6 hk
      go_upto_region 17 with fail
      go_wp2_with fail
      go_loopw [11, 12] (fun y11 y12 wr => ∃ j : Nat, j ≤ N ∧ y12 = .int .i64 (j : Int) ∧ OwnNums wr WR.heap.size 2 .i64 y11 (gAll j) ∧ Below WR.heap.size WR wr) (fun _ y12 _ => N - (intOf y12).toNat)
      case atStart => exact ⟨0, Nat.zero_le _, rfl, OwnNums.empty WR 2 .i64, (Below.refl _ _).alloc (Nat.le_refl _) _⟩
      case round =>
        obtain ⟨j, hj, rfl, hO, hB⟩ := hrel
        obtain ⟨WS, rfl⟩ : ∃ v, v = wr := ⟨_, rfl⟩
        have O1 := hid hO
        have B1 := hid hB
        have Z1 := hB.size
        clear hO hB
        by_cases hjN : j < N
        · have hjN' : (j : Int) < (N : Int) := by omega
          have gl : (gAll j).length ≤ 17592186044414 := by rw [gAll_len]; omega
          go_wp2_with (first | (at_builtin; refine append_num2 WR.heap.size WS rfl (.tmp 89) (.tmp 91) 27 rfl 2 .i64 8 Try.underlying27 Try.info64D (by decide) _ (gAll j) (j : Int) rfl O1.out Z1 rfl gl ?_) | go_in)
          intro v' w' hO' hg'
          have B2 := hid (B1.out.grown hg' Z1 (fun g hg => (World.ownsRow.lt O1.out g hg).1))
          have O2 := hid hO'
          clear hg' hO'
          go_wp2_with fail
          go_roundw
          case rel => exact ⟨j + 1, hjN, by go_num, by rw [gAll_succ]; exact O2.out, B2.out⟩
          case measure => simp [intOf]; omega
        · have hjN' : ¬ (j : Int) < (N : Int) := by omega
          have hjeq : j = N := by omega
          rw [hjeq] at O1
          obtain ⟨pa, pc, rfl⟩ := OwnNums.shapeQ O1.out
          have R9 := hid (R8.out.below B1.out R8.out.lt)
          have M9 := hid (M8.out.ap (Ap.below B1.out))
          have B9 := hid (B8.out.trans (B1.out.mono B8.out.size))
          have OQ9 := hid ((OQ.out.belowQ B9.out).belowQ ((Below.refl WS.heap.size WS).alloc (Nat.le_refl _) (.cells #[] 42)))
          have O21 := hid (OwnGq.empty WS WS.heap.size (Nat.le_refl _))
          have Z21 : WS.heap.size ≤ (WS.alloc (.cells #[] 42)).heap.size := by rw [World.size_alloc]; omega
          have E21 := hid ((Below.refl WS.heap.size WS).alloc (Nat.le_refl _) (.cells #[] 42))
          clear hjeq hj Z1 B1 B8 R8 M8
          go_upto_region 22 with ((at_builtin; refine append_gqs WS.heap.size w.heap.size _ rfl (.tmp 93) (.tmp 94) rfl _ rfl O21.out Z21 av cv L rfl OQ9.out (by omega) ?_; intro v13 WA hO13 hg13))
          have BA := hid (E21.out.grown hg13 Z21 (fun g hg => (World.ownsRow.lt O21.out g hg).1))
          have OA := hid hO13
          clear hO13 hg13 O21 Z21 E21 OQ9
          have r1 := (R9.out.below BA.out R9.out.lt).cell 1
          obtain ⟨z1, x0, _, _, _, _, _, _⟩ := (M9.out.ap (Ap.below BA.out)).cells LdN
          have LdN' : (Ld : Int) < (N : Int) := by omega
          obtain ⟨t0, ht0⟩ : ∃ t, t = (s Ld).tm := ⟨_, rfl⟩
          rw [← ht0] at x0 tmT tm0
          have HT0 := hid ht0
          obtain ⟨E, hE⟩ : ∃ E : Nat, (E : Int) = Tp - t0 + 1 := ⟨(Tp - t0 + 1).toNat, by omega⟩
          have E1 : (E : Int) ≤ Tp - t0 + 1 := by omega
          have E2 : Tp - t0 + 1 ≤ (E : Int) := by omega
          have HE := hid hE
          have EB : E ≤ 101 := by omega
          clear ht0 hE
          go_wp2_with fail
          go_loopw [13, 14] (fun y13 y14 wr => ∃ j : Nat, j ≤ E ∧ y14 = .int .i64 (t0 + (j : Int)) ∧ OwnGq wr WS.heap.size y13 (L ++ List.replicate j (qE N Ld pa pc)) ∧ Below WS.heap.size WS wr) (fun _ y14 _ => (Tp + 1 - intOf y14).toNat)
          case atStart => exact ⟨0, Nat.zero_le _, by simp, by simpa using OA.out, BA.out⟩
          case round =>
            obtain ⟨j2, hj2, rfl, hO, hB⟩ := hrel
            obtain ⟨WT, rfl⟩ : ∃ v, v = wr := ⟨_, rfl⟩
            have O3 := hid hO
            have B3 := hid hB
            have Z3 := hB.size
            clear hO hB r1 x0
            by_cases hjE : j2 < E
            · have hjE' : t0 + (j2 : Int) ≤ Tp := by omega
              have ln : (L ++ List.replicate j2 (qE N Ld pa pc)).length ≤ 1048576 := by simp; omega
              go_wp2_with (first | (at_builtin; refine append_gq WS.heap.size WT rfl (.tmp 107) (.tmp 111) rfl _ (L ++ List.replicate j2 (qE N Ld pa pc)) (qE N Ld pa pc) rfl O3.out Z3 rfl ln ?_) | go_in)
              intro v' w' hO' hg'
              have B4 := hid (B3.out.grown hg' Z3 (fun g hg => (World.ownsRow.lt O3.out g hg).1))
              have O4 := hid hO'
              clear hg' hO'
              go_wp2_with fail
              go_roundw
              case rel => exact ⟨j2 + 1, hjE, by go_num, by rw [List.replicate_succ']; first | exact O4.out | (rw [← List.append_assoc]; exact O4.out), B4.out⟩
              case measure => simp [intOf]; omega
            · have hjE' : ¬ t0 + (j2 : Int) ≤ Tp := by omega
              have hjeq : j2 = E := by omega
              rw [hjeq] at O3
              have BW := hid (HB4.out.trans ((B9.out.trans (B3.out.mono B9.out.size)).mono HB4.out.size))
              have KD := hid (drawPutText_all WT a1 len1 cap1 (C1.out.below BW.out) hl1)
              clear hjeq hj2
              go_wp2_with fail
              refine KD.out.mono ?_
              rintro e w8 ⟨⟨t, rfl, ht⟩, hb8⟩
              have B5 := hid (B3.out.trans (hb8.mono Z3))
              have O5 := hid (O3.out.belowQ hb8)
              clear hb8 O3 KD
              go_upto_if 120 with fail
              go_cut [] from 121 to 126 (fun wx => ∃ t3 : ByteArray, t3.size ≤ 100 ∧ RowAt wx w8.heap.size 9 #[.string ⟨#[120]⟩, .string ⟨#[121]⟩, .string t3] ∧ Below w8.heap.size w8 wx)
              case first =>
                have RN := RowAt.new w8 9 #[.string ⟨#[120]⟩, .string ⟨#[121]⟩, .string t]
                have BN := (Below.refl w8.heap.size w8).alloc (Nat.le_refl _) (.cells #[.string ⟨#[120]⟩, .string ⟨#[121]⟩, .string t] 9)
                have RNH := hid RN
                have BNH := hid BN
                clear RN BN
                by_cases h100 : 100 < t.size
                · have h100' : (100 : Int) < (t.size : Int) := by omega
                  go_wp2_with fail
                  go_meet
                  case rel => exact ⟨_, by rw [ByteArray.size_extract]; omega, RowAt.new _ _ _, (Below.refl _ _).alloc (Nat.le_refl _) _⟩
                · have h100' : ¬ (100 : Int) < (t.size : Int) := by omega
                  go_wp2_with fail
                  go_meet
                  case rel => exact ⟨t, by omega, RNH.out, BNH.out⟩
              case rest =>
              obtain ⟨t3, ht3, hRT, hB8⟩ := hcut
              obtain ⟨WU, hWU⟩ : ∃ v, v = wc := ⟨_, rfl⟩
              obtain ⟨XT, hXT⟩ : ∃ X, X = w8.heap.size := ⟨_, rfl⟩
              rw [← hWU] at hRT hB8
              rw [← hXT] at hRT
              rw [← hWU, ← hXT]
              clear hXT
              have RT := hid hRT
              have B6 := hid (B5.out.trans (hB8.mono B5.out.size))
              have O6 := hid (O5.out.belowQ hB8)
              clear hRT hB8 hWU B5 O5 B3 Z3
              go_wp2_with fail
              go_loopw [13, 16] (fun y13 y16 wr => ∃ j : Nat, j ≤ 3 ∧ y16 = .int .i64 (j : Int) ∧ OwnGq wr WS.heap.size y13 (L ++ List.replicate E (qE N Ld pa pc) ++ qPs Ld t3 j) ∧ Below WS.heap.size WS wr ∧ RowAt wr XT 9 #[.string ⟨#[120]⟩, .string ⟨#[121]⟩, .string t3]) (fun _ y16 _ => 3 - (intOf y16).toNat)
              case atStart => exact ⟨0, Nat.zero_le _, rfl, by simpa [qPs] using O6.out, B6.out, RT.out⟩
              case round =>
                obtain ⟨j3, hj3, rfl, hO, hB, hR⟩ := hrel
                obtain ⟨WV, rfl⟩ : ∃ v, v = wr := ⟨_, rfl⟩
                have O7 := hid hO
                have B7 := hid hB
                have R7 := hid hR
                have Z7 := hB.size
                clear hO hB hR O6 B6 RT
                by_cases hj : j3 < 3
                · have hj' : (j3 : Int) < 3 := by omega
                  have cj := txs_row R7.out hj
                  have ln : (L ++ List.replicate E (qE N Ld pa pc) ++ qPs Ld t3 j3).length ≤ 1048576 := by
                    have := qPs_len Ld t3 j3
                    simp only [List.length_append, List.length_replicate]; omega
                  go_wp2_with (first | (at_builtin; refine append_gq WS.heap.size WV rfl (.tmp 131) (.tmp 138) rfl _ (L ++ List.replicate E (qE N Ld pa pc) ++ qPs Ld t3 j3) (qP Ld (txs t3 j3)) rfl O7.out Z7 rfl ln ?_) | go_in)
                  intro v' w' hO' hg'
                  have B8 := hid (B7.out.grown hg' Z7 (fun g hg => (World.ownsRow.lt O7.out g hg).1))
                  have O8 : Hid (OwnGq w' WS.heap.size v' (L ++ List.replicate E (qE N Ld pa pc) ++ qPs Ld t3 (j3 + 1))) := by
                    show OwnGq _ _ _ _
                    have q := hO'
                    rw [qPs_succ Ld t3 hj]
                    simp only [List.append_assoc] at q ⊢
                    exact q
                  have R8 := hid (O7.out.keepR R7.out (by decide) hg')
                  clear hg' hO' cj
                  go_wp2_with fail
                  go_roundw
                  case rel => exact ⟨j3 + 1, hj, by go_num, O8.out, B8.out, R8.out⟩
                  case measure => simp [intOf]; omega
                · have hj' : ¬ (j3 : Int) < 3 := by omega
                  have hjeq : j3 = 3 := by omega
                  rw [hjeq] at O7
                  have O8 : Hid (OwnGq WV WS.heap.size u13 (goAll N Ld E L pa pc (txs t3) 0)) := by
                    have q := O7.out
                    show OwnGq WV WS.heap.size u13 (goAll N Ld E L pa pc (txs t3) 0)
                    unfold goAll
                    rw [show cps N Ld 0 = [] from rfl, List.append_nil]
                    exact q
                  clear hjeq O7 hj3
                  go_wp2_with fail
                  go_loopw [13, 17] (fun y13 y17 wr => ∃ j : Nat, j ≤ 2 * N ∧ y17 = .int .i64 (j : Int) ∧ OwnGq wr WS.heap.size y13 (goAll N Ld E L pa pc (txs t3) j) ∧ Below WS.heap.size WS wr ∧ RowAt wr XT 9 #[.string ⟨#[120]⟩, .string ⟨#[121]⟩, .string t3]) (fun _ y17 _ => 2 * N - (intOf y17).toNat)
                  case atStart => exact ⟨0, Nat.zero_le _, rfl, O8.out, B7.out, R7.out⟩
                  case round =>
                    obtain ⟨k2, hk2, rfl, hO, hB, hR⟩ := hrel
                    obtain ⟨WX, rfl⟩ : ∃ v, v = wr := ⟨_, rfl⟩
                    have O9 := hid hO
                    have B10 := hid hB
                    have R10 := hid hR
                    have Z10 := hB.size
                    clear hO hB hR O8 B7 R7 Z7
                    have N2 : (2 : Int) * (N : Int) ≤ 18 := by omega
                    by_cases hkk : k2 < 2 * N
                    · have hkk' : (k2 : Int) < 2 * (N : Int) := by omega
                      have n0 : ¬ (N : Int) = 0 := by omega
                      have nb : ((N : Int) == 0) = false := beq_eq_false_iff_ne.2 n0
                      obtain ⟨R, hR⟩ : ∃ R, R = k2 % N := ⟨_, rfl⟩
                      have e1 : (k2 : Int).tmod (N : Int) = (R : Int) := by rw [hR]; exact (Int.ofNat_tmod k2 N).symm
                      have hRN : R < N := by rw [hR]; exact Nat.mod_lt _ (by omega)
                      have HR := hid hR
                      clear hR
                      have gl := goAll_le N Ld E L pa pc (txs t3) k2
                      have ln : (goAll N Ld E L pa pc (txs t3) k2).length ≤ 1048576 := by omega
                      by_cases hRL : R = Ld
                      · have hRb : ((R : Int) != (Ld : Int)) = false := by simp [hRL]
                        have hRi : (R : Int) = (Ld : Int) := by omega
                        have O11 : Hid (OwnGq WX WS.heap.size u13 (goAll N Ld E L pa pc (txs t3) (k2 + 1))) := by
                          show OwnGq WX WS.heap.size u13 (goAll N Ld E L pa pc (txs t3) (k2 + 1))
                          rw [goAll_skip _ _ _ _ _ _ _ _ (by rw [← HR.out]; exact hRL)]; exact O9.out
                        clear hRL gl ln
                        go_wp2_with fail
                        go_roundw
                        case rel => exact ⟨k2 + 1, hkk, by go_num, O11.out, B10.out, R10.out⟩
                        case measure => simp [intOf]; omega
                      · have hRb : ((R : Int) != (Ld : Int)) = true := by simp; omega
                        have hRi : ¬ (R : Int) = (Ld : Int) := by omega
                        go_wp2_with (first | (at_builtin; refine append_gq WS.heap.size WX rfl (.tmp 151) (.tmp 157) rfl _ (goAll N Ld E L pa pc (txs t3) k2) (qC Ld R) rfl O9.out Z10 rfl ln ?_) | go_in)
                        intro v' w' hO' hg'
                        have B11 := hid (B10.out.grown hg' Z10 (fun g hg => (World.ownsRow.lt O9.out g hg).1))
                        have O11 : Hid (OwnGq w' WS.heap.size v' (goAll N Ld E L pa pc (txs t3) (k2 + 1))) := by
                          show OwnGq w' WS.heap.size v' (goAll N Ld E L pa pc (txs t3) (k2 + 1))
                          rw [goAll_step _ _ _ _ _ _ _ _ (by rw [← HR.out]; exact hRL), ← HR.out]; exact hO'
                        have R11 := hid (O9.out.keepR R10.out (by decide) hg')
                        clear hg' hO'
                        go_wp2_with fail
                        go_roundw
                        case rel => exact ⟨k2 + 1, hkk, by go_num, O11.out, B11.out, R11.out⟩
                        case measure => simp [intOf]; omega
                    · have hkk' : ¬ (k2 : Int) < 2 * (N : Int) := by omega
                      have hkeq : k2 = 2 * N := by omega
                      rw [hkeq] at O9
                      have GA := hid (goes_all N L N1 (by omega) pa pc (txs t3) (txs_size ht3) s HS.out Ld E HLd.out (by rw [← HT0.out, ← HTp.out]; exact HE.out))
                      have gl := goAll_le N Ld E L pa pc (txs t3) (2 * N)
                      have B4X := hid (B9.out.trans (B10.out.mono B9.out.size))
                      have GQ : Hid (∀ x ∈ goAll N Ld E L pa pc (txs t3) (2 * N), GqOk WX w.heap.size x) := by
                        show ∀ x ∈ goAll N Ld E L pa pc (txs t3) (2 * N), GqOk WX w.heap.size x
                        intro x hx
                        unfold goAll at hx
                        rcases List.mem_append.1 hx with hx | hx
                        · rcases List.mem_append.1 hx with hx | hx
                          · rcases List.mem_append.1 hx with hx | hx
                            · exact (AQ.out x hx).belowQ B4X.out
                            · obtain ⟨_, rfl⟩ := List.mem_replicate.1 hx
                              refine ⟨by show (gAll N).length ≤ 9; rw [gAll_len]; exact N9, by show (0 : Nat) ≤ 1001; omega, OwnNums.monoQ (OwnNums.belowQ O1.out B10.out) ?_⟩
                              exact Nat.le_trans HB4.out.size B8s.out
                          · simp at hx
                            have h3 : ∀ i, GqOk WX w.heap.size (qP Ld (txs t3 i)) := fun i => GqOk.none rfl rfl rfl (Nat.le_trans (show (txs t3 i).size ≤ 1000 from txs_size ht3 i) (by omega))
                            rcases hx with rfl | rfl | rfl <;> exact h3 _
                        · obtain ⟨t, rfl⟩ := cps_mem _ _ _ _ hx
                          exact GqOk.none rfl rfl rfl (by show (0 : Nat) ≤ 1001; omega)
                      obtain ⟨La, hLa⟩ : ∃ x, x = goAll N Ld E L pa pc (txs t3) (2 * N) := ⟨_, rfl⟩
                      rw [← hLa] at GA gl GQ O9
                      obtain ⟨aq, cq, rfl⟩ := OwnGq.shp O9.out
                      have GP := hid ((O9.out.mono (Nat.le_trans HB4.out.size B9.out.size)).gops GQ.out La.length (Nat.le_refl _))
                      have GK := hid (fun k => gopAt_ok GQ.out k)
                      have KI := hid (iRun (N : Int) aq La.length cq (gopAt La) _ _ (by omega) (fun k _ => GK.out k) WX GP.out)
                      clear hLa hkeq
                      go_upto_region 38 with fail
                      go_wp2_with fail
                      refine KI.out.mono ?_
                      rintro e w11 ⟨hans, hb11⟩
                      rcases hans with ⟨hng, _⟩ | ⟨_, g, cg, v1, la, lc, mb, rfl, hO1, hM1⟩
                      · exact absurd (show grP (N : Int) La.length from ⟨by omega, by omega, by omega⟩) hng
                      obtain ⟨a3, c3, rfl, hG3⟩ := OwnGo.gous hO1
                      have TN : (N : Int).toNat = N := by omega
                      rw [TN] at hM1 hG3 ⊢
                      rw [gR_len] at hG3 ⊢
                      have OK2 : Hid (GOks La.length (gR N (gopAt La) La.length).1) := gR_ok N (gopAt La) La.length
                      obtain ⟨s2, hs2⟩ : ∃ s2, s2 = (gR N (gopAt La) La.length).1 := ⟨_, rfl⟩
                      rw [← hs2] at hM1 GA OK2
                      obtain ⟨X18, hX18⟩ : ∃ X, X = w11.heap.size := ⟨_, rfl⟩
                      obtain ⟨WY, hWY⟩ : ∃ W, W = w11.alloc (.cells #[.slice a3 La.length c3, .slice (some ⟨g, 0, none⟩) N cg] 31) := ⟨_, rfl⟩
                      have bY : Below w11.heap.size w11 WY := by rw [hWY]; exact (Below.refl _ _).alloc (Nat.le_refl _) _
                      have bXY : Below WX.heap.size WX WY := hb11.trans (bY.mono hb11.size)
                      have R18 : Hid (RowAt WY X18 31 #[.slice a3 La.length c3, .slice (some ⟨g, 0, none⟩) N cg]) := by rw [hWY, hX18]; exact RowAt.new _ _ _
                      have M18 := hid ((hM1.mr).ap (Ap.below bY))
                      have RTY := hid (R10.out.below bXY R10.out.lt)
                      have BWY := hid (HB4.out.trans ((B4X.out.trans (bXY.mono B4X.out.size)).mono HB4.out.size))
                      have HWY := hid hWY
                      have HX18 := hid hX18
                      clear hs2 hb11 hO1 hM1 hG3 hWY hX18 bY bXY KI GP GK TN GQ O9 B10 R10 B4X Z10 B9 O1 OQ AQ B8s R9 M9 BA OA HT0 HE HTp HLd HS gl
                      go_upto_region 39 with ((refine wpList_store_row rfl 31 (.tmp 18) (.tmp 161) rfl w11.heap.size #[.slice a3 La.length c3, .slice (some ⟨g, 0, none⟩) N cg] rfl rfl _ _ (RowAt.new w11 _ _) (by kernel_rfl) rfl (by simp [Value.oneCell']) ?_); rw [World.setRow_alloc_new])
                      rw [← HWY.out, ← HX18.out]
                      clear HWY HX18
                      obtain ⟨Bl, T, g1, g2, g3⟩ := GA.out
                      have p1 := R18.out.cell 1
                      obtain ⟨z3, _, _, y2, _, y4, _, LL⟩ := M18.out.cells LdN
                      rw [g1] at y2
                      have hl2 : (s2 Ld).lg.length = Bl.length + 3 := by rw [g2]; simp
                      obtain ⟨M, hM⟩ : ∃ M, M = Bl.length + 3 := ⟨_, rfl⟩
                      have M3 : 3 ≤ M := by omega
                      rw [← hM] at hl2
                      have HM := hid hM
                      have HL2 := hid hl2
                      have G2 := hid g2
                      have G3 := hid g3
                      have LLH := hid LL
                      rw [hl2] at y4
                      clear g1 g2 g3 hl2 hM LL GA
                      have LdN' : (Ld : Int) < (N : Int) := by omega
                      go_upto_region 42 with fail
                      go_wp2_with fail
                      clear p1 y2 y4
                      go_loopw [20] (fun y20 wr => ∃ j : Nat, j ≤ N ∧ y20 = .int .i64 (j : Int) ∧ Below WY.heap.size WY wr) (fun y20 _ => N - (intOf y20).toNat)
                      case atStart => exact ⟨0, Nat.zero_le _, rfl, Below.refl _ _⟩
                      case round =>
                        obtain ⟨k6, hk6, rfl, hB⟩ := hrel
                        obtain ⟨WZ, rfl⟩ : ∃ v, v = wr := ⟨_, rfl⟩
                        have BZ := hid hB
                        clear hB
                        have p1 := (R18.out.below BZ.out R18.out.lt).cell 1
                        by_cases hkN : k6 < N
                        · have hkN' : (k6 : Int) < (N : Int) := by omega
                          obtain ⟨z4, x0, x1, x2, x3, x4, x5, LK⟩ := (M18.out.ap (Ap.below BZ.out)).cells hkN
                          obtain ⟨c1, c2, c3⟩ := G3.out k6 hkN
                          rw [← HM.out] at c1 c2 c3
                          rw [c1] at x3
                          have C3 := hid c3
                          obtain ⟨X21, hX21⟩ : ∃ X, X = WZ.heap.size := ⟨_, rfl⟩
                          obtain ⟨WA2, hWA2⟩ : ∃ W, W = WZ.alloc (.cells #[.int .i64 (s2 k6).tm, .int .i64 (s2 k6).vt, .bool (s2 k6).ld, .int .i64 (M : Int), .slice (la k6) (s2 k6).lg.length (lc k6), .slice (some ⟨z4, 0, none⟩) N N] 36) := ⟨_, rfl⟩
                          have bA2 : Below WZ.heap.size WZ WA2 := by rw [hWA2]; exact (Below.refl _ _).alloc (Nat.le_refl _) _
                          have R21 : Hid (RowAt WA2 X21 36 #[.int .i64 (s2 k6).tm, .int .i64 (s2 k6).vt, .bool (s2 k6).ld, .int .i64 (M : Int), .slice (la k6) (s2 k6).lg.length (lc k6), .slice (some ⟨z4, 0, none⟩) N N]) := by rw [hWA2, hX21]; exact RowAt.new _ _ _
                          have LKA := hid (LK.below bA2)
                          have BA2 := hid (BZ.out.trans (bA2.mono BZ.out.size))
                          have HWA2 := hid hWA2
                          have HX21 := hid hX21
                          clear bA2 hWA2 hX21 LK c1 c3
                          go_upto_region 46 with ((refine wpList_store_row rfl 36 (.tmp 21) (.tmp 192) rfl WZ.heap.size #[.int .i64 (s2 k6).tm, .int .i64 (s2 k6).vt, .bool (s2 k6).ld, .int .i64 (M : Int), .slice (la k6) (s2 k6).lg.length (lc k6), .slice (some ⟨z4, 0, none⟩) N N] rfl rfl _ _ (RowAt.new WZ _ _) (by kernel_rfl) rfl (by simp [Value.oneCell']) ?_); rw [World.setRow_alloc_new])
                          rw [← HWA2.out, ← HX21.out]
                          clear HWA2 HX21 p1 x0 x1 x2 x3 x4 x5
                          have p1 := (R18.out.below BA2.out R18.out.lt).cell 1
                          obtain ⟨z5, _, _, _, _, y4, _, LLd⟩ := (M18.out.ap (Ap.below BA2.out)).cells LdN
                          have lk5 := (OK2.out k6).lg
                          have bD : ∀ nn, Below WA2.heap.size WA2 (WA2.drewN nn) := fun nn => ⟨rfl, rfl, rfl, Nat.le_refl _, fun _ _ => rfl⟩
                          have he : ∀ j, j < M → geAt (s2 k6).lg j = geAt (s2 Ld).lg j := by
                            intro j hj
                            have q := C3.out
                            rw [← G2.out] at q
                            have q2 := congrArg (fun l : List Ge => l[j]?) q
                            simp only [List.getElem?_take, if_pos hj] at q2
                            unfold geAt
                            rw [List.getD_eq_getElem?_getD, List.getD_eq_getElem?_getD, q2]
                          have KG : ∀ nn, Hid (Calls Try.prog 8 #[.slice (la k6) (s2 k6).lg.length (lc k6), .slice (la Ld) M (lc Ld), .int .i64 (M : Int)] (WA2.drewN nn) fun e w' => e = .returned (.bool true) ∧ ∃ m, w' = (WA2.drewN nn).drewN m) := fun nn => by
                            have q := lwLog_all (WA2.drewN nn) (la k6) (la Ld) (lc k6) (lc Ld) (s2 k6).lg (s2 Ld).lg ((LKA.out.below (bD nn)).ges) ((LLd.below (bD nn)).ges) M c2 (by rw [HL2.out]; exact Nat.le_refl _) (by omega) he
                            rw [HL2.out] at q
                            exact q
                          rw [HL2.out] at y4
                          have r3 := R21.out.cell 3
                          have r4 := R21.out.cell 4
                          have hlt : ¬ ((s2 k6).lg.length : Int) < (M : Int) := by omega
                          have hm3 : ¬ (M : Int) < 3 := by omega
                          clear he bD LLd
                          go_quiet ((go_at_call 8; exact Calls.quiet_of (KG _).out))
                          have bQ : Below WY.heap.size WY (WA2.drewN nq) := BA2.out.trans ⟨rfl, rfl, rfl, Nat.le_refl _, fun _ _ => rfl⟩
                          have BQ := hid bQ
                          clear bQ r3 r4 y4 p1 hlt hm3 c2
                          go_wp2_with fail
                          go_roundw
                          case rel => exact ⟨k6 + 1, hkN, by go_num, BQ.out⟩
                          case measure => simp [intOf]; omega
                        · have hkN' : ¬ (k6 : Int) < (N : Int) := by omega
                          obtain ⟨z3, _, _, _, _, y4, _, LL⟩ := (M18.out.ap (Ap.below BZ.out)).cells LdN
                          have c2 := (RTY.out.below BZ.out RTY.out.lt).cell 2
                          have hg := LL.ges
                          rcases hg.2 with h0 | ⟨b9, o9, hla, _, hcell⟩
                          · rw [HL2.out] at h0; omega
                          rw [hla, HL2.out] at y4
                          obtain ⟨J0, hJ0⟩ : ∃ J, J = Bl.length := ⟨_, rfl⟩
                          obtain ⟨J1, hJ1⟩ : ∃ J, J = Bl.length + 1 := ⟨_, rfl⟩
                          obtain ⟨J2, hJ2⟩ : ∃ J, J = Bl.length + 2 := ⟨_, rfl⟩
                          have n0 : geAt (s2 Ld).lg J0 = ⟨T, txs t3 0⟩ := by rw [G2.out, hJ0]; unfold geAt; simp [List.getD]
                          have n1 : geAt (s2 Ld).lg J1 = ⟨T, txs t3 1⟩ := by rw [G2.out, hJ1]; unfold geAt; simp [List.getD]
                          have n2 : geAt (s2 Ld).lg J2 = ⟨T, txs t3 2⟩ := by rw [G2.out, hJ2]; unfold geAt; simp [List.getD]
                          have q0 : WZ.cell? ⟨b9, o9 + J0 * 2 + 1, none⟩ = some (.string ⟨#[120]⟩) := by
                            have := (hcell J0 (by rw [HL2.out, HM.out]; omega)).2
                            rw [n0] at this; exact this
                          have q1 : WZ.cell? ⟨b9, o9 + J1 * 2 + 1, none⟩ = some (.string ⟨#[121]⟩) := by
                            have := (hcell J1 (by rw [HL2.out, HM.out]; omega)).2
                            rw [n1] at this; exact this
                          have q2 : WZ.cell? ⟨b9, o9 + J2 * 2 + 1, none⟩ = some (.string t3) := by
                            have := (hcell J2 (by rw [HL2.out, HM.out]; omega)).2
                            rw [n2] at this; exact this
                          have m0 : (M : Int) - 3 = (J0 : Int) := by have := HM.out; omega
                          have m1 : (M : Int) - 2 = (J1 : Int) := by have := HM.out; omega
                          have m2 : (M : Int) - 1 = (J2 : Int) := by have := HM.out; omega
                          have l0 : (J0 : Int) < (M : Int) := by omega
                          have M5 : (M : Int) ≤ 500 := by have := (OK2.out Ld).lg; rw [HL2.out] at this; omega
                          have l1 : (J1 : Int) < (M : Int) := by omega
                          have l2 : (J2 : Int) < (M : Int) := by omega
                          have BF := hid (BWY.out.trans (BZ.out.mono BWY.out.size))
                          clear hcell hg n0 n1 n2 LL hla hJ0 hJ1 hJ2
                          go_upto_region 49 with fail
                          go_quiet (fail)
                          go_wp2
                          go_ret
                          exact ⟨rfl, BF.out.trans ⟨rfl, rfl, rfl, Nat.le_refl _, fun _ _ => rfl⟩⟩
end Go.Proofs.Ytmhkelfmciepaaa
namespace Go.Proofs.Ytmhkelfmciepaaa
open Go.RowKit
set_option maxRecDepth 20000 in
set_option maxHeartbeats 1000000 in
theorem fnGroupGoes_walk {w : World} (a0 : Option Addr) (len0 cap0 : Nat) (z0 : List Int) (h0 : IsRow .u8 w a0 len0 cap0 z0) (a1 : Option Addr) (len1 cap1 : Nat) (z1 : List Int) (h1 : IsRow .u8 w a1 len1 cap1 z1) :
    Calls Try.prog 4 #[.slice a0 len0 cap0, .slice a1 len1 cap1] w fun e w' => e = .returned (.bool true) ∧ Below w.heap.size w w' := by
  have m0 := h0.le
  have m1 := h1.le
  unfold maxLen at m0 m1
  by_cases hl0 : len0 ≤ 1048576
  · by_cases hl1 : len1 ≤ 1048576
    · exact fnGroupGoes_core w a0 len0 cap0 (codeOk_of w a0 len0 cap0 z0 h0 hl0) m0.1 a1 len1 cap1 (codeOk_of w a1 len1 cap1 z1 h1 hl1) m1.1
    · have d0 : decide ((1048576 : Int) < (len0 : Int)) = false := by simp; omega
      have d1 : decide ((1048576 : Int) < (len1 : Int)) = true := by simp; omega
      go_enter Try.func4, Try.ntmps4
      go_wp2
      go_ret
      exact ⟨rfl, Below.refl _ _⟩
  · have d0 : decide ((1048576 : Int) < (len0 : Int)) = true := by simp; omega
    go_enter Try.func4, Try.ntmps4
    go_wp2
    go_ret
    exact ⟨rfl, Below.refl _ _⟩
end Go.Proofs.Ytmhkelfmciepaaa
