import Derived.Test.YtmhkelfmciepaaaAM
import Derived.Deep.CutBlock
import Derived.Deep.CutRange
namespace Go.Proofs.Ytmhkelfmciepaaa
open Go.RowKit
set_option linter.unusedVariables false
/-! FnAgree. -/
theorem told_nil (N : Nat) (o : Nat → Gop) (hN : 1 ≤ N) : Told N o [] 0 := by
  have q := (told_at N o 0 0 (by omega)).2
  exact q
theorem AgSt.start (N : Nat) (o : Nat → Gop) (w4 : World) (hN : 1 ≤ N) :
    AgSt N o w4 0 (some ⟨w4.heap.size, 0, none⟩) 0 [] (.slice (some ⟨w4.heap.size + 1, 0, none⟩) 0 0) (.slice (some ⟨w4.heap.size + 2, 0, none⟩) 0 0) [] []
      (((w4.alloc (.cells #[] 46)).alloc (.cells #[] 2)).alloc (.cells #[] 2)) := by
  have b1 : Below w4.heap.size w4 (w4.alloc (.cells #[] 46)) := (Below.refl _ _).alloc (Nat.le_refl _) _
  have b2 : Below w4.heap.size w4 ((w4.alloc (.cells #[] 46)).alloc (.cells #[] 2)) := b1.alloc b1.size _
  have o6 := (OwnNums.empty (w4.alloc (.cells #[] 46)) 2 .i64).alloc (.cells #[] 2)
  have o7 := OwnNums.empty ((w4.alloc (.cells #[] 46)).alloc (.cells #[] 2)) 2 .i64
  simp only [World.size_alloc] at o6 o7
  refine ⟨b2.alloc b2.size _, ⟨Nat.zero_le _, .inl ⟨rfl, fun e => by cases e⟩⟩, o6.monoQ (by omega), o7.monoQ (by omega), ?_, told_nil N o hN, rfl, fun j hj => by simp at hj, by simp⟩
  intro g hg e
  have e1 : w4.heap.size + 1 = g := Option.some.inj hg
  have e2 : w4.heap.size + 2 = g := Option.some.inj e
  omega
set_option maxRecDepth 20000 in
set_option maxHeartbeats 8000000 in
theorem fnAgree_core (w : World) (a0 : Option Addr) (len0 cap0 : Nat) (hc0 : CodeOk w a0 len0) (hl0 : len0 ≤ cap0) :
    Calls Try.prog 3 #[.slice a0 len0 cap0] w fun e w' => e = .returned (.bool true) ∧ Below w.heap.size w w' := by
  have b0 := hc0.1
  have d0 : decide ((1048576 : Int) < (len0 : Int)) = false := by simp; omega
  have K0 := hid (drawRG_all w a0 len0 cap0 hc0 hl0)
  clear hc0 b0
  go_enter Try.func3, Try.ntmps3
  go_upto_region 3 with fail
  clear d0
  go_wp2_with fail
  refine K0.out.mono ?_
  rintro e w4 ⟨m, av, cv, L, rfl, hL, hO, hA, hb⟩
  have GP := fun i hi => hid (hO.gops hA i hi)
  have GK := hid (fun k => gopAt_ok hA k)
  have HB4 := hid hb
  have hlc := (GP L.length (Nat.le_refl _)).out.1
  clear K0 hO hA hb
  go_upto_if 24 with fail
  go_cut [4] from 25 to 26 (fun y4 wx => ∃ n, n ≤ 60 ∧ n ≤ L.length ∧ y4 = .slice av n cv ∧ wx = w4)
  case first =>
    by_cases h60 : 60 < L.length
    · have h60' : (60 : Int) < (L.length : Int) := by omega
      have h60c : (60 : Int) ≤ (cv : Int) := by omega
      go_wp2_with fail
      go_meet
      exact ⟨60, Nat.le_refl _, by omega, rfl, rfl⟩
    · have h60' : ¬ (60 : Int) < (L.length : Int) := by omega
      go_wp2_with fail
      go_meet
      exact ⟨L.length, by omega, Nat.le_refl _, rfl, rfl⟩
  case rest =>
  obtain ⟨n, hn60, hnL, rfl, hwc⟩ := hcut
  obtain ⟨W4, hW4⟩ : ∃ v, v = wc := ⟨_, rfl⟩
  rw [← hwc, ← hW4] at GP HB4
  rw [← hW4]
  clear hW4 hwc
  have gmP : grP m 0 ∨ ¬ grP m 0 := Classical.em _
  obtain ⟨W5, hW5⟩ : ∃ W, W = ((W4.alloc (.cells #[] 46)).alloc (.cells #[] 2)).alloc (.cells #[] 2) := ⟨_, rfl⟩
  have HW5 := hid hW5
  rcases gmP with hg | hg
  · obtain ⟨m1, m9, _⟩ := hg
    obtain ⟨N, hN⟩ : ∃ N : Nat, (N : Int) = m := ⟨m.toNat, by omega⟩
    have ST := hid (AgSt.start N (gopAt L) W4 (by omega))
    rw [← hW5] at ST
    subst hN
    clear hW5
    go_upto_region 9 with fail
    rw [← HW5.out]
    clear HW5
    go_wp2_with fail
    go_loopw [5, 6, 7, 8] (fun y5 y6 y7 y8 wr => ∃ (i : Nat) (a5 : Option Addr) (c5 : Nat) (Bs : List Ge) (ls ks : List Int), i ≤ n ∧ y8 = .int .i64 ((i + 1 : Nat) : Int) ∧ y5 = .slice a5 Bs.length c5 ∧ ls.length ≤ i * 9 ∧ AgSt N (gopAt L) W4 i a5 c5 Bs y6 y7 ls ks wr) (fun _ _ _ y8 _ => n + 1 - (intOf y8).toNat)
    case atStart => exact ⟨0, _, _, [], [], [], Nat.zero_le _, rfl, rfl, Nat.le_refl _, ST.out⟩
    case round =>
      obtain ⟨i, a5, c5, Bs, ls, ks, hin, rfl, rfl, hls, hST⟩ := hrel
      obtain ⟨WR, rfl⟩ : ∃ v, v = wr := ⟨_, rfl⟩
      obtain ⟨I, hI⟩ : ∃ I, I = i + 1 := ⟨_, rfl⟩
      rw [← hI]
      have S0 := hid hST
      have hI1 : I ≤ i + 1 := by omega
      have hI2 : i + 1 ≤ I := by omega
      clear hST ST hI
      by_cases hIn : I ≤ n
      · have hIn' : (I : Int) ≤ (n : Int) := by omega
        have hIc : (I : Int) ≤ (cv : Int) := by omega
        have KI := hid (iRun (N : Int) av I cv (gopAt L) _ _ (by omega) (fun k _ => GK.out k) WR ((GP I (by omega)).out.below S0.out.bel))
        go_wp2_with fail
        refine KI.out.mono ?_
        rintro e w5 ⟨hans, hb5⟩
        rcases hans with ⟨hng, _⟩ | ⟨_, g, cg, v1, la, lc, mb, rfl, hO1, hM1⟩
        · exact absurd (show grP (N : Int) I from ⟨by omega, by omega, by omega⟩) hng
        obtain ⟨a1, c1, rfl, hG1⟩ := OwnGo.gous hO1
        rw [gR_len] at hG1 ⊢
        have TN : (N : Int).toNat = N := by omega
        rw [TN] at hG1 hM1 ⊢
        obtain ⟨X9, hX9⟩ : ∃ X, X = w5.heap.size := ⟨_, rfl⟩
        obtain ⟨W6, hW6⟩ : ∃ W, W = w5.alloc (.cells #[.slice a1 I c1, .slice (some ⟨g, 0, none⟩) N cg] 31) := ⟨_, rfl⟩
        have b56 : Below w5.heap.size w5 W6 := by rw [hW6]; exact (Below.refl _ _).alloc (Nat.le_refl _) _
        have R9 : Hid (RowAt W6 X9 31 #[.slice a1 I c1, .slice (some ⟨g, 0, none⟩) N cg]) := by rw [hW6, hX9]; exact RowAt.new _ _ _
        have G9 := hid (hG1.below b56)
        have M9 := hid ((hM1.mr).ap (Ap.below b56))
        have S6 := hid ((S0.out.below hb5).below b56)
        have HW6 := hid hW6
        have HX9 := hid hX9
        clear hb5 hO1 hM1 hG1 hW6 hX9 b56 KI S0
        go_upto_region 13 with ((refine wpList_store_row rfl 31 (.tmp 9) (.tmp 40) rfl w5.heap.size #[.slice a1 I c1, .slice (some ⟨g, 0, none⟩) N cg] rfl rfl _ _ (RowAt.new w5 _ _) (by kernel_rfl) rfl (by simp [Value.oneCell']) ?_); rw [World.setRow_alloc_new])
        rw [← HW6.out, ← HX9.out]
        clear HW6 HX9
        have KI := hid (sRun (N : Int) av I cv (gopAt L) _ _ (by omega) (fun k _ => GK.out k) W6 ((GP I (by omega)).out.below S6.out.bel))
        go_wp2_with fail
        refine KI.out.mono ?_
        rintro e w7 ⟨hans, hb7⟩
        rcases hans with ⟨hng, _⟩ | ⟨_, bS, v2, rfl, hO2, la2, lc2, mb2, hM2⟩
        · exact absurd (show grP (N : Int) I from ⟨by omega, by omega, by omega⟩) hng
        obtain ⟨a2, c2, rfl, hG2⟩ := OwnGo.gous hO2
        rw [gR_len] at hG2 ⊢
        rw [TN] at hG2 hM2 ⊢
        obtain ⟨X10, hX10⟩ : ∃ X, X = w7.heap.size := ⟨_, rfl⟩
        obtain ⟨W8, hW8⟩ : ∃ W, W = w7.alloc (.cells #[.slice a2 I c2, .slice (some ⟨bS, 0, none⟩) N N] 31) := ⟨_, rfl⟩
        have b78 : Below w7.heap.size w7 W8 := by rw [hW8]; exact (Below.refl _ _).alloc (Nat.le_refl _) _
        have b68 : Below W6.heap.size W6 W8 := hb7.trans (b78.mono hb7.size)
        have R10 : Hid (RowAt W8 X10 31 #[.slice a2 I c2, .slice (some ⟨bS, 0, none⟩) N N]) := by rw [hW8, hX10]; exact RowAt.new _ _ _
        have G10 := hid (hG2.below b78)
        have M10 := hid ((hM2.mr).ap (Ap.below b78))
        have R9b := hid (R9.out.below b68 R9.out.lt)
        have G9b := hid (G9.out.below b68)
        have M9b := hid (M9.out.ap (Ap.below b68))
        have S8 := hid (S6.out.below b68)
        have HW8 := hid hW8
        have HX10 := hid hX10
        clear hb7 hO2 hM2 hG2 hW8 hX10 b78 b68 KI S6 R9 G9 M9
        go_upto_region 14 with ((refine wpList_store_row rfl 31 (.tmp 10) (.tmp 45) rfl w7.heap.size #[.slice a2 I c2, .slice (some ⟨bS, 0, none⟩) N N] rfl rfl _ _ (RowAt.new w7 _ _) (by kernel_rfl) rfl (by simp [Value.oneCell']) ?_); rw [World.setRow_alloc_new])
        rw [← HW8.out, ← HX10.out]
        clear HW8 HX10
        have p0 := R9b.out.cell 0
        have p1 := R9b.out.cell 1
        have q0 := R10.out.cell 0
        have q1 := R10.out.cell 1
        have I0 : ¬ ((I : Int) = 0) := by omega
        have I0b : ((I : Int) == 0) = false := beq_eq_false_iff_ne.2 I0
        obtain ⟨J, hJ⟩ : ∃ J : Nat, (J : Int) = (I : Int) - 1 := ⟨I - 1, by omega⟩
        have hJ' : (I : Int) - 1 = (J : Int) := hJ.symm
        have hJI : (J : Int) < (I : Int) := by omega
        rcases G9b.out.2 with h0 | ⟨e1, f1, rfl, _, g1⟩
        · omega
        rcases G10.out.2 with h0 | ⟨e2, f2, rfl, _, g2⟩
        · omega
        obtain ⟨z1, z2, z3⟩ := g1 J (by omega)
        obtain ⟨z4, z5, z6⟩ := g2 J (by omega)
        clear g1 g2 hJ
        go_upto_region 18 with fail
        go_quiet (fail)
        obtain ⟨W9, hW9⟩ : ∃ W, W = W8.drewN nq := ⟨_, rfl⟩
        have b89 : Below W8.heap.size W8 W9 := by rw [hW9]; exact ⟨rfl, rfl, rfl, Nat.le_refl _, fun _ _ => rfl⟩
        have R9c := hid (R9b.out.below b89 R9b.out.lt)
        have R10c := hid (R10.out.below b89 R10.out.lt)
        have M9c := hid (M9b.out.ap (Ap.below b89))
        have M10c := hid (M10.out.ap (Ap.below b89))
        have S9 := hid ((S8.out.below b89).later (show i ≤ I by omega))
        have OKS := hid (gR_ok N (gopAt L) I)
        have TA := hid (fun p hp => told_at N (gopAt L) I p hp)
        clear p0 p1 q0 q1 z1 z2 z3 z4 z5 z6 hJ' hJI b89 R9b R10 M9b M10 S8 G9b G10 I0 I0b
        rw [← hW9]
        clear hW9
        obtain ⟨s, hs⟩ : ∃ s, s = (gR N (gopAt L) I).1 := ⟨_, rfl⟩
        rw [← hs] at M9c M10c OKS TA
        have HS := hid hs
        clear hs
        go_upto_region 20 with fail
        go_wp2_with fail
        go_loopw [5, 6, 7, 11] (fun y5 y6 y7 y11 wx => ∃ (k : Nat) (a5 : Option Addr) (c5 : Nat) (Bs : List Ge) (ls ks : List Int), k ≤ N ∧ y11 = .int .i64 (k : Int) ∧ y5 = .slice a5 Bs.length c5 ∧ ls.length ≤ i * 9 + k ∧ AgSt N (gopAt L) W4 I a5 c5 Bs y6 y7 ls ks wx ∧ Ap W9 wx) (fun _ _ _ y11 _ => N - (intOf y11).toNat)
        case atStart => exact ⟨0, a5, c5, Bs, ls, ks, Nat.zero_le _, rfl, rfl, by omega, S9.out, Ap.refl _⟩
        case round =>
          obtain ⟨k, a6, c6, Cs, ls2, ks2, hk, rfl, rfl, hls2, hS2, hAp⟩ := hrel
          obtain ⟨WX, rfl⟩ : ∃ v, v = wr := ⟨_, rfl⟩
          have S2 := hid hS2
          have AP := hid hAp
          have p1 := (hAp _ _ _ (by decide) R9c.out).cell 1
          clear hS2 hAp S9 hls
          by_cases hkN : k < N
          · have hkN' : (k : Int) < (N : Int) := by omega
            have hkc : (k : Int) < (N : Int) := by omega
            obtain ⟨z1, x0, x1, x2, x3, x4, x5, LK⟩ := (M9c.out.ap AP.out).cells hkN
            obtain ⟨z2, y0, _, y2, y3, y4, _, _⟩ := (M10c.out.ap AP.out).cells hkN
            have q1 := (AP.out _ _ _ (by decide) R10c.out).cell 1
            obtain ⟨X12, hX12⟩ : ∃ X, X = WX.heap.size := ⟨_, rfl⟩
            obtain ⟨WY, hWY⟩ : ∃ W, W = WX.alloc (.cells #[.int .i64 (s k).tm, .int .i64 (s k).vt, .bool (s k).ld, .int .i64 ((s k).cm : Int), .slice (la k) (s k).lg.length (lc k), .slice (some ⟨z1, 0, none⟩) N N] 36) := ⟨_, rfl⟩
            have bY : Below WX.heap.size WX WY := by rw [hWY]; exact (Below.refl _ _).alloc (Nat.le_refl _) _
            have R12 : Hid (RowAt WY X12 36 #[.int .i64 (s k).tm, .int .i64 (s k).vt, .bool (s k).ld, .int .i64 ((s k).cm : Int), .slice (la k) (s k).lg.length (lc k), .slice (some ⟨z1, 0, none⟩) N N]) := by rw [hWY, hX12]; exact RowAt.new _ _ _
            have LKY := hid (LK.below bY)
            have SY := hid (S2.out.below bY)
            have APY := hid (AP.out.trans (Ap.below bY))
            have HWY := hid hWY
            have HX12 := hid hX12
            clear bY hWY hX12 LK S2
            go_upto_region 24 with ((refine wpList_store_row rfl 36 (.tmp 12) (.tmp 90) rfl WX.heap.size #[.int .i64 (s k).tm, .int .i64 (s k).vt, .bool (s k).ld, .int .i64 ((s k).cm : Int), .slice (la k) (s k).lg.length (lc k), .slice (some ⟨z1, 0, none⟩) N N] rfl rfl _ _ (RowAt.new WX _ _) (by kernel_rfl) rfl (by simp [Value.oneCell']) ?_); rw [World.setRow_alloc_new])
            rw [← HWY.out, ← HX12.out]
            clear HWY HX12 p1 q1 x0 x1 x2 x3 x4 x5 y0 y2 y3 y4 AP
            have q1 := (APY.out _ _ _ (by decide) R10c.out).cell 1
            obtain ⟨z2, y0, _, y2, y3, y4, _, _⟩ := (M10c.out.ap APY.out).cells hkN
            have r0 := R12.out.cell 0
            have r2 := R12.out.cell 2
            have r3 := R12.out.cell 3
            have r4 := R12.out.cell 4
            simp only [Act.put]
            go_cut [134] from 79 to 197 (fun y wx => y = .bool false ∧ ∃ nn, wx = WY.drewN nn)
            case first => 
              go_quiet (fail)
              go_wp2_with fail
              go_meet
              exact ⟨rfl, _, rfl⟩
            case rest =>
            obtain ⟨rfl, nq, hwc1⟩ := hcut
            rw [hwc1]
            clear hwc1
            obtain ⟨WZ, hWZ⟩ : ∃ W, W = WY.drewN nq := ⟨_, rfl⟩
            have bZ : Below WY.heap.size WY WZ := by rw [hWZ]; exact ⟨rfl, rfl, rfl, Nat.le_refl _, fun _ _ => rfl⟩
            have RZ := hid (R12.out.below bZ R12.out.lt)
            have LKZ := hid (LKY.out.below bZ)
            have SZ := hid (SY.out.below bZ)
            have APZ := hid (APY.out.trans (Ap.below bZ))
            clear q1 y0 y2 y3 y4 r0 r2 r3 r4 bZ R12 LKY SY APY
            rw [← hWZ]
            clear hWZ
            have cm1 := (TA.out k hkN).1
            have TK := hid (TA.out k hkN).2
            have hcm : ¬ ((s k).lg.length : Int) < ((s k).cm : Int) := by omega
            have lg5 := (OKS.out k).lg
            have hT0 : ∃ T : Nat, (T : Int) = (if ((s k).cm : Int) < (Cs.length : Int) then ((s k).cm : Int) else (Cs.length : Int)) ∧ T ≤ (s k).cm ∧ T ≤ Cs.length := ⟨min (s k).cm Cs.length, by split <;> omega, by omega, by omega⟩
            obtain ⟨T, hT, T1, T2⟩ := hT0
            have KL : ∀ nn, Hid (Calls Try.prog 9 #[.int .i64 ((s k).cm : Int), .int .i64 (Cs.length : Int)] (WZ.drewN nn) fun e w' => e = .returned (.int .i64 (T : Int)) ∧ w' = WZ.drewN nn) := fun nn => by rw [hT]; exact lwLeast_all _ _ _
            have he : ∀ j, j < T → geAt (s k).lg j = geAt Cs j := by
              have q := told_agree TK.out SZ.out.told T (by rw [List.length_take]; omega) T2
              rw [List.take_take, Nat.min_eq_left T1] at q
              intro j hj
              have q2 := congrArg (fun l : List Ge => l[j]?) q
              simp only [List.getElem?_take, if_pos hj] at q2
              unfold geAt
              rw [List.getD_eq_getElem?_getD, List.getD_eq_getElem?_getD, q2]
            have bD : ∀ nn, Below WZ.heap.size WZ (WZ.drewN nn) := fun nn => ⟨rfl, rfl, rfl, Nat.le_refl _, fun _ _ => rfl⟩
            have KG : ∀ nn, Hid (Calls Try.prog 8 #[.slice (la k) (s k).lg.length (lc k), .slice a6 Cs.length c6, .int .i64 (T : Int)] (WZ.drewN nn) fun e w' => e = .returned (.bool true) ∧ ∃ m, w' = (WZ.drewN nn).drewN m) := fun nn => lwLog_all (WZ.drewN nn) (la k) a6 (lc k) c6 (s k).lg Cs ((LKZ.out.below (bD nn)).ges) ((SZ.out.best.below (bD nn)).ges) T (by omega) T2 (by omega) he
            clear hT he bD
            have r3 := RZ.out.cell 3
            have r4 := RZ.out.cell 4
            go_upto_region 26 with fail
            go_cut [152] from 79 to 197 (fun y wx => y = .bool false ∧ ∃ nn, wx = WZ.drewN nn)
            case first => 
              go_quiet ((first | (go_at_call 9; exact Calls.quiet_of_same (KL _).out) | (go_at_call 8; exact Calls.quiet_of (KG _).out)))
              go_wp2_with fail
              go_meet
              exact ⟨rfl, _, rfl⟩
            case rest =>
            obtain ⟨rfl, nq, hwc2⟩ := hcut
            rw [hwc2]
            clear hwc2
            obtain ⟨WU, hWU⟩ : ∃ W, W = WZ.drewN nq := ⟨_, rfl⟩
            have bU : Below WZ.heap.size WZ WU := by rw [hWU]; exact ⟨rfl, rfl, rfl, Nat.le_refl _, fun _ _ => rfl⟩
            have RU := hid (RZ.out.below bU RZ.out.lt)
            have LKU := hid (LKZ.out.below bU)
            have SU := hid (SZ.out.below bU)
            have APU := hid (APZ.out.trans (Ap.below bU))
            clear r3 r4 bU RZ LKZ SZ APZ KL KG T1 T2
            rw [← hWU]
            clear hWU hcm
            have r3 := RU.out.cell 3
            have r4 := RU.out.cell 4
            go_upto_if 157 with fail
            go_cut [5] from 79 to 197 (fun y5 wx => ∃ (a7 : Option Addr) (c7 : Nat) (Ds : List Ge), y5 = .slice a7 Ds.length c7 ∧ AgSt N (gopAt L) W4 I a7 c7 Ds u6 u7 ls2 ks2 wx ∧ Ap W9 wx ∧ RowAt wx X12 36 #[.int .i64 (s k).tm, .int .i64 (s k).vt, .bool (s k).ld, .int .i64 ((s k).cm : Int), .slice (la k) (s k).lg.length (lc k), .slice (some ⟨z1, 0, none⟩) N N])
            case first =>
              by_cases hcb : Cs.length < (s k).cm
              · have hcb' : (Cs.length : Int) < ((s k).cm : Int) := by omega
                rcases LKU.out.2 with h00 | ⟨gk, csk, hla, hrk, hck⟩
                · omega
                obtain ⟨M, hM⟩ : ∃ M, M = (s k).lg.take (s k).cm := ⟨_, rfl⟩
                have hMl : M.length = (s k).cm := by rw [hM, List.length_take]; omega
                have HC : Hid (∀ j, j < M.length → (WU.alloc (.cells #[] 46)).cell? ((⟨gk, 0, none⟩ : Addr).add (j * 2)) = some (.int .i64 (geAt M j).tm) ∧ (WU.alloc (.cells #[] 46)).cell? ((⟨gk, 0, none⟩ : Addr).add (j * 2 + 1)) = some (.string (geAt M j).tx)) := fun j hj => by
                  have hjn : j < (s k).cm := by rw [← hMl]; exact hj
                  have em : geAt M j = geAt (s k).lg j := by
                    unfold geAt
                    rw [hM, List.getD_eq_getElem?_getD, List.getD_eq_getElem?_getD, List.getElem?_take, if_pos hjn]
                  rw [add_zero_off, add_zero_off, em, (hrk.alloc _).cell, (hrk.alloc _).cell]
                  exact hck j (by omega)
                have ncq : ((s k).cm : Int) ≤ (lc k : Int) := by have := LKU.out.1; omega
                have c00 : ¬ ((s k).cm : Int) < 0 := by omega
                have HML := hid hMl
                have TM : Hid (Told N (gopAt L) M I) := by rw [hM]; exact TK.out
                have O22 := hid (OwnGe.empty WU)
                have E22 := hid ((Below.refl WU.heap.size WU).alloc (Nat.le_refl _) (.cells #[] 46))
                have Z22 : Hid (WU.heap.size ≤ (WU.alloc (.cells #[] 46)).heap.size) := by show _ ≤ _; rw [World.size_alloc]; omega
                have q3 := E22.out.cell (p := ⟨X12, 3, none⟩) RU.out.lt
                have q4 := E22.out.cell (p := ⟨X12, 4, none⟩) RU.out.lt
                rw [r3] at q3
                rw [r4, hla] at q4
                clear hM hMl hck hrk hla r4
                go_wp2_with ((at_builtin; refine append_ges WU.heap.size _ rfl (.tmp 158) (.tmp 163) rfl _ [] M rfl O22.out Z22.out ⟨gk, 0, none⟩ (lc k) (by rw [HML.out]; rfl) HC.out (by simp only [List.length_nil]; rw [HML.out]; omega) ?_; intro v9 W9b hO1 hg1))
                have bV : Below WU.heap.size WU W9b := E22.out.grown hg1 Z22.out (fun x hx => by cases hx; exact Nat.le_refl _)
                obtain ⟨a8, c8, rfl, hL8⟩ := OwnGe.logR hO1
                go_meet
                case rel => exact ⟨a8, c8, _, rfl, (SU.out.below bV).newBest hL8 TM.out (by rw [List.nil_append, HML.out]; omega), APU.out.trans (Ap.below bV), RU.out.below bV RU.out.lt⟩
              · have hcb' : ¬ (Cs.length : Int) < ((s k).cm : Int) := by omega
                go_wp2_with fail
                go_meet
                case rel => exact ⟨a6, c6, Cs, rfl, SU.out, APU.out, RU.out⟩
            case rest =>
              obtain ⟨a7, c7, Ds, rfl, hS3, hAp3, hR3⟩ := hcut
              obtain ⟨WV, hWV⟩ : ∃ v, v = wc := ⟨_, rfl⟩
              rw [← hWV] at hS3 hAp3 hR3
              rw [← hWV]
              have S3 := hid hS3
              have AP3 := hid hAp3
              have R3 := hid hR3
              clear hS3 hAp3 hR3 hWV SU APU RU LKU TK
              have r2 := R3.out.cell 2
              cases hld : (s k).ld with
              | false =>
                rw [hld] at r2
                go_wp2_with fail
                go_roundw
                case rel => exact ⟨k + 1, a7, c7, Ds, ls2, ks2, hkN, by go_num, rfl, by omega, S3.out, AP3.out⟩
                case measure => simp [intOf]; omega
              | true =>
                rw [hld] at r2
                obtain ⟨b6, d6, rfl⟩ := OwnNums.shapeQ S3.out.l6
                obtain ⟨b7, d7, rfl⟩ := OwnNums.shapeQ S3.out.l7
                have I6 := hid (OwnNums.intsQ S3.out.l6)
                have I7 := hid (OwnNums.intsQ S3.out.l7)
                have HL := hid S3.out.lens
                have LD := hid S3.out.lead
                go_wp2_with fail
                go_loopw [13] (fun y13 wx => ∃ j : Nat, j ≤ ls2.length ∧ y13 = .int .i64 (j : Int) ∧ ∃ m, wx = WV.drewN m) (fun y13 _ => ls2.length - (intOf y13).toNat)
                case atStart => exact ⟨0, Nat.zero_le _, rfl, 0, (World.drewN_zero WV).symm⟩
                case round =>
                  obtain ⟨j, hj, rfl, md, hD⟩ := hrel
                  obtain ⟨WW, rfl⟩ : ∃ v, v = wr := ⟨_, rfl⟩
                  have HD := hid hD
                  have hB : Below WV.heap.size WV WW := by rw [hD]; exact ⟨rfl, rfl, rfl, Nat.le_refl _, fun _ _ => rfl⟩
                  clear hD r2
                  by_cases hjl : j < ls2.length
                  · have hjl' : (j : Int) < (ls2.length : Int) := by omega
                    have hjk' : (j : Int) < (ks2.length : Int) := by have := HL.out; omega
                    rcases (I6.out.below hB).2.2 with h0 | ⟨g6, o6, rfl, _, hc6⟩
                    · omega
                    rcases (I7.out.below hB).2.2 with h0 | ⟨g7, o7, rfl, _, hc7⟩
                    · omega
                    have x6 := hc6 j hjl
                    have x7 := hc7 j (by have := HL.out; omega)
                    have r0 := (R3.out.below hB R3.out.lt).cell 0
                    obtain ⟨i', p, e1, e2, e3, e4, e5⟩ := LD.out j hjl
                    rw [e5] at x7
                    by_cases het : ls2.getD j 0 = (s k).tm
                    · have hpk : p = k := one_leads N (gopAt L) e1 e2 hkN e3 (by rw [← HS.out]; exact hld) (by rw [← e4, het, HS.out])
                      rw [het] at x6
                      rw [hpk] at x7
                      clear hc6 hc7 e1 e2 e3 e4 e5 het hpk hB
                      go_upto_region 34 with fail
                      go_quiet (fail)
                      go_wp2_with fail
                      go_roundw
                      case rel => exact ⟨j + 1, hjl, by go_num, md + nq, by rw [HD.out, World.drewN_drewN]⟩
                      case measure => simp [intOf]; omega
                    · obtain ⟨xj, hxj⟩ : ∃ x, x = ls2.getD j 0 := ⟨_, rfl⟩
                      rw [← hxj] at x6 het
                      have hdt : decide (xj = (s k).tm) = false := decide_eq_false het
                      have hbt : (xj == (s k).tm) = false := beq_eq_false_iff_ne.2 het
                      clear hc6 hc7 e1 e2 e3 e4 e5 hxj hB
                      go_upto_region 34 with fail
                      go_quiet (fail)
                      go_wp2_with fail
                      go_roundw
                      case rel => exact ⟨j + 1, hjl, by go_num, md + nq, by rw [HD.out, World.drewN_drewN]⟩
                      case measure => simp [intOf]; omega
                  · have hjl' : ¬ (j : Int) < (ls2.length : Int) := by omega
                    have R4 := hid (R3.out.below hB R3.out.lt)
                    have S4 := hid (S3.out.below hB)
                    have AP4 := hid (AP3.out.trans (Ap.below hB))
                    have r0 := R4.out.cell 0
                    have Z4 := S4.out.bel.size
                    clear hB HD R3 S3 AP3 I6 I7
                    go_wp2_with (first | (at_builtin; refine append_num_at W4.heap.size WW rfl (.tmp 189) (.tmp 192) 27 rfl 2 .i64 8 Try.underlying27 Try.info64D (by decide) _ ls2 (s k).tm rfl S4.out.l6 Z4 rfl (by omega) ?_) | go_in)
                    intro v6 WE hO6 hg6 at6
                    have O6 := hid hO6
                    have G6 := hid hg6
                    have A6 := hid at6
                    have L7 := hid (S4.out.kept7 hg6)
                    have Z5 : W4.heap.size ≤ WE.heap.size := Nat.le_trans Z4 hg6.size
                    clear hO6 hg6 at6 r0
                    have lk := HL.out
                    have lk2 : ks2.length ≤ 100000 := by omega
                    clear lk
                    go_wp2_with (first | (at_builtin; refine append_num_at W4.heap.size WE rfl (.tmp 194) (.tmp 196) 27 rfl 2 .i64 8 Try.underlying27 Try.info64D (by decide) _ ks2 (k : Int) rfl L7.out Z5 rfl (by omega) ?_) | go_in)
                    intro v7 WF hO7 hg7 at7
                    have NW := hid (S4.out.newLead hkN (by rw [← HS.out]; exact hld) (by rw [← HS.out]; exact O6.out) G6.out A6.out hO7 hg7 at7)
                    rw [← HS.out] at NW
                    have APE := hid ((AP4.out.trans (Ap.own S4.out.l6 G6.out)).trans (Ap.own L7.out hg7))
                    clear hO7 hg7 at7 O6 G6 A6 L7 S4 AP4
                    go_wp2_with fail
                    go_roundw
                    case rel => exact ⟨k + 1, a7, c7, Ds, ls2 ++ [(s k).tm], ks2 ++ [(k : Int)], hkN, by go_num, rfl, by simp; omega, NW.out, APE.out⟩
                    case measure => simp [intOf]; omega
          · have hkN' : ¬ (k : Int) < (N : Int) := by omega
            go_wp2_with fail
            go_roundw
            case rel => exact ⟨I, a6, c6, Cs, ls2, ks2, hIn, by go_num, rfl, by omega, S2.out⟩
            case measure => simp [intOf]; omega
      · have hIn' : ¬ (I : Int) ≤ (n : Int) := by omega
        go_wp2
        go_ret
        exact ⟨rfl, HB4.out.trans (S0.out.bel.mono HB4.out.size)⟩
  · have bad : ∀ I, ¬ grP m I := fun I h => hg ⟨h.1, h.2.1, Nat.zero_le _⟩
    have BD := hid bad
    have B5 : Hid (Below W4.heap.size W4 W5) := by
      rw [hW5]
      have b1 : Below W4.heap.size W4 (W4.alloc (.cells #[] 46)) := (Below.refl _ _).alloc (Nat.le_refl _) _
      have b2 : Below W4.heap.size W4 ((W4.alloc (.cells #[] 46)).alloc (.cells #[] 2)) := b1.alloc b1.size _
      exact b2.alloc b2.size _
    clear hW5 hg bad
    go_upto_region 9 with fail
    rw [← HW5.out]
    clear HW5
    go_wp2_with fail
    go_loopw [5, 6, 7, 8] (fun y5 y6 y7 y8 wr => ∃ I : Nat, I ≤ 1 ∧ 1 ≤ I ∧ y8 = .int .i64 (I : Int) ∧ wr = W5) (fun _ _ _ y8 _ => 1)
    case atStart => exact ⟨1, Nat.le_refl _, Nat.le_refl _, rfl, rfl⟩
    case round =>
      obtain ⟨I, i1, i2, rfl, hwr⟩ := hrel
      rw [hwr]
      clear hwr
      by_cases hIn : I ≤ n
      · have hIn' : (I : Int) ≤ (n : Int) := by omega
        have hIc : (I : Int) ≤ (cv : Int) := by omega
        have KI := hid (iRun m av I cv (gopAt L) _ _ (by omega) (fun k _ => GK.out k) W5 ((GP I (by omega)).out.below B5.out))
        go_wp2_with fail
        refine KI.out.mono ?_
        rintro e w5 ⟨hans, hb5⟩
        obtain rfl : e = .returned (.agg #[.slice none 0 0, .slice none 0 0]) := by
          rcases hans with ⟨_, h⟩ | ⟨hgr, _⟩
          · exact h
          · exact absurd hgr (BD.out I)
        clear hans
        obtain ⟨X9, hX9⟩ : ∃ X, X = w5.heap.size := ⟨_, rfl⟩
        obtain ⟨W6, hW6⟩ : ∃ W, W = w5.alloc (.cells #[.slice none 0 0, .slice none 0 0] 31) := ⟨_, rfl⟩
        have b56 : Below w5.heap.size w5 W6 := by rw [hW6]; exact (Below.refl _ _).alloc (Nat.le_refl _) _
        have R9 : Hid (RowAt W6 X9 31 #[.slice none 0 0, .slice none 0 0]) := by rw [hW6, hX9]; exact RowAt.new _ _ _
        have B6 := hid ((B5.out.trans (hb5.mono B5.out.size)).trans (b56.mono (B5.out.trans (hb5.mono B5.out.size)).size))
        have HW6 := hid hW6
        have HX9 := hid hX9
        clear hb5 hW6 hX9 b56 KI B5
        go_upto_region 13 with ((refine wpList_store_row rfl 31 (.tmp 9) (.tmp 40) rfl w5.heap.size #[.slice none 0 0, .slice none 0 0] rfl rfl _ _ (RowAt.new w5 _ _) (by kernel_rfl) rfl (by simp [Value.oneCell']) ?_); rw [World.setRow_alloc_new])
        rw [← HW6.out, ← HX9.out]
        clear HW6 HX9
        have KI := hid (sRun m av I cv (gopAt L) _ _ (by omega) (fun k _ => GK.out k) W6 ((GP I (by omega)).out.below B6.out))
        go_wp2_with fail
        refine KI.out.mono ?_
        rintro e w7 ⟨hans, hb7⟩
        obtain rfl : e = .returned (.agg #[.slice none 0 0, .slice none 0 0]) := by
          rcases hans with ⟨_, h⟩ | ⟨hgr, _⟩
          · exact h
          · exact absurd hgr (BD.out I)
        clear hans
        obtain ⟨X10, hX10⟩ : ∃ X, X = w7.heap.size := ⟨_, rfl⟩
        obtain ⟨W8, hW8⟩ : ∃ W, W = w7.alloc (.cells #[.slice none 0 0, .slice none 0 0] 31) := ⟨_, rfl⟩
        have b78 : Below w7.heap.size w7 W8 := by rw [hW8]; exact (Below.refl _ _).alloc (Nat.le_refl _) _
        have b68 : Below W6.heap.size W6 W8 := hb7.trans (b78.mono hb7.size)
        have R10 : Hid (RowAt W8 X10 31 #[.slice none 0 0, .slice none 0 0]) := by rw [hW8, hX10]; exact RowAt.new _ _ _
        have R9b := hid (R9.out.below b68 R9.out.lt)
        have B8 := hid (B6.out.trans (b68.mono B6.out.size))
        have HW8 := hid hW8
        have HX10 := hid hX10
        clear hb7 hW8 hX10 b78 b68 KI R9 B6
        go_upto_region 14 with ((refine wpList_store_row rfl 31 (.tmp 10) (.tmp 45) rfl w7.heap.size #[.slice none 0 0, .slice none 0 0] rfl rfl _ _ (RowAt.new w7 _ _) (by kernel_rfl) rfl (by simp [Value.oneCell']) ?_); rw [World.setRow_alloc_new])
        rw [← HW8.out, ← HX10.out]
        clear HW8 HX10
        have p0 := R9b.out.cell 0
        have p1 := R9b.out.cell 1
        have q0 := R10.out.cell 0
        have q1 := R10.out.cell 1
        go_wp2
        go_ret
        exact ⟨rfl, HB4.out.trans (B8.out.mono HB4.out.size)⟩
      · have hIn' : ¬ (I : Int) ≤ (n : Int) := by omega
        go_wp2
        go_ret
        exact ⟨rfl, HB4.out.trans (B5.out.mono HB4.out.size)⟩
end Go.Proofs.Ytmhkelfmciepaaa
namespace Go.Proofs.Ytmhkelfmciepaaa
open Go.RowKit
set_option maxRecDepth 20000 in
set_option maxHeartbeats 1000000 in
theorem fnAgree_walk {w : World} (a0 : Option Addr) (len0 cap0 : Nat) (z0 : List Int) (h0 : IsRow .u8 w a0 len0 cap0 z0) :
    Calls Try.prog 3 #[.slice a0 len0 cap0] w fun e w' => e = .returned (.bool true) ∧ Below w.heap.size w w' := by
  have m0 := h0.le
  unfold maxLen at m0
  by_cases hl0 : len0 ≤ 1048576
  · exact fnAgree_core w a0 len0 cap0 (codeOk_of w a0 len0 cap0 z0 h0 hl0) m0.1
  · have d0 : decide ((1048576 : Int) < (len0 : Int)) = true := by simp; omega
    go_enter Try.func3, Try.ntmps3
    go_wp2
    go_ret
    exact ⟨rfl, Below.refl _ _⟩
end Go.Proofs.Ytmhkelfmciepaaa
