import Derived.Test.YtngkiokibldfjaaGreatDoorPK
import Derived.Test.YtngkiokibldfjaaGreatDoorPO
import Derived.Test.YtngkiokibldfjaaGreatDoorXK
import Derived.Deep.CutBlock
import Derived.Deep.RegionLaw
import Derived.BigQuiet
namespace Go.Proofs.YtngkiokibldfjaaGreatDoor
open Go.RowKit
set_option linter.unusedVariables false
/-! spec.RunExtent. -/
theorem lockX {P : Prop} (h : Hid P) : P := h.out
def SxQ (w : World) (d : ByteArray) (sy : Nat) (o : Nat → Op) (n : Nat) (e : Ending) (w' : World) : Prop := (∃ vO O, e = .returned (.agg #[.string (xRun d sy o n).1.1, .int .i64 ((xRun d sy o n).1.2 : Nat), vO]) ∧ O.map Prod.fst = (xRun d sy o n).2 ∧ w'.ownsRow w.heap.size 36 4 vO O.length (xoL O) ∧ ∀ p ∈ O, OwnStrs w' w.heap.size p.2 p.1.ks) ∧ Below w.heap.size w w'
set_option maxRecDepth 20000 in
set_option maxHeartbeats 16000000 in
theorem sRunX (d0 : ByteArray) (s0 : Nat) (hx : XOk d0 s0) (ad : Option Addr) (n cp : Nat) (o : Nat → Op) (hn : n ≤ 2000) (hz : ∀ k, k < n → (o k).ky.size ≤ 1048576 ∧ (o k).dt.size ≤ 1048576) (w : World) (h : Exs w ad n cp o) :
    Calls Tryz.prog 10 #[.agg #[.string d0, .int .i64 (s0 : Nat)], .slice ad n cp] w fun e w' => SxQ w d0 s0 o n e w' := by
  obtain ⟨W1, hW1⟩ : ∃ W, W = (w.alloc (.cells #[.string d0, .int .i64 (s0 : Nat)] 30)).alloc (.cells #[.string ⟨#[]⟩, .int .i64 0, .slice none 0 0] 33) := ⟨_, rfl⟩
  have b1 : Below w.heap.size w W1 := by rw [hW1]; exact ((Below.refl _ _).alloc (Nat.le_refl _) _).alloc (by simp) _
  have E1 : Hid (RowAt W1 w.heap.size 30 #[.string d0, .int .i64 (s0 : Nat)]) := by rw [hW1]; exact (RowAt.new _ _ _).alloc _
  have R1 : Hid (RowAt W1 (w.heap.size + 1) 33 #[.string ⟨#[]⟩, .int .i64 0, .slice none 0 0]) := by rw [hW1]; exact RowAt.next _ _ _ (by simp)
  have B1 := hid b1
  have HO := hid h
  have HZ := hid hz
  have HX := hid hx
  have q0 := E1.out.cell 0
  have q1 := E1.out.cell 1
  have z1 := hx.bd
  have z2 := hx.bs
  have c0 : ¬ (2000 : Int) < (n : Int) := by omega
  have c1 : ¬ (300000 : Int) < (d0.size : Int) := by omega
  have c2 : ¬ (s0 : Int) < 0 := by omega
  have c3 : ¬ (d0.size : Int) < (s0 : Int) := by omega
  clear h hz hx b1
  go_enter Tryz.func10, Tryz.ntmps10
  go_upto_region 1 with fail
  rw [← hW1]
  clear hW1
  obtain ⟨C, hC⟩ : ∃ C, C = grownCap W1 d0.size 0 5 := ⟨_, rfl⟩
  obtain ⟨W3, hW3⟩ : ∃ W, W = Lib.bytesWorld W1 5 d0 := ⟨_, rfl⟩
  have hcv : (convert 9 22 (.string d0)).run Tryz.prog W1 = .ok (.slice (some ⟨W1.heap.size, 0, none⟩) d0.size C) W3 := by
    rw [hC, hW3]; exact Lib.run_convert_string_bytes W1 9 22 5 d0 Tryz.underlying9 Tryz.underlying22 Tryz.underlying5
  obtain ⟨hOB, hb3⟩ := OwnB.conv W1 W1.heap.size (Nat.le_refl _) d0 (by unfold maxLen; omega)
  rw [← hC, ← hW3] at hOB
  rw [← hW3] at hb3
  have D3 := hid hOB
  have B3 := hid hb3
  have E3 := hid (E1.out.below hb3 E1.out.lt)
  have R3 := hid (R1.out.below hb3 R1.out.lt)
  clear hC hW3 hOB hb3
  go_upto_region 4 with fail
  clear hcv q0 q1 c0 c1 c2 c3
  have q1 := E3.out.cell 1
  obtain ⟨W5, hW5⟩ : ∃ W, W = W3.alloc (.cells #[.string ⟨#[]⟩, .int .i64 0, .slice none 0 0] 33) := ⟨_, rfl⟩
  have b5 : Below W3.heap.size W3 W5 := by rw [hW5]; exact (Below.refl _ _).alloc (Nat.le_refl _) _
  have R5 : Hid (RowAt W5 W3.heap.size 33 #[.string ⟨#[]⟩, .int .i64 0, .slice none 0 0]) := by rw [hW5]; exact RowAt.new _ _ _
  go_upto_region 6 with ((refine wpList_store_row rfl 33 (.tmp 7) (.tmp 48) rfl W3.heap.size #[.string ⟨#[]⟩, .int .i64 0, .slice none 0 0] rfl rfl _ _ (RowAt.new W3 _ _) (by kernel_rfl) rfl (by simp [Value.oneCell']) ?_); rw [World.setRow_alloc_new])
  rw [← hW5]
  obtain ⟨X4, hX4⟩ : ∃ x, x = w.heap.size + 1 := ⟨_, rfl⟩
  obtain ⟨X7, hX7⟩ : ∃ x, x = W3.heap.size := ⟨_, rfl⟩
  obtain ⟨base, hbase⟩ : ∃ x, x = W1.heap.size := ⟨_, rfl⟩
  have I5 : Hid (XI w W5 X4 X7 base (.slice (some ⟨base, 0, none⟩) d0.size C) d0 (.slice none 0 0) []) := by
    have s1 := B1.out.size
    have s3 := B3.out.size
    have l4 := R1.out.lt
    refine ⟨?_, ?_, ?_, ⟨rfl, .inl ⟨rfl, rfl⟩⟩, (fun p hp => by cases hp), (B1.out.trans (B3.out.mono s1)).trans (b5.mono (Nat.le_trans s1 s3)), ?_, ?_⟩
    · rw [hX4]; exact R3.out.below b5 R3.out.lt
    · rw [hX7]; exact R5.out
    · rw [hbase]; exact D3.out.below b5
    · rw [hbase]; exact Nat.le_trans s3 b5.size
    · rw [hX4, hX7, hbase]; omega
  rw [← hX7, ← hbase, ← hX4]
  clear hW5 b5 R5 R3 E3 D3 B3 q1 R1 E1 B1 z1 z2 hX4 hX7 hbase
  go_wp2_with fail
  go_loopw [8, 5, 6] (fun q vd sy wr => ∃ (i : Nat) (vD : Value) (vO : Value) (O : List (XOt × Value)), i ≤ n ∧ q = .int .i64 (i : Int) ∧ vD = vd ∧ sy = .int .i64 ((xRun d0 s0 o i).1.2 : Nat) ∧ O.map Prod.fst = (xRun d0 s0 o i).2 ∧ XI w wr X4 X7 base vD (xRun d0 s0 o i).1.1 vO O) (fun q _ _ _ => n - (intOf q).toNat)
  case atStart => exact ⟨0, _, _, [], Nat.zero_le _, rfl, rfl, rfl, rfl, I5.out⟩
  case round =>
    clear I5
    obtain ⟨i, vD, vO, O, hi, rfl, rfl, rfl, hO1, hI⟩ := hrel
    have OK : Hid (XOk (xRun d0 s0 o i).1.1 (xRun d0 s0 o i).1.2) := xRun_ok HX.out o i
    have OL : Hid (O.length = i) := by show _ = _; have := congrArg List.length hO1; rw [List.length_map, xRun_len] at this; exact this
    have HO1 := hid hO1
    have XN1 : Hid ((xRun d0 s0 o (i + 1)).1 = (xDo (xRun d0 s0 o i).1.1 (xRun d0 s0 o i).1.2 (o i)).1) := rfl
    have XN2 : Hid ((xRun d0 s0 o (i + 1)).2 = (xRun d0 s0 o i).2 ++ [(xDo (xRun d0 s0 o i).1.1 (xRun d0 s0 o i).1.2 (o i)).2]) := rfl
    obtain ⟨d, hd⟩ : ∃ x, x = (xRun d0 s0 o i).1.1 := ⟨_, rfl⟩
    obtain ⟨sy, hsy⟩ : ∃ x, x = (xRun d0 s0 o i).1.2 := ⟨_, rfl⟩
    rw [← hd, ← hsy] at OK XN1 XN2
    rw [← hd] at hI
    rw [← hsy]
    have I0 := hid hI
    clear hO1 hI
    by_cases hlt : i < n
    · clear hd hsy
      have d1 : (i : Int) < (n : Int) := by omega
      have i0 : (0 : Int) ≤ (i : Int) := by omega
      rcases (HO.out.below I0.out.bl).2 with h00 | ⟨bo, off, rfl, hbl, hcc⟩
      · omega
      obtain ⟨x0, x1, x2, x3, x4, x5⟩ := hcc i hlt
      have hz1 := HZ.out i hlt
      obtain ⟨OP, hOP⟩ : ∃ OP, OP = o i := ⟨_, rfl⟩
      rw [← hOP] at x0 x1 x2 x3 x4 x5 XN1 XN2 hz1
      clear hcc hOP
      obtain ⟨kd, ky, dt, kp, pa, tn⟩ := OP
      dsimp only at x0 x1 x2 x3 x4 x5 hz1
      have HZ1 := hid hz1
      clear hz1
      obtain ⟨WA, hWA⟩ : ∃ W, W = wr.alloc (.cells #[.int .i64 kd, .string ky, .string dt, .int .i64 kp, .int .i64 pa, .int .i64 tn] 27) := ⟨_, rfl⟩
      have OA : RowAt WA wr.heap.size 27 #[.int .i64 kd, .string ky, .string dt, .int .i64 kp, .int .i64 pa, .int .i64 tn] := by rw [hWA]; exact RowAt.new _ _ _
      have bWA : Below wr.heap.size wr WA := by rw [hWA]; exact (Below.refl _ _).alloc (Nat.le_refl _) _
      go_upto_region 10 with ((refine wpList_store_row rfl 27 (.tmp 9) (.tmp 58) rfl wr.heap.size #[.int .i64 kd, .string ky, .string dt, .int .i64 kp, .int .i64 pa, .int .i64 tn] rfl rfl _ _ (RowAt.new wr _ _) (by kernel_rfl) rfl (by simp [Value.oneCell']) ?_); rw [World.setRow_alloc_new])
      rw [← hWA]
      clear hWA x0 x1 x2 x3 x4 x5
      obtain ⟨WB, hWB⟩ : ∃ W, W = WA.alloc (.cells #[.int .i64 0, .string ⟨#[]⟩, .slice none 0 0, .int .i64 0] 36) := ⟨_, rfl⟩
      have bWB : Below WA.heap.size WA WB := by rw [hWB]; exact (Below.refl _ _).alloc (Nat.le_refl _) _
      obtain ⟨ob, hob⟩ : ∃ x, x = wr.heap.size := ⟨_, rfl⟩
      have OB : Hid (RowAt WB ob 27 #[.int .i64 kd, .string ky, .string dt, .int .i64 kp, .int .i64 pa, .int .i64 tn]) := by rw [hob]; exact OA.below bWB OA.lt
      have BWB : Hid (Below wr.heap.size wr WB) := bWA.trans (bWB.mono bWA.size)
      obtain ⟨ub, hub⟩ : ∃ x, x = WA.heap.size := ⟨_, rfl⟩
      have UB : Hid (RowAt WB ub 36 #[.int .i64 0, .string ⟨#[]⟩, .slice none 0 0, .int .i64 0]) := by rw [hWB, hub]; exact RowAt.new _ _ _
      have UN : Hid (base ≤ ub ∧ ub ≠ X4 ∧ ub ≠ X7 ∧ wr.heap.size < ub) := by
        have q1 := OA.lt
        have q2 := I0.out.sz
        have q3 := I0.out.res.lt
        have q4 := I0.out.rr.lt
        show _ ∧ _
        omega
      have VO : Hid (vO.ownBlock ≠ some ub) := fun e => by have q1 := (orRow I0.out.ou e).2.1; have q2 := UN.out.2.2.2; omega
      have I1 := hid (I0.out.below BWB.out)
      go_upto_region 11 with ((refine wpList_store_row rfl 36 (.tmp 10) (.tmp 59) rfl WA.heap.size #[.int .i64 0, .string ⟨#[]⟩, .slice none 0 0, .int .i64 0] rfl rfl _ _ (RowAt.new WA _ _) (by kernel_rfl) rfl (by simp [Value.oneCell']) ?_); rw [World.setRow_alloc_new])
      rw [← hWB, ← hub, ← hob]
      clear hWB hub hob bWA bWB OA I0 BWB
      have hct := I1.out.dt.text (P := Tryz.prog) 22 9 Tryz.underlying22 Tryz.underlying5 Tryz.underlying9
      have KS := hid (sScan d (by have := OK.out.bd; omega) WB)
      go_wp2_with fail
      refine KS.out.mono ?_
      rintro e w3 ⟨a3, c3, rfl, hRc, hb3⟩
      have I3 := hid (I1.out.below hb3)
      have O3 := hid (OB.out.below hb3 OB.out.lt)
      have U3 := hid (UB.out.below hb3 UB.out.lt)
      have RC := hid hRc
      have hLL : (sc d 0).length ≤ 300000 := by have := sc_len d (d.size + 1) 0; have := OK.out.bd; unfold sc; omega
      have KL := hid (sLast d (sc d 0) (by omega) ky a3 c3 w3 hRc)
      obtain ⟨NL, hNL⟩ : ∃ x, x = (sc d 0).length := ⟨_, rfl⟩
      have HNL := hid hNL
      rw [show lastF d (sc d 0) ky (sc d 0).length = lstN d ky from rfl] at KL
      obtain ⟨LT, hLT⟩ : ∃ x, x = lstN d ky := ⟨_, rfl⟩
      have HLT := hid hLT
      have LB := lstN_bd d ky
      rw [← hNL] at KL LB RC hLL
      rw [← hLT] at KL LB
      have HLL := hid hLL
      have HLB := hid LB
      rw [← hNL]
      clear hRc hb3 hct KS hNL hLT hLL I1 OB UB
      have y1 := O3.out.cell 1
      go_wp2_with fail
      refine KL.out.mono ?_
      rintro e w4 ⟨rfl, hw4⟩
      obtain rfl := hw4.symm
      clear KL y1 LB
      obtain ⟨TB, hTB⟩ : ∃ x, x = thrB d ky := ⟨_, rfl⟩
      have HTB := hid hTB
      have TBE : Hid (TB = (decide (0 ≤ LT) && !(goneAt (sc d 0) LT.toNat))) := by show _ = _; rw [hTB, HLT.out]; rfl
      clear hTB
      go_upto_region 13 with fail
      go_cut [13] from 67 to 76 (fun c wx => c = .bool TB ∧ wx = w3)
      case first =>
        have LB := HLB.out
        have tbe := TBE.out
        by_cases h0 : 0 ≤ LT
        · obtain ⟨k, rfl⟩ := Int.eq_ofNat_of_zero_le h0
          have k1 : decide ((0 : Int) ≤ (k : Int)) = true := by simp
          have k2 : (k : Int) < (NL : Int) := LB.2
          have k3 : (0 : Int) ≤ (k : Int) := by omega
          rcases RC.out.2 with h00 | ⟨b, rfl, hbl2, hcc⟩
          · omega
          have c1 : w3.cell? ⟨b, k * 5 + 1, none⟩ = some (.bool (goneAt (sc d 0) k)) := by rw [← rcF_gone d (sc d 0) k (by have := HNL.out; omega)]; exact hcc _ (by omega)
          rw [k1, Int.toNat_natCast, Bool.true_and] at tbe
          obtain ⟨G, hG⟩ : ∃ x, x = goneAt (sc d 0) k := ⟨_, rfl⟩
          rw [← hG] at c1 tbe
          clear hG hcc h0 LB
          subst tbe
          go_wp2
          go_meet
          exact ⟨rfl, rfl⟩
        · have k1 : decide ((0 : Int) ≤ LT) = false := by simp; omega
          rw [k1, Bool.false_and] at tbe
          subst tbe
          clear LB
          go_wp2
          go_meet
          exact ⟨rfl, rfl⟩
      case rest =>
        obtain ⟨rfl, hwc⟩ := hcut
        obtain rfl := hwc.symm
        have y0 := O3.out.cell 0
        obtain ⟨R, hR⟩ : ∃ R, R = xDo d sy ⟨kd, ky, dt, kp, pa, tn⟩ := ⟨_, rfl⟩
        have HR := hid hR
        go_upto_block 2 with fail
        go_cut [5, 6, 14, 15, 16, 17, 18, 19] from 79 to 279 (fun c5 c6 c14 c15 c16 c17 c18 c19 wx => ∃ vK, c6 = .int .i64 (R.1.2 : Nat) ∧ XI w wx X4 X7 base c5 R.1.1 vO O ∧ OwnStrs wx base vK R.2.ks ∧ RowAt wx ub 36 #[.int .i64 R.2.cd, .string R.2.dt, vK, .int .i64 0])
        case first =>
          obtain ⟨aD, cD, hvD⟩ := I3.out.dt.slice
          subst hvD
          have dc := I3.out.dt.cap.2
          have ds := OK.out.bs
          have db := OK.out.bd
          have NIL : Hid (∀ W, OwnStrs W base (.slice none 0 0) []) := fun W => ⟨rfl, .inl ⟨rfl, rfl⟩⟩
          by_cases k1 : kd = 1
          · as_aux_lemma =>
              obtain rfl : kd = 1 := k1
              rw [x1] at hR
              have y1 := O3.out.cell 1
              have y2 := O3.out.cell 2
              have KP := hid (sPutRec ky false dt HZ1.out.1 HZ1.out.2 w3)
              have tb := recV_size ky false dt
              obtain ⟨T, hT⟩ : ∃ T, T = recV ky false dt := ⟨_, rfl⟩
              rw [← hT] at hR tb KP
              clear hT
              go_wp2_with fail
              refine KP.out.mono ?_
              rintro e w4 ⟨rfl, hb4⟩
              have I4 := hid (I3.out.below hb4)
              have O4 := hid (O3.out.below hb4 O3.out.lt)
              have U4 := hid (U3.out.below hb4 U3.out.lt)
              clear hb4 y0 y1 y2 KP
              have z0 := O4.out.cell 0
              have v0 := U4.out.cell 0
              have vf := U4.out.free 0
              go_upto_region 22 with fail
              have wt : IntKind.i64.wrap ((d.size : Int) + (T.size : Int)) = (d.size : Int) + (T.size : Int) := by simp [IntKind.wrap, IntKind.bits, IntKind.signed]; omega
              by_cases t0 : T.size = 0
              · have e0 := ba_empty T t0
                rw [px1 sy _ t0] at hR
                subst hR
                clear t0
                go_wp2
                go_meet
                exact ⟨_, rfl, I4.out.other U4.out UN.out.1 UN.out.2.1 UN.out.2.2.1 (by decide) VO.out (by decide) 0 _, NIL.out _, U4.out.set 0 _⟩
              · have e0 := ba_some T t0
                by_cases t1 : 300000 < d.size + T.size
                · have e1 : (300000 : Int) < (d.size : Int) + (T.size : Int) := by omega
                  have e2 : decide ((300000 : Int) < (d.size : Int) + (T.size : Int)) = true := by simp; omega
                  rw [px7 sy _ t0 t1] at hR
                  subst hR
                  clear t0 t1
                  go_wp2
                  go_meet
                  exact ⟨_, rfl, I4.out.other U4.out UN.out.1 UN.out.2.1 UN.out.2.2.1 (by decide) VO.out (by decide) 0 _, NIL.out _, U4.out.set 0 _⟩
                · have e1 : ¬ (300000 : Int) < (d.size : Int) + (T.size : Int) := by omega
                  have e2 : decide ((300000 : Int) < (d.size : Int) + (T.size : Int)) = false := by simp; omega
                  rw [px0 sy t0 t1] at hR
                  subst hR
                  clear t0 t1
                  go_wp2_with (at_builtin; refine lockX ?_)
                  refine hid ?_
                  refine appendB base w4 rfl (.tmp 94) (.tmp 95) rfl (.slice aD d.size cD) d T rfl I4.out.dt I4.out.sz rfl (by omega) ?_
                  intro v5 w5 hO5 hg5
                  go_wp2
                  go_meet
                  exact ⟨_, rfl, I4.out.data hg5 hO5, NIL.out _, I4.out.dk hg5 U4.out (by decide)⟩
          by_cases k2 : kd = 2
          · as_aux_lemma =>
              obtain rfl : kd = 2 := k2
              rw [x2] at hR
              have y1 := O3.out.cell 1
              have y2 := O3.out.cell 2
              go_wp2_with fail
              refine (sPutRec ky false dt HZ1.out.1 HZ1.out.2 w3).mono ?_
              rintro e w30 ⟨rfl, hb30⟩
              clear y0 y1 y2
              have z0 := (O3.out.below hb30 O3.out.lt).cell 0
              have z1 := (O3.out.below hb30 O3.out.lt).cell 1
              have KP := hid (sPutRec ky true ⟨#[]⟩ HZ1.out.1 (by decide) w30)
              have tb := recV_size ky true ⟨#[]⟩
              obtain ⟨T, hT⟩ : ∃ T, T = recV ky true ⟨#[]⟩ := ⟨_, rfl⟩
              rw [← hT] at hR tb KP
              clear hT
              go_wp2_with fail
              refine KP.out.mono ?_
              rintro e w4 ⟨rfl, hb40⟩
              clear KP
              have hb4 : Below w3.heap.size w3 w4 := hb30.trans (hb40.mono hb30.size)
              clear z0 z1 hb30 hb40
              have I4 := hid (I3.out.below hb4)
              have O4 := hid (O3.out.below hb4 O3.out.lt)
              have U4 := hid (U3.out.below hb4 U3.out.lt)
              clear hb4
              have z0 := O4.out.cell 0
              have v0 := U4.out.cell 0
              have vf := U4.out.free 0
              go_upto_region 22 with fail
              have wt : IntKind.i64.wrap ((d.size : Int) + (T.size : Int)) = (d.size : Int) + (T.size : Int) := by simp [IntKind.wrap, IntKind.bits, IntKind.signed]; omega
              by_cases t0 : T.size = 0
              · have e0 := ba_empty T t0
                rw [px1 sy _ t0] at hR
                subst hR
                clear t0
                go_wp2
                go_meet
                exact ⟨_, rfl, I4.out.other U4.out UN.out.1 UN.out.2.1 UN.out.2.2.1 (by decide) VO.out (by decide) 0 _, NIL.out _, U4.out.set 0 _⟩
              · have e0 := ba_some T t0
                by_cases t1 : 300000 < d.size + T.size
                · have e1 : (300000 : Int) < (d.size : Int) + (T.size : Int) := by omega
                  have e2 : decide ((300000 : Int) < (d.size : Int) + (T.size : Int)) = true := by simp; omega
                  rw [px7 sy _ t0 t1] at hR
                  subst hR
                  clear t0 t1
                  go_wp2
                  go_meet
                  exact ⟨_, rfl, I4.out.other U4.out UN.out.1 UN.out.2.1 UN.out.2.2.1 (by decide) VO.out (by decide) 0 _, NIL.out _, U4.out.set 0 _⟩
                · have e1 : ¬ (300000 : Int) < (d.size : Int) + (T.size : Int) := by omega
                  have e2 : decide ((300000 : Int) < (d.size : Int) + (T.size : Int)) = false := by simp; omega
                  have htb := HTB.out
                  rw [← htb] at hR
                  clear htb
                  cases TB with
                  | false =>
                    rw [show (!false) = true from rfl, px5 sy t0 t1] at hR
                    subst hR
                    clear t0 t1
                    go_wp2
                    go_meet
                    exact ⟨_, rfl, I4.out.other U4.out UN.out.1 UN.out.2.1 UN.out.2.2.1 (by decide) VO.out (by decide) 0 _, NIL.out _, U4.out.set 0 _⟩
                  | true =>
                    rw [show (!true) = false from rfl, px0 sy t0 t1] at hR
                    subst hR
                    clear t0 t1
                    go_wp2_with (at_builtin; refine lockX ?_)
                    refine hid ?_
                    refine appendB base w4 rfl (.tmp 94) (.tmp 95) rfl (.slice aD d.size cD) d T rfl I4.out.dt I4.out.sz rfl (by omega) ?_
                    intro v5 w5 hO5 hg5
                    go_wp2
                    go_meet
                    exact ⟨_, rfl, I4.out.data hg5 hO5, NIL.out _, I4.out.dk hg5 U4.out (by decide)⟩
          by_cases k3 : kd = 3
          · as_aux_lemma =>
              obtain rfl : kd = 3 := k3
              rw [x3] at hR
              subst hR
              go_wp2
              go_meet
              exact ⟨_, rfl, I3.out, NIL.out _, U3.out⟩
          by_cases k4 : kd = 4
          · as_aux_lemma =>
              obtain rfl : kd = 4 := k4
              obtain ⟨N, hN⟩ : ∃ N, N = sy + (crsK d sy kp).toNat := ⟨_, rfl⟩
              have cb := crsK_bd OK.out kp
              rw [x4, ← hN] at hR
              subst hR
              have hNd : N ≤ d.size := by omega
              have n1 : (N : Int) ≤ (cD : Int) := by omega
              have n0 : (0 : Int) ≤ (N : Int) := by omega
              have y3 := O3.out.cell 3
              have DP : Hid (OwnB w3 base (.slice aD N cD) (d.extract 0 N)) := I3.out.dt.pre N hNd
              have GR : Hid (w3.grownBy w3 (Value.slice aD d.size cD).ownBlock) := ⟨rfl, rfl, rfl, Nat.le_refl _, fun _ _ _ => rfl⟩
              have wd : IntKind.i64.wrap ((d.size : Int) - (sy : Int)) = (d.size : Int) - (sy : Int) := by simp [IntKind.wrap, IntKind.bits, IntKind.signed]; omega
              by_cases q1 : kp < 0
              · have hc : crsK d sy kp = 0 := by unfold crsK; rw [if_pos q1, if_neg (by omega)]
                have hs : N = sy := by rw [hN, hc]; rfl
                have q2 : decide (kp < 0) = true := by simp; omega
                have q3 : ¬ (d.size : Int) - (sy : Int) < 0 := by omega
                have q4 : decide ((d.size : Int) - (sy : Int) < 0) = false := by simp; omega
                have ws : IntKind.i64.wrap (sy : Int) = (N : Int) := by rw [hs]; simp [IntKind.wrap, IntKind.bits, IntKind.signed]; omega
                clear hN hc hs cb hNd
                go_wp2
                go_meet
                exact ⟨_, rfl, I3.out.data GR.out DP.out, NIL.out _, U3.out⟩
              · have q2 : decide (kp < 0) = false := by simp; omega
                by_cases q3 : (d.size : Int) - (sy : Int) < kp
                · have hc : crsK d sy kp = (d.size : Int) - (sy : Int) := by unfold crsK; rw [if_neg q1, if_pos q3]
                  have hs : (N : Int) = (d.size : Int) := by rw [hN]; omega
                  have q4 : decide ((d.size : Int) - (sy : Int) < kp) = true := by simp; omega
                  have ws : IntKind.i64.wrap ((sy : Int) + ((d.size : Int) - (sy : Int))) = (N : Int) := by rw [hs]; simp [IntKind.wrap, IntKind.bits, IntKind.signed]; omega
                  have ws2 : IntKind.i64.wrap (d.size : Int) = (N : Int) := by rw [hs]; simp [IntKind.wrap, IntKind.bits, IntKind.signed]; omega
                  clear hN hc hs cb hNd
                  go_wp2
                  go_meet
                  exact ⟨_, rfl, I3.out.data GR.out DP.out, NIL.out _, U3.out⟩
                · have hc : crsK d sy kp = kp := by unfold crsK; rw [if_neg q1, if_neg q3]
                  have hs : (N : Int) = (sy : Int) + kp := by rw [hN]; omega
                  have q4 : decide ((d.size : Int) - (sy : Int) < kp) = false := by simp; omega
                  have ws : IntKind.i64.wrap ((sy : Int) + kp) = (N : Int) := by rw [hs]; simp [IntKind.wrap, IntKind.bits, IntKind.signed]; omega
                  clear hN hc hs cb hNd
                  go_wp2
                  go_meet
                  exact ⟨_, rfl, I3.out.data GR.out DP.out, NIL.out _, U3.out⟩
          by_cases k5 : kd = 5
          · as_aux_lemma =>
              obtain rfl : kd = 5 := k5
              have y4 := O3.out.cell 4
              have y5 := O3.out.cell 5
              have u0 := U3.out.cell 0
              have f0 := U3.out.free 0
              by_cases hr : rotP d pa tn
              · as_aux_lemma =>
                  rw [x5n d sy ky dt kp pa tn hr] at hR
                  subst hR
                  by_cases p1 : tn < 1
                  · have p2 : decide (tn < 1) = true := by simp; omega
                    clear hr
                    go_wp2
                    go_meet
                    exact ⟨_, rfl, I3.out.other U3.out UN.out.1 UN.out.2.1 UN.out.2.2.1 (by decide) VO.out (by decide) 0 _, NIL.out _, U3.out.set 0 _⟩
                  · have p2 : decide (tn < 1) = false := by simp; omega
                    by_cases p3 : 255 < tn
                    · have p4 : decide (255 < tn) = true := by simp; omega
                      clear hr
                      go_wp2
                      go_meet
                      exact ⟨_, rfl, I3.out.other U3.out UN.out.1 UN.out.2.1 UN.out.2.2.1 (by decide) VO.out (by decide) 0 _, NIL.out _, U3.out.set 0 _⟩
                    · have p4 : decide (255 < tn) = false := by simp; omega
                      by_cases p5 : pa < 0
                      · have p6 : decide (pa < 0) = true := by simp; omega
                        clear hr
                        go_wp2
                        go_meet
                        exact ⟨_, rfl, I3.out.other U3.out UN.out.1 UN.out.2.1 UN.out.2.2.1 (by decide) VO.out (by decide) 0 _, NIL.out _, U3.out.set 0 _⟩
                      · have p6 : decide (pa < 0) = false := by simp; omega
                        have p7 : (d.size : Int) ≤ pa := by unfold rotP at hr; omega
                        have p8 : decide ((d.size : Int) ≤ pa) = true := by simp; omega
                        clear hr
                        go_wp2
                        go_meet
                        exact ⟨_, rfl, I3.out.other U3.out UN.out.1 UN.out.2.1 UN.out.2.2.1 (by decide) VO.out (by decide) 0 _, NIL.out _, U3.out.set 0 _⟩
              · as_aux_lemma =>
                  rw [x5y d sy ky dt kp pa tn hr] at hR
                  unfold rotP at hr
                  obtain ⟨k, rfl⟩ := Int.eq_ofNat_of_zero_le (show 0 ≤ pa by omega)
                  obtain ⟨t, rfl⟩ := Int.eq_ofNat_of_zero_le (show 0 ≤ tn by omega)
                  have hk : k < d.size := by omega
                  obtain ⟨g, rfl, hgl, hcell, hfree⟩ := I3.out.dt.at hk
                  obtain ⟨X, hX⟩ : ∃ x : Nat, x = d[k].toNat := ⟨_, rfl⟩
                  have hXl : X < 256 := by rw [hX]; exact d[k].toNat_lt
                  obtain ⟨Y, hY⟩ : ∃ y : Nat, y = X ^^^ t := ⟨_, rfl⟩
                  have hYl : Y < 256 := by rw [hY]; exact Nat.xor_lt_two_pow (n := 8) hXl (by omega)
                  have hbx : bits .xor .u8 ((X : Nat) : Int) (t : Int) = (Y : Int) := by rw [u8_xor_nat _ _ hXl (by omega), hY]
                  have hwt : IntKind.u8.wrap (t : Int) = (t : Int) := by simp [IntKind.wrap, IntKind.bits, IntKind.signed]; omega
                  rw [← hX] at hcell
                  have eR : rotN d (k : Int).toNat (t : Int) = ⟨(d.data.toList.set k (UInt8.ofNat Y)).toArray⟩ := by
                    unfold rotN
                    rw [Int.toNat_natCast, Int.toNat_natCast, byteAt_get d k hk, ← hX, ← hY]
                  have DP := I3.out.dt.put k hk (UInt8.ofNat Y)
                  rw [show (UInt8.ofNat Y).toNat = Y by simp; omega] at DP
                  have HDP := hid DP
                  have p1 : ¬ (t : Int) < 1 := by omega
                  have p2 : decide ((t : Int) < 1) = false := by simp; omega
                  have p3 : ¬ (255 : Int) < (t : Int) := by omega
                  have p4 : decide ((255 : Int) < (t : Int)) = false := by simp; omega
                  have p6 : decide ((k : Int) < 0) = false := by simp
                  have p7 : ¬ (d.size : Int) ≤ (k : Int) := by omega
                  have p8 : decide ((d.size : Int) ≤ (k : Int)) = false := by simp; omega
                  have p9 : (k : Int) < (d.size : Int) := by omega
                  have p0 : (0 : Int) ≤ (k : Int) := by omega
                  have GR : Hid (w3.grownBy (w3.setCell ⟨g, k, none⟩ (.int .u8 (Y : Nat))) (Value.slice (some ⟨g, 0, none⟩) d.size cD).ownBlock) := grown_set
                  rw [eR] at hR
                  subst hR
                  clear hr hX hY eR DP hXl hYl
                  go_upto_region 41 with fail
                  go_region
                  go_wp2
                  go_meet
                  have JX := I3.out.data GR.out HDP.out
                  have JU := I3.out.dk GR.out U3.out (by decide)
                  exact ⟨_, rfl, JX.below (Below.refl _ _).drew, NIL.out _, JU.below (Below.refl _ _).drew JU.lt⟩
          by_cases k6 : kd = 6
          · as_aux_lemma =>
              obtain rfl : kd = 6 := k6
              have u0 := U3.out.cell 0
              have f0 := U3.out.free 0
              have u1 := U3.out.cell 1
              have f1 := U3.out.free 1
              have tbe := TBE.out
              have htb := HTB.out
              have LB := HLB.out
              cases TB with
              | true =>
                rw [x6y d sy ky dt kp pa tn htb.symm] at hR
                have h0 : 0 ≤ LT := by
                  have q := tbe.symm
                  rw [Bool.and_eq_true] at q
                  simpa using q.1
                have hdat : datN d ky = rcD d (sc d 0)[LT.toNat]? := by unfold datN; rw [HLT.out]
                obtain ⟨k, rfl⟩ := Int.eq_ofNat_of_zero_le h0
                rcases RC.out.2 with h00 | ⟨b, rfl, hbl2, hcc⟩
                · have := LB.2; omega
                have c2 : w3.cell? ⟨b, k * 5 + 2, none⟩ = some (.string (rcD d (sc d 0)[k]?)) := by rw [← rcF_dat d (sc d 0) k (by have := HNL.out; have := LB.2; omega)]; exact hcc _ (by have := LB.2; omega)
                rw [Int.toNat_natCast] at hdat
                rw [← hdat] at c2
                obtain ⟨DV, hDV⟩ : ∃ x, x = datN d ky := ⟨_, rfl⟩
                rw [← hDV] at c2 hR
                subst hR
                have k2 : (k : Int) < (NL : Int) := LB.2
                have k3' : (0 : Int) ≤ (k : Int) := by omega
                clear hdat hDV hcc h0 LB tbe htb
                go_wp2
                go_meet
                exact ⟨_, rfl, I3.out.other U3.out UN.out.1 UN.out.2.1 UN.out.2.2.1 (by decide) VO.out (by decide) 1 _, NIL.out _, U3.out.set 1 _⟩
              | false =>
                rw [x6n d sy ky dt kp pa tn htb.symm] at hR
                subst hR
                clear LB tbe htb
                go_wp2
                go_meet
                exact ⟨_, rfl, I3.out.other U3.out UN.out.1 UN.out.2.1 UN.out.2.2.1 (by decide) VO.out (by decide) 0 _, NIL.out _, U3.out.set 0 _⟩
          by_cases k7 : kd = 7
          · as_aux_lemma =>
              obtain rfl : kd = 7 := k7
              rw [x7] at hR
              subst hR
              have sb := I3.out.sz
              have hub := U3.out.lt
              have CB : Hid (∀ k, k < NL → ∃ b, a3 = some ⟨b, 0, none⟩ ∧ b ≠ ub ∧ w3.cell? ⟨b, k * 5 + 3, none⟩ = some (rcF d (sc d 0) (k * 5 + 3)) ∧ w3.cell? ⟨b, k * 5 + 4, none⟩ = some (rcF d (sc d 0) (k * 5 + 4)) ∧ b < w3.heap.size) := fun k hk => by
                rcases RC.out.2 with h00 | ⟨b, he, hbl, hcc⟩
                · omega
                · refine ⟨b, he, fun e => ?_, hcc _ (by omega), hcc _ (by omega), hbl⟩
                  have q := hcc 0 (by omega)
                  rw [e, U3.out.cell 0] at q
                  have q2 := rcF_key d (sc d 0) 0 (by have := HNL.out; omega)
                  rw [Nat.zero_mul] at q2
                  rw [q2] at q
                  cases q
              have LI : Hid (∀ p (hp : p < d.size), ∃ g, aD = some ⟨g, 0, none⟩ ∧ g ≠ ub ∧ g < w3.heap.size ∧ w3.cell? ⟨g, p, none⟩ = some (.int .u8 (d[p].toNat : Nat))) := fun p hp => by
                obtain ⟨g, he, hgl, hc, _⟩ := I3.out.dt.at hp
                exact ⟨g, he, fun e => I3.out.dt.ne U3.out (by decide) (by rw [he, e]; rfl), hgl, hc⟩
              have DB : Hid (d.size ≤ 300000) := db
              have SG : Hid (w3.grownBy w3 (some ub)) := ⟨rfl, rfl, rfl, Nat.le_refl _, fun _ _ _ => rfl⟩
              have TE : Hid (([] : List ByteArray) ++ ((mkF d 0 0).take (100 - ([] : List ByteArray).length)).map decB = scrN d) := by show _ = _; unfold scrN mkF; simp
              have nlb : NL ≤ 300000 := HLL.out
              clear dc ds y0
              go_wp2_with fail
              go_loopw [16, 17] (fun q16 q17 wr => ∃ (k p : Nat) (vK : Value) (A : List ByteArray), q16 = .int .i64 (k : Int) ∧ q17 = .int .i64 (p : Int) ∧ k ≤ NL ∧ p ≤ d.size ∧ A.length ≤ 100 ∧ A ++ ((mkF d p k).take (100 - A.length)).map decB = scrN d ∧ w3.grownBy wr (some ub) ∧ OwnStrs wr w3.heap.size vK A ∧ RowAt wr ub 36 #[.int .i64 0, .string ⟨#[]⟩, vK, .int .i64 0]) (fun _ q17 _ => d.size - (intOf q17).toNat)
              case atStart => exact ⟨0, 0, _, [], rfl, rfl, Nat.zero_le _, Nat.zero_le _, Nat.zero_le _, TE.out, SG.out, ⟨rfl, .inl ⟨rfl, rfl⟩⟩, U3.out⟩
              case round =>
                obtain ⟨k, p, vK, A, rfl, rfl, hk, hp, hA, hT, hG, hK, hU⟩ := hrel
                have HA := hid hA
                have HT := hid hT
                have HG := hid hG
                have HK := hid hK
                have HU := hid hU
                obtain ⟨aK, cK, hvK⟩ := hK.slice
                obtain ⟨nK, hnK⟩ : ∃ x, x = A.length := ⟨_, rfl⟩
                have HN := hid hnK
                rw [← hnK] at hvK hA
                subst hvK
                clear hT hG hK hU hnK TE
                have u2 := HU.out.cell 2
                have u2f := HU.out.free 2
                by_cases hpd : p < d.size
                · have p1 : (p : Int) < (d.size : Int) := by omega
                  have p0 : (0 : Int) ≤ (p : Int) := by omega
                  by_cases hfull : nK < 100
                  · have p2 : decide ((nK : Int) < 100) = true := by simp; omega
                    have p3 : (nK : Int) < 100 := by omega
                    have HF : Hid (nK < 100) := hfull
                    go_upto_region 51 with fail
                    by_cases hkl : k < NL
                    · have k1 : (k : Int) < (NL : Int) := by omega
                      have k0 : (0 : Int) ≤ (k : Int) := by omega
                      obtain ⟨b, rfl, hbu, c3', c4', hbl⟩ := CB.out k hkl
                      obtain ⟨f, hf⟩ : ∃ f, (sc d 0)[k]? = some f := ⟨_, List.getElem?_eq_getElem (by have := HNL.out; omega)⟩
                      rw [(rcF_in d (sc d 0) k f hf).1] at c3'
                      rw [(rcF_in d (sc d 0) k f hf).2] at c4'
                      have m3 := HG.out.cell c3' (fun e => hbu (Option.some.inj e))
                      have m4 := HG.out.cell c4' (fun e => hbu (Option.some.inj e))
                      have hin := getRec_in d f.at' f ((chn_sc d 0).drop k f hf).1
                      have HF9 := hid hf
                      obtain ⟨FA, hFA⟩ : ∃ x, x = f.at' := ⟨_, rfl⟩
                      obtain ⟨FN, hFN⟩ : ∃ x, x = f.next := ⟨_, rfl⟩
                      have EA := hid hFA
                      have EN := hid hFN
                      rw [← hFA] at m3
                      rw [← hFN] at m4
                      have fn1 : FA + 4 < FN := by omega
                      have fn2 : FN ≤ d.size := by omega
                      clear c3' c4' hin hf hFA hFN
                      by_cases hpa : p = FA
                      · have e1 : ((p : Int) == (FA : Int)) = true := by simp; omega
                        have T2 : Hid (A ++ ((mkF d FN (k + 1)).take (100 - A.length)).map decB = scrN d) := by
                          show _ = _
                          rw [EN.out, ← mk_rec d hpd HF9.out (by rw [← EA.out]; exact hpa)]
                          exact HT.out
                        have wn : IntKind.i64.wrap ((FN : Int) - 1) = (FN : Int) - 1 := by simp [IntKind.wrap, IntKind.bits, IntKind.signed]; have := DB.out; omega
                        have PM : Hid (p < FN) := by show _ < _; omega
                        clear hpa
                        go_wp2
                        go_roundw
                        case rel => exact ⟨k + 1, FN, _, A, by go_num, by go_num, by omega, fn2, HA.out, T2.out, HG.out, HK.out, HU.out⟩
                        case measure => have := PM.out; simp [intOf]; omega
                      · have e1 : ((p : Int) == (FA : Int)) = false := by simp; omega
                        have TN : Hid (∀ r, (sc d 0)[k]? = some r → p ≠ r.at') := fun r hr => by
                          rw [HF9.out] at hr
                          cases hr
                          rw [← EA.out]; exact hpa
                        clear hpa
                        obtain ⟨g, rfl, hgu, hgl, cg⟩ := LI.out p hpd
                        have cp := HG.out.cell cg (fun e => hgu (Option.some.inj e))
                        obtain ⟨X, hX⟩ : ∃ x : Nat, x = d[p].toNat := ⟨_, rfl⟩
                        rw [← hX] at cp
                        have hb := byteAt_get d p hpd
                        rw [← hX] at hb
                        have ST := hid (mk_step d hpd TN.out)
                        have PD : Hid (p < d.size) := hpd
                        rw [hb] at ST
                        clear cg hX hb
                        by_cases hx : X = 231
                        · have e2 : ((X : Int) == 231) = true := by simp; omega
                          have T2 : Hid ((A ++ [decB p]) ++ ((mkF d (p + 1) k).take (100 - (A ++ [decB p]).length)).map decB = scrN d) := by
                            have q := HT.out
                            rw [ST.out, if_pos hx] at q
                            exact tell_step (by have := HN.out; have := HF.out; omega) q
                          have KD := fun W => hid (sDec p (by have := DB.out; have := PD.out; omega) W)
                          have SZ : Hid (w3.heap.size ≤ wr.heap.size) := HG.out.size
                          have UL : Hid (ub < wr.heap.size) := HU.out.lt
                          have UB2 : Hid (ub < w3.heap.size) := hub
                          have VK : Hid ((Value.slice aK nK cK).ownBlock ≠ some ub) := fun e => by have := (orRow HK.out e).1; have := UB2.out; omega
                          have VL : Hid (∀ g, (Value.slice aK nK cK).ownBlock = some g → w3.heap.size ≤ g) := fun g e => (orRow HK.out e).1
                          clear hx
                          go_upto_region 55 with fail
                          go_region_law (first
                              | (go_simp; go_at_call 35; refine (KD _).out.mono ?_; rintro e w5 ⟨⟨t, rfl, hl, ht9⟩, hb5⟩; have et := decB_of p t hl; subst et; have b5 : Hid (Below wr.heap.size wr w5) := (by first | exact hb5 | exact (Below.refl _ _).drew.trans hb5); have s5 : Hid (wr.heap.size ≤ w5.heap.size) := b5.out.size; have U5 := hid (HU.out.below b5.out UL.out); have v5 := U5.out.cell 2; have K5 := hid (HK.out.below b5.out); have v6 : (w5.alloc (.cells #[.string (decB p)] 9)).cell? ⟨ub, 2, none⟩ = some (.slice aK nK cK) := (U5.out.alloc _).cell 2; have G5 := hid (grown_far HG.out (grown_below (r := none) b5.out) (fun g e => by cases e)); clear hb5 hl ht9; dsimp only)
                              | (refine step_append_strX w3.heap.size _ (by rfl) _ _ (by rfl) (.slice aK nK cK) A (decB p) (by rfl) (by first | exact K5.out.alloc _ | exact (K5.out.alloc _).drew) (by have := SZ.out; have := s5.out; first | (simp; omega) | omega) w5.heap.size (by first | exact RowAt.new _ _ _ | exact (RowAt.new _ _ _).drew) (by rfl) (by have := HN.out; have := HF.out; omega) ?_; intro g7 c7 w7 hO7 hg7 hl7; have G7 := hid (grown_far (grown_far G5.out (grown_below (r := none) (by first | exact (Below.refl _ _).alloc (Nat.le_refl _) _ | exact ((Below.refl _ _).alloc (Nat.le_refl _) _).drew)) (fun g e => by cases e)) hg7 VL.out); have O7 := hid hO7; have U7 : Hid (RowAt w7 ub 36 #[.int .i64 0, .string ⟨#[]⟩, .slice aK nK cK, .int .i64 0]) := (hg7.block ub (by have := UL.out; have := s5.out; first | (simp; omega) | omega) (fun e => VK.out e.symm)).trans (by first | exact U5.out.alloc _ | exact (U5.out.alloc _).drew); have y1 := U7.out.cell 2; have y2 := U7.out.free 2; clear hO7 hg7 hl7; dsimp only))
                          all_goals
                            have G2 : Hid (w3.grownBy (w7.setCell ⟨ub, 2, none⟩ (.slice (some ⟨g7, 0, none⟩) (A.length + 1) c7)) (some ub)) := grown_trans G7.out grown_set
                            have K2 : Hid (OwnStrs (w7.setCell ⟨ub, 2, none⟩ (.slice (some ⟨g7, 0, none⟩) (A.length + 1) c7)) w3.heap.size (.slice (some ⟨g7, 0, none⟩) (A.length + 1) c7) (A ++ [decB p])) := World.ownsRow.kept O7.out grown_set (Or.inr (fun e => by have := (orRow O7.out e).1; have := UB2.out; omega))
                            have U2 := hid (U7.out.set 2 (.slice (some ⟨g7, 0, none⟩) (A.length + 1) c7))
                            have TL : Hid ((A ++ [decB p]).length ≤ 100) := by show _ ≤ _; rw [List.length_append]; have := HN.out; have := HF.out; show A.length + 1 ≤ 100; omega
                            have w1 : IntKind.i64.wrap ((p : Int) + 1) = (p : Int) + 1 := by simp [IntKind.wrap, IntKind.bits, IntKind.signed]; have := DB.out; have := PD.out; omega
                            clear G7 O7 U7 y1 y2
                          all_goals go_wp2
                          all_goals
                            go_roundw
                            case rel => exact ⟨k, p + 1, _, A ++ [decB p], rfl, by go_num, hk, by have := PD.out; omega, TL.out, T2.out, G2.out, K2.out, U2.out⟩
                            case measure => have := PD.out; simp [intOf]; omega
                        · have e2 : ((X : Int) == 231) = false := by simp; omega
                          have T2 : Hid (A ++ ((mkF d (p + 1) k).take (100 - A.length)).map decB = scrN d) := by
                            have q := HT.out
                            rw [ST.out, if_neg hx] at q
                            exact q
                          have w1 : IntKind.i64.wrap ((p : Int) + 1) = (p : Int) + 1 := by simp [IntKind.wrap, IntKind.bits, IntKind.signed]; have := DB.out; omega
                          clear hx
                          go_wp2
                          go_roundw
                          case rel => exact ⟨k, p + 1, _, A, rfl, by go_num, hk, by have := PD.out; omega, HA.out, T2.out, HG.out, HK.out, HU.out⟩
                          case measure => have := PD.out; simp [intOf]; omega
                    · have hkn : k = NL := by omega
                      have k1 : ¬ (k : Int) < (NL : Int) := by omega
                      have TN : Hid (∀ r, (sc d 0)[k]? = some r → p ≠ r.at') := fun r hr => by
                        have := (List.getElem?_eq_some_iff.1 hr).1
                        have := HNL.out
                        omega
                      subst hkn
                      obtain ⟨g, rfl, hgu, hgl, cg⟩ := LI.out p hpd
                      have cp := HG.out.cell cg (fun e => hgu (Option.some.inj e))
                      obtain ⟨X, hX⟩ : ∃ x : Nat, x = d[p].toNat := ⟨_, rfl⟩
                      rw [← hX] at cp
                      have hb := byteAt_get d p hpd
                      rw [← hX] at hb
                      have ST := hid (mk_step d hpd TN.out)
                      have PD : Hid (p < d.size) := hpd
                      rw [hb] at ST
                      clear cg hX hb
                      by_cases hx : X = 231
                      · have e2 : ((X : Int) == 231) = true := by simp; omega
                        have T2 : Hid ((A ++ [decB p]) ++ ((mkF d (p + 1) k).take (100 - (A ++ [decB p]).length)).map decB = scrN d) := by
                          have q := HT.out
                          rw [ST.out, if_pos hx] at q
                          exact tell_step (by have := HN.out; have := HF.out; omega) q
                        have KD := fun W => hid (sDec p (by have := DB.out; have := PD.out; omega) W)
                        have SZ : Hid (w3.heap.size ≤ wr.heap.size) := HG.out.size
                        have UL : Hid (ub < wr.heap.size) := HU.out.lt
                        have UB2 : Hid (ub < w3.heap.size) := hub
                        have VK : Hid ((Value.slice aK nK cK).ownBlock ≠ some ub) := fun e => by have := (orRow HK.out e).1; have := UB2.out; omega
                        have VL : Hid (∀ g, (Value.slice aK nK cK).ownBlock = some g → w3.heap.size ≤ g) := fun g e => (orRow HK.out e).1
                        clear hx
                        go_upto_region 55 with fail
                        go_region_law (first
                            | (go_simp; go_at_call 35; refine (KD _).out.mono ?_; rintro e w5 ⟨⟨t, rfl, hl, ht9⟩, hb5⟩; have et := decB_of p t hl; subst et; have b5 : Hid (Below wr.heap.size wr w5) := (by first | exact hb5 | exact (Below.refl _ _).drew.trans hb5); have s5 : Hid (wr.heap.size ≤ w5.heap.size) := b5.out.size; have U5 := hid (HU.out.below b5.out UL.out); have v5 := U5.out.cell 2; have K5 := hid (HK.out.below b5.out); have v6 : (w5.alloc (.cells #[.string (decB p)] 9)).cell? ⟨ub, 2, none⟩ = some (.slice aK nK cK) := (U5.out.alloc _).cell 2; have G5 := hid (grown_far HG.out (grown_below (r := none) b5.out) (fun g e => by cases e)); clear hb5 hl ht9; dsimp only)
                            | (refine step_append_strX w3.heap.size _ (by rfl) _ _ (by rfl) (.slice aK nK cK) A (decB p) (by rfl) (by first | exact K5.out.alloc _ | exact (K5.out.alloc _).drew) (by have := SZ.out; have := s5.out; first | (simp; omega) | omega) w5.heap.size (by first | exact RowAt.new _ _ _ | exact (RowAt.new _ _ _).drew) (by rfl) (by have := HN.out; have := HF.out; omega) ?_; intro g7 c7 w7 hO7 hg7 hl7; have G7 := hid (grown_far (grown_far G5.out (grown_below (r := none) (by first | exact (Below.refl _ _).alloc (Nat.le_refl _) _ | exact ((Below.refl _ _).alloc (Nat.le_refl _) _).drew)) (fun g e => by cases e)) hg7 VL.out); have O7 := hid hO7; have U7 : Hid (RowAt w7 ub 36 #[.int .i64 0, .string ⟨#[]⟩, .slice aK nK cK, .int .i64 0]) := (hg7.block ub (by have := UL.out; have := s5.out; first | (simp; omega) | omega) (fun e => VK.out e.symm)).trans (by first | exact U5.out.alloc _ | exact (U5.out.alloc _).drew); have y1 := U7.out.cell 2; have y2 := U7.out.free 2; clear hO7 hg7 hl7; dsimp only))
                        all_goals
                          have G2 : Hid (w3.grownBy (w7.setCell ⟨ub, 2, none⟩ (.slice (some ⟨g7, 0, none⟩) (A.length + 1) c7)) (some ub)) := grown_trans G7.out grown_set
                          have K2 : Hid (OwnStrs (w7.setCell ⟨ub, 2, none⟩ (.slice (some ⟨g7, 0, none⟩) (A.length + 1) c7)) w3.heap.size (.slice (some ⟨g7, 0, none⟩) (A.length + 1) c7) (A ++ [decB p])) := World.ownsRow.kept O7.out grown_set (Or.inr (fun e => by have := (orRow O7.out e).1; have := UB2.out; omega))
                          have U2 := hid (U7.out.set 2 (.slice (some ⟨g7, 0, none⟩) (A.length + 1) c7))
                          have TL : Hid ((A ++ [decB p]).length ≤ 100) := by show _ ≤ _; rw [List.length_append]; have := HN.out; have := HF.out; show A.length + 1 ≤ 100; omega
                          have w1 : IntKind.i64.wrap ((p : Int) + 1) = (p : Int) + 1 := by simp [IntKind.wrap, IntKind.bits, IntKind.signed]; have := DB.out; have := PD.out; omega
                          clear G7 O7 U7 y1 y2
                        all_goals go_wp2
                        all_goals
                          go_roundw
                          case rel => exact ⟨k, p + 1, _, A ++ [decB p], rfl, by go_num, hk, by have := PD.out; omega, TL.out, T2.out, G2.out, K2.out, U2.out⟩
                          case measure => have := PD.out; simp [intOf]; omega
                      · have e2 : ((X : Int) == 231) = false := by simp; omega
                        have T2 : Hid (A ++ ((mkF d (p + 1) k).take (100 - A.length)).map decB = scrN d) := by
                          have q := HT.out
                          rw [ST.out, if_neg hx] at q
                          exact q
                        have w1 : IntKind.i64.wrap ((p : Int) + 1) = (p : Int) + 1 := by simp [IntKind.wrap, IntKind.bits, IntKind.signed]; have := DB.out; omega
                        clear hx
                        go_wp2
                        go_roundw
                        case rel => exact ⟨k, p + 1, _, A, rfl, by go_num, hk, by have := PD.out; omega, HA.out, T2.out, HG.out, HK.out, HU.out⟩
                        case measure => have := PD.out; simp [intOf]; omega
                  · have p2 : decide ((nK : Int) < 100) = false := by simp; omega
                    have FE : Hid (A = scrN d) := tell_full (by have := HN.out; omega) HT.out
                    clear hfull
                    go_wp2
                    go_meet
                    refine ⟨_, rfl, I3.out.butu U3.out UN.out.1 UN.out.2.1 UN.out.2.2.1 (by decide) VO.out (by decide) HG.out, orBase ?_ sb, HU.out⟩
                    show World.ownsRow _ _ _ _ _ (scrN d).length ((scrN d).map Value.string)
                    rw [← FE.out]
                    exact HK.out
                · have p1 : ¬ (p : Int) < (d.size : Int) := by omega
                  have FE : Hid (A = scrN d) := by
                    show _ = _
                    have := HT.out
                    rw [mk_end d (by omega)] at this
                    simpa using this
                  clear hpd
                  go_wp2
                  go_meet
                  refine ⟨_, rfl, I3.out.butu U3.out UN.out.1 UN.out.2.1 UN.out.2.2.1 (by decide) VO.out (by decide) HG.out, orBase ?_ sb, HU.out⟩
                  show World.ownsRow _ _ _ _ _ (scrN d).length ((scrN d).map Value.string)
                  rw [← FE.out]
                  exact HK.out
          by_cases k8 : kd = 8
          · as_aux_lemma =>
              obtain rfl : kd = 8 := k8
              rw [x8, ← HNL.out] at hR
              have sb := I3.out.sz
              have DB : Hid (d.size ≤ 300000) := db
              have LS : Hid (∀ key W, Rcs W a3 NL c3 (rcF d (sc d 0)) → Calls Tryz.prog 34 #[.slice a3 NL c3, .string key] W fun e w' => e = .returned (.int .i64 (lstN d key)) ∧ w' = W) := by
                show ∀ key W, _
                rw [HNL.out]
                intro key W h
                exact sLast d (sc d 0) (by rw [← HNL.out]; have := HLL.out; omega) key a3 c3 W h
              have CZ : Hid (∀ k, k ≤ NL → (cmpN d k).size ≤ 300000) := fun k hk => by
                have q1 := cmp_size d k (by rw [← HNL.out]; exact hk)
                have q2 := ((chn_sc d 0).ends k (by rw [← HNL.out]; exact hk)).1
                omega
              have M0 := hid (OwnB.made0 w3 w3.heap.size (Nat.le_refl _))
              have B0 : Hid (Below w3.heap.size w3 (w3.alloc (.cells #[] 5))) := (Below.refl _ _).alloc (Nat.le_refl _) _
              have nlb : NL ≤ 300000 := HLL.out
              clear dc ds y0
              go_wp2_with fail
              go_loopw [18, 19] (fun q18 q19 wr => ∃ (v : Value) (k : Nat), v = q18 ∧ q19 = .int .i64 (k : Int) ∧ k ≤ NL ∧ OwnB wr w3.heap.size v (cmpN d k) ∧ Below w3.heap.size w3 wr) (fun _ q19 _ => NL - (intOf q19).toNat)
              case atStart => exact ⟨_, 0, rfl, rfl, Nat.zero_le _, M0.out, B0.out⟩
              case round =>
                obtain ⟨v, k, rfl, rfl, hk, hO, hB⟩ := hrel
                have HO := hid hO
                have HB := hid hB
                clear hO hB M0 B0
                by_cases hkl : k < NL
                · have k1 : (k : Int) < (NL : Int) := by omega
                  have k0 : (0 : Int) ≤ (k : Int) := by omega
                  have RC2 := hid (RC.out.below HB.out)
                  have LS2 := hid (fun key => LS.out key wr RC2.out)
                  obtain ⟨f, hf⟩ : ∃ f, (sc d 0)[k]? = some f := ⟨_, List.getElem?_eq_getElem (by have := HNL.out; omega)⟩
                  have hin := getRec_in d f.at' f ((chn_sc d 0).drop k f hf).1
                  have sK : (keyAt d (sc d 0) k).size ≤ 1048576 := by
                    have e : keyAt d (sc d 0) k = d.extract f.kat (f.kat + f.ksz) := by unfold keyAt; rw [hf]; rfl
                    rw [e, ByteArray.size_extract]; have := DB.out; omega
                  have sD : (rcD d (sc d 0)[k]?).size ≤ 1048576 := by
                    have e : rcD d (sc d 0)[k]? = d.extract f.bat (f.bat + f.bsz) := by rw [hf]; rfl
                    rw [e, ByteArray.size_extract]; have := DB.out; omega
                  clear hf hin
                  rcases RC.out.2 with h00 | ⟨b, rfl, hbl, hcc3⟩
                  · omega
                  have hcc := fun j hj => (HB.out.cell (p := ⟨b, j, none⟩) hbl).trans (hcc3 j hj)
                  have D0 := hcc3 (k * 5) (by omega)
                  have D2 := hcc3 (k * 5 + 2) (by omega)
                  rw [rcF_key d (sc d 0) k (by have := HNL.out; omega)] at D0
                  rw [rcF_dat d (sc d 0) k (by have := HNL.out; omega)] at D2
                  clear hcc3
                  have cc0 := hcc (k * 5) (by omega)
                  have cc1 := hcc (k * 5 + 1) (by omega)
                  have cc2 := hcc (k * 5 + 2) (by omega)
                  rw [rcF_key d (sc d 0) k (by have := HNL.out; omega)] at cc0
                  rw [rcF_gone d (sc d 0) k (by have := HNL.out; omega)] at cc1
                  rw [rcF_dat d (sc d 0) k (by have := HNL.out; omega)] at cc2
                  have EY := hid (cmp_take d k)
                  have EN := hid (cmp_pass d k)
                  have SZ := hid (CZ.out k hk)
                  obtain ⟨KY, hKY⟩ : ∃ x, x = keyAt d (sc d 0) k := ⟨_, rfl⟩
                  obtain ⟨DT, hDT⟩ : ∃ x, x = rcD d (sc d 0)[k]? := ⟨_, rfl⟩
                  obtain ⟨G, hG⟩ : ∃ x, x = goneAt (sc d 0) k := ⟨_, rfl⟩
                  rw [← hKY] at cc0 D0 EY EN sK
                  rw [← hDT] at cc2 D2 EY sD
                  rw [← hG] at cc1 EY EN
                  have LK := hid (LS2.out KY)
                  obtain ⟨y, hy⟩ : ∃ y, y = lstN d KY := ⟨_, rfl⟩
                  rw [← hy] at LK EY EN
                  obtain ⟨C, hC⟩ : ∃ C, C = cmpN d k := ⟨_, rfl⟩
                  rw [← hC] at HO EY EN SZ
                  have C0 := hid D0
                  have C2 := hid D2
                  clear hcc hKY hDT hG hy hC LS2 D0 D2
                  cases G with
                  | true =>
                    have E2 : Hid (cmpN d (k + 1) = C) := EN.out (by intro q; cases q.1)
                    clear EY EN
                    go_wp2
                    go_roundw
                    case rel => exact ⟨v, k + 1, rfl, by go_num, by omega, by rw [E2.out]; exact HO.out, HB.out⟩
                    case measure => simp [intOf]; omega
                  | false =>
                    by_cases hq : y = (k : Int)
                    · have e2 : (y == (k : Int)) = true := by simpa using hq
                      have E2 : Hid (cmpN d (k + 1) = C ++ recV KY false DT) := EY.out ⟨rfl, hq⟩
                      clear EY EN hq
                      go_upto_region 61 with fail
                      go_wp2_with fail
                      refine LK.out.mono ?_
                      rintro e w5 ⟨rfl, hw5⟩
                      obtain rfl := hw5.symm
                      clear LK
                      have RS := recV_size KY false DT
                      have PC := fun W => hid (sPutRec KY false DT sK sD W)
                      obtain ⟨T, hT⟩ : ∃ T, T = recV KY false DT := ⟨_, rfl⟩
                      rw [← hT] at RS PC E2
                      have LW : Hid (w3.heap.size ≤ wr.heap.size) := HB.out.size
                      have CT : Hid (C.size + T.size ≤ 17592186044414) := by show _ ≤ _; have := SZ.out; omega
                      have HBL := hid hbl
                      clear hT RS sK sD hbl
                      go_upto_region 62 with fail
                      go_region_held3 (fun wx => wx.cell? ⟨b, k * 5, none⟩ = some (.string KY) ∧ wx.cell? ⟨b, k * 5 + 2, none⟩ = some (.string DT)) (first | exact ⟨(HB.out.cell (p := ⟨b, k * 5, none⟩) HBL.out).trans C0.out, (HB.out.cell (p := ⟨b, k * 5 + 2, none⟩) HBL.out).trans C2.out⟩ | exact ⟨(B6.out.cell (p := ⟨b, k * 5, none⟩) HBL.out).trans C0.out, (B6.out.cell (p := ⟨b, k * 5 + 2, none⟩) HBL.out).trans C2.out⟩ | exact ⟨(B7.out.cell (p := ⟨b, k * 5, none⟩) HBL.out).trans C0.out, (B7.out.cell (p := ⟨b, k * 5 + 2, none⟩) HBL.out).trans C2.out⟩ | (go_keep; done))
                        (((first
                          | (go_at_call 7; refine (PC _).out.mono ?_; rintro e w6 ⟨rfl, hb6⟩; have b6 : Hid (Below wr.heap.size wr w6) := (by first | exact hb6 | exact (Below.refl _ _).drew.trans hb6); have O6 := hid (HO.out.below b6.out); have B6 := hid (HB.out.trans (b6.out.mono LW.out)); clear hb6)
                          | (refine step_appendBX w3.heap.size _ (by rfl) _ _ (by rfl) v C T (by rfl) (by exact O6.out) (by exact B6.out.size) (by rfl) CT.out ?_; intro v7 w7 hO7 hg7; have O7 := hid hO7; have B7 : Hid (Below w3.heap.size w3 w7) := B6.out.grown hg7 B6.out.size (fun g e => (O6.out.row e).1); clear hO7 hg7))))
                      all_goals go_wp2
                      all_goals
                        go_roundw
                        case rel => exact ⟨_, k + 1, rfl, by go_num, by omega, by rw [E2.out]; exact O7.out, B7.out⟩
                        case measure => simp [intOf]; omega
                    · have e2 : (y == (k : Int)) = false := by simpa using hq
                      have E2 : Hid (cmpN d (k + 1) = C) := EN.out (fun q => hq q.2)
                      clear EY EN hq
                      go_upto_region 61 with fail
                      go_wp2_with fail
                      refine LK.out.mono ?_
                      rintro e w5 ⟨rfl, hw5⟩
                      obtain rfl := hw5.symm
                      clear LK
                      go_wp2
                      go_roundw
                      case rel => exact ⟨v, k + 1, rfl, by go_num, by omega, by rw [E2.out]; exact HO.out, HB.out⟩
                      case measure => simp [intOf]; omega
                · have hkn : k = NL := by omega
                  have k1 : ¬ (k : Int) < (NL : Int) := by omega
                  have EC : Hid (cmpN d k = cmpN d NL) := by show _ = _; rw [hkn]
                  obtain ⟨C, hC⟩ : ∃ C, C = cmpN d NL := ⟨_, rfl⟩
                  rw [← hC] at hR EC
                  rw [EC.out] at HO
                  subst hR
                  obtain ⟨aV, cV, hvV⟩ := HO.out.slice
                  obtain ⟨nV, hnV⟩ : ∃ x, x = C.size := ⟨_, rfl⟩
                  have HNV := hid hnV
                  rw [← hnV] at hvV
                  subst hvV
                  clear hC hkn hnV EC
                  go_wp2
                  go_meet
                  exact ⟨_, by rw [HNV.out], I3.out.data (grown_below HB.out) (HO.out.baseUp sb), NIL.out _, U3.out.below HB.out U3.out.lt⟩
          · have e1 : (kd == 1) = false := by simpa using k1
            have e2 : (kd == 2) = false := by simpa using k2
            have e3 : (kd == 3) = false := by simpa using k3
            have e4 : (kd == 4) = false := by simpa using k4
            have e5 : (kd == 5) = false := by simpa using k5
            have e6 : (kd == 6) = false := by simpa using k6
            have e7 : (kd == 7) = false := by simpa using k7
            have e8 : (kd == 8) = false := by simpa using k8
            have u0 := U3.out.cell 0
            have f0 := U3.out.free 0
            rw [x0 d sy kd ky dt kp pa tn k1 k2 k3 k4 k5 k6 k7 k8] at hR
            subst hR
            clear k1 k2 k3 k4 k5 k6 k7 k8
            go_wp2
            go_meet
            exact ⟨_, rfl, I3.out.other U3.out UN.out.1 UN.out.2.1 UN.out.2.2.1 (by decide) VO.out (by decide) 0 _, NIL.out _, U3.out.set 0 _⟩
        case rest =>
          clear hR y0
          obtain ⟨vK, rfl, hI4, hK4, hU4⟩ := hcut
          have OK2 : Hid (XOk R.1.1 R.1.2) := by show XOk _ _; rw [HR.out]; exact xDo_ok OK.out _
          have HLE : Hid (R.2.hl = (hldN R.1.1 : Int)) := by show _ = _; rw [HR.out]; exact x_hl _ _ _
          rw [← HR.out] at XN1 XN2
          obtain ⟨⟨D2, S2⟩, ⟨CD, DT, KS, HL⟩⟩ := R
          dsimp only at hI4 hK4 hU4 OK2 HLE XN1 XN2 ⊢
          obtain ⟨aK, cK, hvK⟩ := hK4.slice
          obtain ⟨nK, hnK⟩ : ∃ x, x = KS.length := ⟨_, rfl⟩
          rw [← hnK] at hvK
          subst hvK
          obtain ⟨vD2, hvD2⟩ : ∃ v, v = (u5 : Value) := ⟨_, rfl⟩
          have hct2 := hI4.dt.text (P := Tryz.prog) 22 9 Tryz.underlying22 Tryz.underlying5 Tryz.underlying9
          have KS2 := hid (sScan D2 (by have := OK2.out.bd; omega) wc)
          have I4 := hid hI4
          have K4 := hid hK4
          have U4 := hid hU4
          clear hI4 hK4 hU4 hnK hvD2
          go_wp2_with fail
          refine KS2.out.mono ?_
          rintro e w5 ⟨a5, c5, rfl, hRc, hb5⟩
          have I5 := hid (I4.out.below hb5)
          have K5 := hid (K4.out.below hb5)
          have U5 := hid (U4.out.below hb5 U4.out.lt)
          have hLL : (sc D2 0).length ≤ 300000 := by have := sc_len D2 (D2.size + 1) 0; have := OK2.out.bd; unfold sc; omega
          have KH := hid (sHeld D2 (sc D2 0) (by omega) a5 c5 w5 hRc)
          rw [show ((heldF D2 (sc D2 0) (sc D2 0).length : Nat) : Int) = HL from HLE.out.symm] at KH
          obtain ⟨N5, hN5⟩ : ∃ x, x = (sc D2 0).length := ⟨_, rfl⟩
          rw [← hN5] at KH ⊢
          clear hRc hb5 hct2 KS2 hLL hN5 I4 K4 U4
          go_wp2_with fail
          refine KH.out.mono ?_
          rintro e w6 ⟨rfl, hw6⟩
          obtain rfl := hw6.symm
          clear KH
          have g3 := U5.out.cell 3
          have f3 := U5.out.free 3
          obtain ⟨W6, hW6⟩ : ∃ W, W = w5.setCell ⟨ub, 3, none⟩ (.int .i64 HL) := ⟨_, rfl⟩
          have I6 : Hid (XI w W6 X4 X7 base u5 D2 vO O) := by rw [hW6]; exact I5.out.other U5.out UN.out.1 UN.out.2.1 UN.out.2.2.1 (by decide) VO.out (by decide) 3 _
          have K6 : Hid (OwnStrs W6 base (.slice aK nK cK) KS) := by rw [hW6]; exact orKeep K5.out fun g cs _ r => r.other _ _ (row_neX r U5.out (by decide))
          have U6 : Hid (RowAt W6 ub 36 #[.int .i64 CD, .string DT, .slice aK nK cK, .int .i64 HL]) := by rw [hW6]; exact U5.out.set 3 _
          go_upto_region 66 with fail
          rw [← hW6]
          clear hW6 g3 f3 I5 K5 U5
          have r2 := I6.out.rr.cell 2
          have g0 := U6.out.cell 0
          have g1 := U6.out.cell 1
          have g2 := U6.out.cell 2
          have g3 := U6.out.cell 3
          go_wp2_with (at_builtin; refine lockX ?_)
          refine hid ?_
          refine append_xo base W6 rfl (.tmp 286) (.tmp 288) rfl vO O (⟨CD, DT, KS, HL⟩, .slice aK nK cK) rfl I6.out.ou I6.out.sz rfl rfl (by have := OL.out; omega) ?_
          intro v7 w7 hO7 hg7
          have r27 : w7.cell? ⟨X7, 2, none⟩ = some vO := by
            have r := (hg7.block X7 I6.out.rr.lt (fun e => by obtain ⟨_, _, cs', r'⟩ := orRow I6.out.ou e.symm; exact row_neX I6.out.rr r' (by decide) rfl)).trans I6.out.rr
            exact RowAt.cell (show RowAt w7 X7 _ _ from r) 2
          have f27 : w7.frozen? ⟨X7, 2, none⟩ = false := by
            have r := (hg7.block X7 I6.out.rr.lt (fun e => by obtain ⟨_, _, cs', r'⟩ := orRow I6.out.ou e.symm; exact row_neX I6.out.rr r' (by decide) rfl)).trans I6.out.rr
            exact RowAt.free (show RowAt w7 X7 _ _ from r) 2
          have I8 := hid (I6.out.out hg7 K6.out hO7)
          obtain ⟨a7, c7, hv7⟩ := orSlice hO7
          obtain ⟨n7, hn7⟩ : ∃ x, x = (O ++ [((⟨CD, DT, KS, HL⟩, .slice aK nK cK) : XOt × Value)]).length := ⟨_, rfl⟩
          rw [← hn7] at hv7
          subst hv7
          clear hn7 hO7 hg7 r2 g0 g1 g2 g3 I6 K6 U6
          go_wp2
          go_roundw
          case rel => exact ⟨i + 1, u5, _, O ++ [(⟨CD, DT, KS, HL⟩, .slice aK nK cK)], by omega, by go_num, rfl, by rw [XN1.out], by rw [List.map_append, HO1.out, XN2.out]; rfl, by rw [XN1.out]; exact I8.out⟩
          case measure => simp [intOf]; omega
    · have hin : i = n := by omega
      subst hin
      have d1 : ¬ (i : Int) < (i : Int) := by omega
      have XN : Hid ((xRun d0 s0 o i).1.1 = d ∧ (xRun d0 s0 o i).1.2 = sy) := ⟨hd.symm, hsy.symm⟩
      clear hd hsy
      obtain ⟨aO, cO, hvO⟩ := orSlice I0.out.ou
      obtain ⟨nO, hnO⟩ : ∃ x, x = O.length := ⟨_, rfl⟩
      rw [← hnO] at hvO
      subst hvO
      clear hnO
      have hct := I0.out.dt.text (P := Tryz.prog) 22 9 Tryz.underlying22 Tryz.underlying5 Tryz.underlying9
      have r0 := I0.out.rr.cell 0
      have r1 := I0.out.rr.cell 1
      have r2 := I0.out.rr.cell 2
      have f0 := I0.out.rr.free 0
      have f1 := I0.out.rr.free 1
      obtain ⟨WZ, hWZ⟩ : ∃ W, W = (wr.setCell ⟨X7, 0, none⟩ (.string d)).setCell ⟨X7, 1, none⟩ (.int .i64 (sy : Nat)) := ⟨_, rfl⟩
      have RZ : Hid (RowAt WZ X7 33 #[.string d, .int .i64 (sy : Nat), .slice aO nO cO]) := by rw [hWZ]; exact (I0.out.rr.set 0 _).set 1 _
      have RX : Hid (RowAt WZ X4 33 #[.string ⟨#[]⟩, .int .i64 0, .slice none 0 0]) := by rw [hWZ]; exact (I0.out.res.other _ _ I0.out.nx.2.2.2).other _ _ I0.out.nx.2.2.2
      have OZ : Hid (∀ W c, W = WZ.setRow X4 c → (W.ownsRow w.heap.size 36 4 (.slice aO nO cO) O.length (xoL O) ∧ ∀ p ∈ O, OwnStrs W w.heap.size p.2 p.1.ks) ∧ Below w.heap.size w W) := fun W c hW => by
        have h7 := I0.out.rr
        have ok : ∀ {g ty cs}, RowAt wr g ty cs → ty ≠ 33 → RowAt W g ty cs := fun {g ty cs} r hn => by
          rw [hW, hWZ]
          exact ((r.other _ _ (row_neX r h7 hn)).other _ _ (row_neX r h7 hn)).otherRow _ _ (row_neX r I0.out.res hn)
        refine ⟨⟨orBase (orKeep I0.out.ou fun g cs _ r => ok r (by decide)) I0.out.nx.2.2.1, fun p hp => orBase (orKeep (I0.out.oe p hp) fun g cs _ r => ok r (by decide)) I0.out.nx.2.2.1⟩, ?_⟩
        rw [hW, hWZ]
        exact below_setRow ((I0.out.bl.setCell (by show w.heap.size ≤ X7; exact I0.out.nx.2.1) _).setCell (by show w.heap.size ≤ X7; exact I0.out.nx.2.1) _) _ _ I0.out.nx.1
      go_upto_region 68 with fail
      rw [← hWZ]
      clear hWZ r0 r1 r2 f0 f1 hct
      have r0 := RZ.out.cell 0
      have r1 := RZ.out.cell 1
      have r2 := RZ.out.cell 2
      go_wp2_with (refine wpList_store_row rfl 33 (.tmp 4) (.tmp 296) rfl X4 #[.string d, .int .i64 (sy : Nat), .slice aO nO cO] rfl rfl _ _ RX.out (by kernel_rfl) rfl (by simp [Value.oneCell']) ?_)
      obtain ⟨⟨q1, q2⟩, q3⟩ := OZ.out _ _ rfl
      have fin : SxQ w d0 s0 o i (.returned (.agg #[.string d, .int .i64 (sy : Nat), .slice aO nO cO])) (WZ.setRow X4 #[.string d, .int .i64 (sy : Nat), .slice aO nO cO]) := ⟨⟨_, O, by rw [XN.out.1, XN.out.2], HO1.out, q1, q2⟩, q3⟩
      refine bodyPost_ret (v := .agg #[.string d, .int .i64 (sy : Nat), .slice aO nO cO]) ?_ rfl fin
      exact results_cell_row Tryz.results10 _ _ X4 _ _ _ _ rfl (RX.out.setRow _) Tryz.underlying33 rfl (by kernel_rfl)
end Go.Proofs.YtngkiokibldfjaaGreatDoor
