import Derived.Test.YtcbmgpdpjagaoaaGreatSRun2
import Derived.Test.YtcbmgpdpjagaoaaGreatI3
import Derived.Test.YtcbmgpdpjagaoaaGreatS1
import Derived.Test.YtcbmgpdpjagaoaaGreatS1
import Derived.BigQuiet
namespace Go.Proofs.YtcbmgpdpjagaoaaGreat
open Go.RowKit
set_option maxRecDepth 20000 in
set_option maxHeartbeats 8000000 in
theorem sTabF (s f : Int) (a0 : Option Addr) (n0 c0 : Nat) (o0 : Nat → En) (a : Option Addr) (m cap : Nat) (R : Nat → Rn) (hn : n0 ≤ 1048576) (hm : m ≤ 1048576) (hs : ∀ k, k < n0 → (o0 k).ky.size ≤ 1048576 ∧ (o0 k).tx.size ≤ 1048576) (hz : RnSz R m) (w : World) (h0 : Ens w a0 n0 c0 o0) (h : Rns w a m cap R) :
 Calls Tryz.prog 6 #[.agg #[.int .i64 s, .int .i64 f, .slice a0 n0 c0, .slice a m cap]] w fun e w' => e = .returned (.int .i64 (tabV s f n0 o0 m R)) ∧ Below w.heap.size w w' := by
 obtain ⟨W1, hW1⟩ : ∃ W, W = w.alloc (.cells #[.int .i64 s, .int .i64 f, .slice a0 n0 c0, .slice a m cap] 28) := ⟨_, rfl⟩; have R1 : Hid (RA W1 w.heap.size 28 #[.int .i64 s, .int .i64 f, .slice a0 n0 c0, .slice a m cap]) := by rw [hW1]; exact RA.new _ _ _
 have B1 : Hid (Below w.heap.size w W1) := by rw [hW1]; exact balEn (Below.refl _ _) _
 have K0 := hid (sRunF a0 n0 c0 o0 hn hs W1 (h0.below B1.out)); have H0 := hid h0; have HH := hid h; have HZ := hid hz; have HW1 := hid hW1; clear hW1 h0 h hs hz; have r0 := R1.out.cell 0; have r1 := R1.out.cell 1; have r2 := R1.out.cell 2; have r3 := R1.out.cell 3
 by_cases q1 : s < 0
 · have E : Hid (tabV s f n0 o0 m R = 1) := tabV_no fun h => by have := h.1.2.1; have := h.1.2.2.1; omega
   go_enter Tryz.func6, Tryz.ntmps6
   go_upto_region 1 with fail
   rw [← HW1.out]
   go_wp2
   go_ret
   exact ⟨by rw [E.out]; rfl, B1.out⟩
 by_cases q2 : 4611686018427387904 < s
 · have E : Hid (tabV s f n0 o0 m R = 1) := tabV_no fun h => by have := h.1.1; omega
   go_enter Tryz.func6, Tryz.ntmps6
   go_upto_region 1 with fail
   rw [← HW1.out]
   go_wp2
   go_ret
   exact ⟨by rw [E.out]; rfl, B1.out⟩
 by_cases q3 : f < 0
 · have E : Hid (tabV s f n0 o0 m R = 1) := tabV_no fun h => by have := h.1.2.1; omega
   go_enter Tryz.func6, Tryz.ntmps6
   go_upto_region 1 with fail
   rw [← HW1.out]
   go_wp2
   go_ret
   exact ⟨by rw [E.out]; rfl, B1.out⟩
 by_cases q4 : s < f
 · have E : Hid (tabV s f n0 o0 m R = 1) := tabV_no fun h => by have := h.1.2.2.1; omega
   go_enter Tryz.func6, Tryz.ntmps6
   go_upto_region 1 with fail
   rw [← HW1.out]
   go_wp2
   go_ret
   exact ⟨by rw [E.out]; rfl, B1.out⟩
 by_cases q5 : (20 : Int) < (m : Int)
 · have E : Hid (tabV s f n0 o0 m R = 1) := tabV_no fun h => by have := h.1.2.2.2; omega
   go_enter Tryz.func6, Tryz.ntmps6
   go_upto_region 1 with fail
   rw [← HW1.out]
   go_wp2
   go_ret
   exact ⟨by rw [E.out]; rfl, B1.out⟩
 have HD : Hid (hdOk s f m) := ⟨by omega, by omega, by omega, by omega⟩
 by_cases q6 : runOk n0 o0
 case neg =>
  rw [runV_no q6] at K0; have E : Hid (tabV s f n0 o0 m R = 1) := tabV_no fun h => q6 h.2.1; clear q6
  go_enter Tryz.func6, Tryz.ntmps6
  go_upto_region 1 with fail
  rw [← HW1.out]
  go_wp2_with fail
  refine K0.out.mono ?_
  rintro e w2 ⟨rfl, hb2⟩
  have B2 := hid (B1.out.trans (hb2.mono B1.out.size)); clear hb2 K0
  go_wp2
  go_ret
  exact ⟨by rw [E.out]; rfl, B2.out⟩
 rw [runV_ok q6] at K0; have Q6 := hid q6; clear q6
 go_enter Tryz.func6, Tryz.ntmps6
 go_upto_region 1 with fail
 rw [← HW1.out]
 go_wp2_with fail
 refine K0.out.mono ?_
 rintro e w2 ⟨rfl, hb2⟩
 have R2 := hid (R1.out.below hb2 R1.out.lt); have B2 := hid (B1.out.trans (hb2.mono B1.out.size)); clear hb2 K0 r0 r1 r2 r3 R1 B1 HW1 q1 q2 q3 q4
 go_wp2_with fail
 go_loopw [5, 3, 4] (fun q v c wr => ∃ k : Nat, k ≤ m ∧ q = .int .i64 k ∧ c = .int .i64 (cntR R k : Nat) ∧ tabTo s R k ∧ OwnNums wr w2.heap.size 2 .i64 v (sqA R k) ∧ Below w2.heap.size w2 wr) (fun q _ _ _ => m - (intOf q).toNat)
 case atStart => exact ⟨0, Nat.zero_le _, rfl, rfl, ⟨fun i hi => absurd hi (by omega), Nat.zero_le _, List.nodup_nil, fun v hv => by cases hv⟩, OwnNums.empty w2 _ _, (Below.refl _ _).alloc (Nat.le_refl _) _⟩
 case round =>
  obtain ⟨k, hk, rfl, rfl, hT, hO, hB⟩ := hrel; have HT := hid hT; have HO := hid hO; have HB := hid hB; have HWB := hid (B2.out.trans (hB.mono B2.out.size)); have hRR := R2.out.below hB R2.out.lt; have HR := hid hRR; have r0 := hRR.cell 0; have r2 := hRR.cell 2; have r3 := hRR.cell 3; clear hT hO hB hRR
  by_cases hlt : k < m
  · have hlt' : (k : Int) < (m : Int) := by omega
    have k0 : (0 : Int) ≤ (k : Int) := by omega
    rcases (HH.out.below HWB.out).2.1 with h00 | ⟨b, off, rfl, hbl, hcc⟩
    · omega
    have c0 := hcc k hlt; have hE := hid (HH.out.2.2 k hlt); obtain ⟨z1, z2⟩ := HZ.out k hlt; have K := hid (sRunF (R k).ad (R k).n (R k).cap (R k).o z1 z2 wr (hE.out.below HWB.out)); have hS1 := HT.out.2.1; have HC : Hid (cntR R (k + 1) = cntR R k + (R k).n) := rfl; have HA : Hid (sqA R (k + 1) = sqA R k ++ sqL (R k).o (R k).n) := rfl
    by_cases hok : runOk (R k).n (R k).o
    case neg =>
     rw [runV_no hok] at K; have E : Hid (tabV s f n0 o0 m R = 1) := tab_no (k := k + 1) (by omega) fun q => hok (q.1 k (by omega)); obtain ⟨A, hA⟩ : ∃ v, v = (R k).ad := ⟨_, rfl⟩; obtain ⟨N, hN'⟩ : ∃ v, v = (R k).n := ⟨_, rfl⟩; obtain ⟨C, hC⟩ : ∃ v, v = (R k).cap := ⟨_, rfl⟩; rw [← hA, ← hN', ← hC] at c0 K; clear hcc hA hN' hC hok z1 z2 hS1
     go_wp2_with fail
     refine K.out.mono ?_
     rintro e w3 ⟨rfl, hb3⟩
     have B3 := hid (HWB.out.trans (hb3.mono HWB.out.size)); clear hb3 K
     go_wp2
     go_ret
     exact ⟨by rw [E.out]; rfl, B3.out⟩
    rw [runV_ok hok] at K; have HOK := hid hok; have HP := hid (partTo_zero HT.out)
    have HCELL : Hid (∀ wx, Below w.heap.size w wx → wx.cell? ⟨b, off + k, none⟩ = some (.slice (R k).ad (R k).n (R k).cap)) := fun wx hb => by
     rcases HH.out.2.1 with h00 | ⟨b', off', he, hbw, hcw⟩
     · omega
     · cases he; exact (hb.cell (p := ⟨b, off + k, none⟩) hbw).trans (hcw k hlt)
    have Z0 : Hid (sqA R k ++ sqL (R k).o 0 = sqA R k) := by show _ = _; simp [sqL]
    have HLA : Hid ((sqA R k).length ≤ 1000) := by show _ ≤ _; rw [sqA_len]; exact hS1
    obtain ⟨A, hA⟩ : ∃ v, v = (R k).ad := ⟨_, rfl⟩; obtain ⟨N, hN'⟩ : ∃ v, v = (R k).n := ⟨_, rfl⟩; obtain ⟨C, hC⟩ : ∃ v, v = (R k).cap := ⟨_, rfl⟩; obtain ⟨S, hS⟩ : ∃ v, v = cntR R k := ⟨_, rfl⟩; rw [← hA, ← hN', ← hC] at c0 K HCELL; rw [← hA, ← hN', ← hC] at hE; rw [← hN'] at z1; rw [← hS] at hS1 ⊢; rw [← hS, ← hN'] at HC; have HNN := hid hN'; clear hcc hA hN' hC hok z2 hS; have hw : IntKind.i64.wrap ((S : Int) + (N : Int)) = ((S + N : Nat) : Int) := by simp [IntKind.wrap, IntKind.bits, IntKind.signed]; omega
    go_wp2_with fail
    refine K.out.mono ?_
    rintro e w3 ⟨rfl, hb3⟩
    have R3 := hid (HR.out.below hb3 HR.out.lt); have c3 := (hb3.cell (p := ⟨b, off + k, none⟩) hbl).trans c0; have O3 := hid (OwnNums.nx hb3 HO.out); have B3 := hid (HB.out.trans (hb3.mono HB.out.size)); have hbl3 : b < w3.heap.size := Nat.lt_of_lt_of_le hbl hb3.size; have r33 := R3.out.cell 3; clear hb3 K c0 r0 r2 r3 HR HO HB HWB hbl
    by_cases hbig : 1000 < S + N
    · have d : (1000 : Int) < ((S + N : Nat) : Int) := by omega
      have E : Hid (tabV s f n0 o0 m R = 1) := tab_no (k := k + 1) (by omega) fun q => by have := q.2.1; rw [HC.out] at this; omega
      go_wp2
      go_ret
      exact ⟨by rw [E.out]; rfl, B2.out.trans (B3.out.mono B2.out.size)⟩
    have d : ¬ (1000 : Int) < ((S + N : Nat) : Int) := by omega
    have HC2 : Hid (cntR R (k + 1) ≤ 1000) := by show _ ≤ _; rw [HC.out]; omega
    go_wp2_with fail
    have HSN : Hid (((cntR R (k + 1) : Nat) : Int) = (S : Int) + (N : Int)) := by show _ = _; rw [HC.out]; simp
    clear hw d hbig hS1
    go_loopw [6, 3] (fun q v wr => ∃ j : Nat, j ≤ N ∧ q = .int .i64 j ∧ partTo s R k j ∧ OwnNums wr w2.heap.size 2 .i64 v (sqA R k ++ sqL (R k).o j) ∧ Below w2.heap.size w2 wr) (fun q _ _ => N - (intOf q).toNat)
    case atStart => exact ⟨0, Nat.zero_le _, rfl, HP.out, by rw [Z0.out]; exact O3.out, B3.out⟩
    case round =>
     obtain ⟨j, hj, rfl, hPj, hO, hB⟩ := hrel; have JP := hid hPj; have JB := hid hB; have JW := hid (B2.out.trans (hB.mono B2.out.size)); have HR := hid (R2.out.below hB R2.out.lt); have r3 := HR.out.cell 3; obtain ⟨ys, hys⟩ : ∃ ys, ys = sqA R k ++ sqL (R k).o j := ⟨_, rfl⟩; rw [← hys] at hO; have HY := hid hys; obtain ⟨av, cv, rfl, hI, hcv⟩ := own_intsR hO; have JO := hid hO; have JI := hid hI; have HLJ : Hid (ys.length ≤ 1048576) := by show _ ≤ _; rw [hys, List.length_append, sqL_len]; have := HLA.out; omega
     have cR := HCELL.out wr JW.out; clear hPj hB hO hI hcv hys R3 O3 B3 c3 r33
     by_cases hjl : j < N
     · have hjl' : (j : Int) < (N : Int) := by omega
       have j0 : (0 : Int) ≤ (j : Int) := by omega
       rcases (hE.out.below JW.out).2 with h00 | ⟨g, of, rfl, hgl, hcc⟩
       · omega
       obtain ⟨_, c1, _, _⟩ := hcc j hjl; have r0 := HR.out.cell 0; have hpn := hid (part_no (s := s) (R := R) (k := k) (j := j) (by rw [← HNN.out]; exact hjl)); have hps := hid (partTo_succ (s := s) (R := R) (k := k) (j := j) JP.out); have HSQ : Hid (sqA R k ++ sqL (R k).o (j + 1) = sqA R k ++ sqL (R k).o j ++ [((R k).o j).sq]) := by show _ = _; rw [sqL_succ, List.append_assoc]
       obtain ⟨X, hX⟩ : ∃ v, v = ((R k).o j).sq := ⟨_, rfl⟩; rw [← hX] at c1 hpn hps HSQ; rw [← HY.out] at hpn hps HSQ; clear hcc hX
       by_cases hq : s < X
       · have E : Hid (tabV s f n0 o0 m R = 1) := tab_no (k := k + 1) (by omega) (hpn.out (.inl hq))
         go_wp2
         go_ret
         exact ⟨by rw [E.out]; rfl, JW.out⟩
       have KI := hid (sInI8 av _ cv _ X HLJ.out wr JI.out)
       cases hin : decide (X ∈ ys) with
       | true =>
        have E : Hid (tabV s f n0 o0 m R = 1) := tab_no (k := k + 1) (by omega) (hpn.out (.inr (by simpa using hin))); rw [hin] at KI; clear hin
        go_wp2_with fail
        refine KI.out.mono ?_
        rintro e w4 ⟨rfl, rfl⟩
        go_wp2
        go_ret
        exact ⟨by rw [E.out]; rfl, JW.out⟩
       | false =>
        have E := hid (hps.out (by omega) (by simpa using hin)); have HLL : Hid (ys.length ≤ 17592186044414) := by show _ ≤ _; have := HLJ.out; omega
        rw [hin] at KI; clear hin
        go_wp2_with fail
        refine KI.out.mono ?_
        rintro e w4 ⟨rfl, rfl⟩
        clear KI r0 r3 c1
        go_wp2_with (refine append_num w2 w4 (by rfl) (.tmp 99) (.tmp 101) 59 (by rfl) 2 .i64 8 Tryz.underlying59 Tryz.info64 (by decide) _ _ X (by rfl) JO.out JB.out (by rfl) HLL.out ?_; intro v' w6 hown' hbel' hsome)
        go_roundw
        case rel => exact ⟨j + 1, by omega, by go_num, E.out, by rw [HSQ.out]; exact hown', hbel'⟩
        case measure => simp [intOf]; omega
     · have hjl' : ¬ (j : Int) < (N : Int) := by omega
       have hje : j = N := by omega
       subst hje; have T2 : Hid (tabTo s R (k + 1)) := tabTo_succ HT.out HOK.out HC2.out (by rw [← HNN.out]; exact JP.out); have O9 : Hid (OwnNums wr w2.heap.size 2 .i64 (.slice av ys.length cv) (sqA R (k + 1))) := by rw [HA.out, ← HNN.out, ← HY.out]; exact JO.out
       go_wp2
       go_roundw
       case rel => exact ⟨k + 1, by omega, by go_num, by rw [HSN.out], T2.out, O9.out, JB.out⟩
       case measure => simp [intOf]; omega
  · have hlt' : ¬ (k : Int) < (m : Int) := by omega
    have hke : k = m := by omega
    subst hke; have hS1 := HT.out.2.1; have hAl : (sqA R k).length = cntR R k := sqA_len R k; have HNO : Hid (¬ (cntR R k + n0 ≤ 1000) → tabV s f n0 o0 k R = 1) := fun h => tabV_no fun q => h q.2.2.2.1; have HNF : Hid (∀ i, i < n0 → ¬ ((o0 i).sq ≤ s ∧ ∀ v ∈ sqA R k, v < (o0 i).sq) → tabV s f n0 o0 k R = 1) := fun i hi h => tabV_no fun q => h (q.2.2.2.2 i hi); have HOK : Hid (cntR R k + n0 ≤ 1000 → frTo s (sqA R k) o0 n0 → tabV s f n0 o0 k R = 0) := fun h1 h2 => tabV_ok ⟨HD.out, Q6.out, HT.out, h1, h2⟩; obtain ⟨TV, hTV⟩ : ∃ v, v = tabV s f n0 o0 k R := ⟨_, rfl⟩; rw [← hTV] at HNO HNF HOK; have HTV := hid hTV; obtain ⟨av, cv, rfl, hI, hcv⟩ := own_intsR HO.out; have HI := hid hI; obtain ⟨S, hS⟩ : ∃ v, v = cntR R k := ⟨_, rfl⟩; rw [← hS] at hS1 hAl HNO HOK ⊢; obtain ⟨A, hA⟩ : ∃ A, A = sqA R k := ⟨_, rfl⟩; rw [← hA] at hAl HNF HOK HI ⊢; have hw : IntKind.i64.wrap ((S : Int) + (n0 : Int)) = ((S + n0 : Nat) : Int) := by simp [IntKind.wrap, IntKind.bits, IntKind.signed]; omega
    have E0 := hid (H0.out.below HWB.out); have HAL := hid hAl; clear hTV hI hcv hS hA hAl HT HO HB HD Q6
    by_cases hbig : 1000 < S + n0
    · have d : (1000 : Int) < ((S + n0 : Nat) : Int) := by omega
      have E := hid (HNO.out (by omega))
      go_wp2
      go_ret
      exact ⟨by rw [← HTV.out, E.out]; rfl, HWB.out⟩
    have d : ¬ (1000 : Int) < ((S + n0 : Nat) : Int) := by omega
    have HOK2 := hid (HOK.out (by omega)); have hAb : A.length ≤ 1000 := by rw [HAL.out]; exact hS1
    go_wp2_with fail
    obtain ⟨W9, rfl⟩ : ∃ W : World, W = wr := ⟨wr, rfl⟩; clear hw d hbig hS1 HNO HOK r0 r2 r3
    go_loopw [8] (fun q wx => ∃ i : Nat, i ≤ n0 ∧ q = .int .i64 i ∧ frTo s A o0 i ∧ wx = W9) (fun q _ => n0 - (intOf q).toNat)
    case atStart => exact ⟨0, Nat.zero_le _, rfl, fun j hj => absurd hj (by omega), rfl⟩
    case round =>
     obtain ⟨i, hi, rfl, hf, rfl⟩ := hrel; have HF := hid hf; clear hf; have r0 := HR.out.cell 0; have r2 := HR.out.cell 2
     by_cases hil : i < n0
     · have hil' : (i : Int) < (n0 : Int) := by omega
       have i0 : (0 : Int) ≤ (i : Int) := by omega
       rcases E0.out.2 with h00 | ⟨g, of, rfl, hgl, hcc⟩
       · omega
       obtain ⟨_, c1, _, _⟩ := hcc i hil; have HN2 := hid (HNF.out i hil)
       have HS2 : Hid ((o0 i).sq ≤ s → (∀ v ∈ A, v < (o0 i).sq) → frTo s A o0 (i + 1)) := fun h1 h2 j hj => by
        by_cases e : j = i
        · subst e; exact ⟨h1, h2⟩
        · exact HF.out j (by omega)
       obtain ⟨X, hX⟩ : ∃ v, v = (o0 i).sq := ⟨_, rfl⟩; rw [← hX] at c1 HN2 HS2; clear hcc hX
       by_cases hq : s < X
       · have E : Hid (TV = 1) := HN2.out fun h => by have := h.1; omega
         go_wp2
         go_ret
         exact ⟨by rw [← HTV.out, E.out]; rfl, HWB.out⟩
       have HS3 := hid (HS2.out (by omega))
       go_wp2_with fail
       clear c1 r0 r2 hq HS2; obtain ⟨V9, rfl⟩ : ∃ W : World, W = wr := ⟨wr, rfl⟩
       go_loopw [10] (fun q wx => ∃ t : Nat, t ≤ A.length ∧ q = .int .i64 t ∧ (∀ u, u < t → A.getD u 0 < X) ∧ wx = V9) (fun q _ => A.length - (intOf q).toNat)
       case atStart => exact ⟨0, Nat.zero_le _, rfl, fun u hu => absurd hu (by omega), rfl⟩
       case round =>
        obtain ⟨t, ht, rfl, hu, rfl⟩ := hrel; have HU := hid hu; clear hu
        by_cases htl : t < A.length
        · have htl' : (t : Int) < (A.length : Int) := by omega
          have t0 : (0 : Int) ≤ (t : Int) := by omega
          rcases HI.out.2.2 with h00 | ⟨b, off, rfl, hbl, hcc⟩
          · omega
          have c2 := hcc t htl; obtain ⟨Y, hY⟩ : ∃ v, v = A.getD t 0 := ⟨_, rfl⟩; rw [← hY] at c2; have HY := hid hY; clear hcc hY
          by_cases hle : X ≤ Y
          · have E : Hid (TV = 1) := HN2.out fun h => by
             have := h.2 Y (by rw [HY.out]; simp [htl])
             omega
            go_wp2
            go_ret
            exact ⟨by rw [← HTV.out, E.out]; rfl, HWB.out⟩
          · have U2 : Hid (∀ u, u < t + 1 → A.getD u 0 < X) := fun u hu => by
             by_cases e : u = t
             · subst e; rw [← HY.out]; omega
             · exact HU.out u (by omega)
            go_wp2
            go_roundw
            case rel => exact ⟨t + 1, by omega, by go_num, U2.out, trivial⟩
            case measure => simp [intOf]; omega
        · have htl' : ¬ (t : Int) < (A.length : Int) := by omega
          have F2 : Hid (frTo s A o0 (i + 1)) := HS3.out fun v hv => by
           obtain ⟨u, hul, rfl⟩ := List.getElem_of_mem hv; have := HU.out u (by omega)
           simpa [hul] using this
          go_wp2
          go_roundw
          case rel => exact ⟨i + 1, by omega, by go_num, F2.out, trivial⟩
          case measure => simp [intOf]; omega
     · have hil' : ¬ (i : Int) < (n0 : Int) := by omega
       have hie : i = n0 := by omega
       subst hie; have E := hid (HOK2.out HF.out)
       go_wp2
       go_ret
       exact ⟨by rw [← HTV.out, E.out]; rfl, HWB.out⟩
end Go.Proofs.YtcbmgpdpjagaoaaGreat
namespace Go.Proofs.YtcbmgpdpjagaoaaGreat
open Go.RowKit
set_option linter.unusedVariables false
theorem OwnEn.baseUp {w : World} {B B' : Nat} {v : Value} {L : List En} (h : OwnEn w B v L) (hb : B' ≤ B) : OwnEn w B' v L := by
 refine ⟨h.1, ?_⟩
 rcases h.2 with h0 | ⟨g, cap, cur, he, hb2, r⟩
 · exact .inl h0
 · exact .inr ⟨g, cap, cur, he, by omega, r⟩
set_option maxRecDepth 20000 in
set_option maxHeartbeats 4000000 in
theorem sAll (s f : Int) (a0 : Option Addr) (n0 c0 : Nat) (o0 : Nat → En) (a : Option Addr) (m cap : Nat) (R : Nat → Rn) (hm : m ≤ 1048576) (hc : n0 + cntR R m ≤ 1048576) (hz : a0 = none → c0 = 0) (hnil : ∀ k, k < m → (R k).ad = none → (R k).cap = 0) (w : World) (h0 : Ens w a0 n0 c0 o0) (h : Rns w a m cap R) :
 Calls Tryz.prog 31 #[.agg #[.int .i64 s, .int .i64 f, .slice a0 n0 c0, .slice a m cap]] w fun e w' => (∃ v, e = .returned v ∧ OwnEn w' w.heap.size v (allTb n0 o0 R m)) ∧ Below w.heap.size w w' := by
 obtain ⟨W1, hW1⟩ : ∃ W, W = w.alloc (.cells #[.int .i64 s, .int .i64 f, .slice a0 n0 c0, .slice a m cap] 28) := ⟨_, rfl⟩; have B1 : Hid (Below w.heap.size w W1) := by rw [hW1]; exact (Below.refl _ _).alloc (Nat.le_refl _) _
 have T1 : Hid (RA W1 w.heap.size 28 #[.int .i64 s, .int .i64 f, .slice a0 n0 c0, .slice a m cap]) := by rw [hW1]; exact RA.new _ _ _
 have HH := hid (h.below B1.out); have HN := hid hnil; have HC := hid hc; obtain ⟨W2, hW2⟩ : ∃ W, W = W1.alloc (.cells #[] 46) := ⟨_, rfl⟩; have b2 : Below W1.heap.size W1 W2 := by rw [hW2]; exact (Below.refl _ _).alloc (Nat.le_refl _) _
 have O2 : Hid (OwnEn W2 W1.heap.size (.slice (some ⟨W1.heap.size, 0, none⟩) 0 0) []) := by rw [hW2]; exact World.ownsRow_made W1 #[] 0 (Nat.le_refl _) (by decide) rfl
 have B2 := hid b2; have E2 : Hid (Ens W2 a0 n0 c0 (enA ((List.range n0).map o0))) := ((h0.below B1.out).below b2).cg fun k hk => (enA_range _ hk).symm; have LR : Hid (((List.range n0).map o0).length = n0) := by show _ = _; simp
 have hb0 : n0 ≤ 1048576 := by omega
 have T2 := T1.out.below b2 T1.out.lt; have r2 := T2.cell 2; clear h0 h hnil hc b2 T2; subst hW2
 go_enter Tryz.func31, Tryz.ntmps31
 go_upto_region 1 with fail
 rw [← hW1]; clear hW1
 go_wp2_with (at_builtin; refine append_ens W1.heap.size _ rfl (.tmp 5) (.tmp 8) rfl _ [] ((List.range n0).map o0) n0 LR.out rfl O2.out B2.out.size a0 c0 rfl hz E2.out (by simp; omega) ?_; intro v3 w3 hO3 hg3)
 have O3 : Hid (OwnEn w3 W1.heap.size v3 ((List.range n0).map o0)) := hO3; have B3 : Hid (Below W1.heap.size W1 w3) := B2.out.grown hg3 B2.out.size (fun g e => (O2.out.row e).1); clear hO3 hg3 O2 B2 E2 r2
 go_wp2_with fail
 go_loopw [4, 3] (fun q v wr => ∃ (i : Nat) (V : Value), i ≤ m ∧ q = .int .i64 (i : Int) ∧ V = v ∧ OwnEn wr W1.heap.size V ((List.range n0).map o0 ++ allE R i) ∧ Below W1.heap.size W1 wr) (fun q _ _ => m - (intOf q).toNat)
 case atStart => exact ⟨0, _, Nat.zero_le _, rfl, rfl, by rw [show allE R 0 = [] from rfl, List.append_nil]; exact O3.out, B3.out⟩
 case round =>
  obtain ⟨i, v, hi, rfl, rfl, hO, hB⟩ := hrel; have OO := hid hO; have BB := hid hB; have TT := T1.out.below hB T1.out.lt; have r3 := TT.cell 3; clear hO hB TT O3 B3
  by_cases hlt : i < m
  · have d0 : (i : Int) < (m : Int) := by omega
    have i0 : (0 : Int) ≤ (i : Int) := by omega
    rcases (HH.out.below BB.out).2.1 with h00 | ⟨b, off, rfl, hbl, hcc⟩
    · omega
    have c1 := hcc i hlt; have NI := hid (HN.out i hlt); have EI : Hid (Ens wr (R i).ad (R i).n (R i).cap (enA ((List.range (R i).n).map (R i).o))) := ((HH.out.below BB.out).2.2 i hlt).cg fun k hk => (enA_range _ hk).symm
    have LE : Hid (((List.range n0).map o0 ++ allE R i).length + (R i).n ≤ 1048576) := by
     show _ ≤ _
     have z1 : cntR R (i + 1) = cntR R i + (R i).n := rfl; have z2 := cntR_mono R (show i + 1 ≤ m by omega); have := HC.out; rw [List.length_append, allE_len, LR.out]; omega
    have LM : Hid (((List.range (R i).n).map (R i).o).length = (R i).n) := by show _ = _; simp
    have AL : Hid (((List.range n0).map o0 ++ allE R i) ++ (List.range (R i).n).map (R i).o = (List.range n0).map o0 ++ allE R (i + 1)) := by show _ = _; rw [List.append_assoc]; rfl
    generalize (List.range (R i).n).map (R i).o = M at EI LM AL
    generalize (R i).ad = A at c1 NI EI
    generalize (R i).n = N at c1 EI LE LM
    generalize (R i).cap = C at c1 NI EI
    clear hcc
    go_wp2_with (at_builtin; refine append_ens W1.heap.size _ rfl (.tmp 17) (.tmp 23) rfl _ _ M N LM.out rfl OO.out BB.out.size A C rfl NI.out EI.out LE.out ?_; intro v6 w6 hO6 hg6)
    have B6 := hid (BB.out.grown hg6 BB.out.size (fun g e => (OO.out.row e).1)); rw [AL.out] at hO6; have O6 := hid hO6; clear hO6 hg6 OO BB c1 r3
    go_wp2
    go_roundw
    case rel => exact ⟨i + 1, _, by omega, by go_num, rfl, O6.out, B6.out⟩
    case measure => simp [intOf]; omega
  · have d0 : ¬ (i : Int) < (m : Int) := by omega
    have ei : i = m := by omega
    have OE : Hid (OwnEn wr w.heap.size v (allTb n0 o0 R m)) := by rw [← ei]; exact OwnEn.baseUp OO.out (Nat.le_trans (Nat.le_succ _) (Nat.succ_le_of_lt T1.out.lt))
    have BE := hid (B1.out.trans (BB.out.mono B1.out.size)); clear ei
    go_wp2
    go_ret
    exact ⟨⟨_, rfl, OE.out⟩, BE.out⟩
def rawB : Option En → En
 | none => en0
 | some e => e
theorem IsB.stay {L : List En} {i : Nat} {key : ByteArray} {seq : Int} {bo : Option En} (h : IsB (fun e => e ∈ L.take i) key seq bo) (hi : i < L.length ∧ 1 ≤ (enA L i).sq) (hn : ¬ (mtE key seq (enA L i) ∧ (rawB bo).sq < (enA L i).sq)) : IsB (fun e => e ∈ L.take (i + 1)) key seq bo := by
 have mem : ∀ e, e ∈ L.take (i + 1) ↔ e ∈ L.take i ∨ e = enA L i := fun e => by rw [take_enA hi.1, List.mem_append]; simp
 rcases h with ⟨rfl, h2⟩ | ⟨x, rfl, h2, h3, h4⟩
 · refine .inl ⟨rfl, fun e he hm => ?_⟩
   rcases (mem e).1 he with q | rfl
   · exact h2 e q hm
   · exact hn ⟨hm, by show (0 : Int) < _; omega⟩
 · refine .inr ⟨x, rfl, (mem x).2 (.inl h2), h3, fun e he hm => ?_⟩
   rcases (mem e).1 he with q | rfl
   · exact h4 e q hm
   · rcases Int.lt_or_le x.sq (enA L i).sq with z | z
     · exact absurd ⟨hm, z⟩ hn
     · exact z
theorem IsB.take {L : List En} {i : Nat} {key : ByteArray} {seq : Int} {bo : Option En} (h : IsB (fun e => e ∈ L.take i) key seq bo) (hi : i < L.length) (hm : mtE key seq (enA L i)) (hl : (rawB bo).sq < (enA L i).sq) : IsB (fun e => e ∈ L.take (i + 1)) key seq (some (enA L i)) := by
 have mem : ∀ e, e ∈ L.take (i + 1) ↔ e ∈ L.take i ∨ e = enA L i := fun e => by rw [take_enA hi, List.mem_append]; simp
 refine .inr ⟨_, rfl, (mem _).2 (.inr rfl), hm, fun e he hm' => ?_⟩
 rcases (mem e).1 he with q | rfl
 · rcases h with ⟨rfl, h2⟩ | ⟨x, rfl, h2, h3, h4⟩
   · exact absurd hm' (h2 e q)
   · have := h4 e q hm'
     have hl : x.sq < (enA L i).sq := hl
     omega
 · exact Int.le_refl _
theorem fnd_raw (bo : Option En) : fndE bo = if (rawB bo).gn = true then en0 else rawB bo := by
 cases bo with
 | none => rfl
 | some e => rfl
theorem sl_ret {w W' : World} {ky tx : ByteArray} {sq : Int} {gn : Bool} {P : En → World → Prop} {tm : Array Value} (sa : RA W' (w.heap.size + 1) 46 #[.string ky, .int .i64 sq, .bool gn, .string tx]) (so : P ⟨ky, sq, gn, tx⟩ W') (bl : Below w.heap.size w W') (h2 : tm.getD 6 undef = .pointer (some ⟨w.heap.size + 1, 0, none⟩)) :
 bodyPost Tryz.prog Tryz.f35 (fun e w' => (∃ x : En, e = .returned (.agg #[.string x.ky, .int .i64 x.sq, .bool x.gn, .string x.tx]) ∧ P x w') ∧ Below w.heap.size w w') Exit.ret { tmps := tm, defers := [] } W' := by
 refine bodyPost_ret (v := .agg #[.string ky, .int .i64 sq, .bool gn, .string tx]) ?_ rfl ⟨⟨⟨ky, sq, gn, tx⟩, rfl, so⟩, bl⟩; exact results_cell_row Tryz.results35 _ _ (w.heap.size + 1) _ _ _ _ h2 sa Tryz.underlying46 rfl (by kernel_rfl)
set_option maxRecDepth 20000 in
set_option maxHeartbeats 8000000 in
theorem sFindL (s f : Int) (a0 : Option Addr) (n0 c0 : Nat) (o0 : Nat → En) (a : Option Addr) (m cap : Nat) (R : Nat → Rn) (hm : m ≤ 1048576) (hc : n0 + cntR R m ≤ 1048576) (hz : a0 = none → c0 = 0) (hnil : ∀ k, k < m → (R k).ad = none → (R k).cap = 0) (hfit : ∀ e ∈ allTb n0 o0 R m, 1 ≤ e.sq) (key : ByteArray) (seq : Int) (w : World) (h0 : Ens w a0 n0 c0 o0) (h : Rns w a m cap R) :
 Calls Tryz.prog 35 #[.agg #[.int .i64 s, .int .i64 f, .slice a0 n0 c0, .slice a m cap], .string key, .int .i64 seq] w fun e w' => (∃ x : En, e = .returned (.agg #[.string x.ky, .int .i64 x.sq, .bool x.gn, .string x.tx]) ∧ ∃ bo, IsB (fun e => e ∈ allTb n0 o0 R m) key seq bo ∧ x = fndE bo) ∧ Below w.heap.size w w' := by
 obtain ⟨W1, hW1⟩ : ∃ W, W = (w.alloc (.cells #[.int .i64 s, .int .i64 f, .slice a0 n0 c0, .slice a m cap] 28)).alloc (.cells #[.string ⟨#[]⟩, .int .i64 0, .bool false, .string ⟨#[]⟩] 46) := ⟨_, rfl⟩; have B1 : Hid (Below w.heap.size w W1) := by rw [hW1]; exact balEn (balEn (Below.refl _ _) _) _
 have T1 : Hid (RA W1 w.heap.size 28 #[.int .i64 s, .int .i64 f, .slice a0 n0 c0, .slice a m cap]) := by rw [hW1]; exact (RA.new _ _ _).alloc _
 have R1 : Hid (RA W1 (w.heap.size + 1) 46 #[.string ⟨#[]⟩, .int .i64 0, .bool false, .string ⟨#[]⟩]) := by rw [hW1]; exact RA.next _ _ _ (by rw [size_al])
 have KA := hid (sAll s f a0 n0 c0 o0 a m cap R hm hc hz hnil W1 (h0.below B1.out) (h.below B1.out)); obtain ⟨L, hL⟩ : ∃ L, L = allTb n0 o0 R m := ⟨_, rfl⟩; have HLL : Hid (L.length ≤ 1048576) := by show _ ≤ _; rw [hL, allTb_len]; exact hc
 rw [← hL] at KA hfit ⊢; have HF := hid hfit; have r0 := T1.out.cell 0; have r1 := T1.out.cell 1; have r2 := T1.out.cell 2; have r3 := T1.out.cell 3; clear h0 h hnil hc hz hfit hL
 go_enter Tryz.func35, Tryz.ntmps35
 go_upto_region 1 with fail
 rw [← hW1]; clear hW1
 go_wp2_with fail
 refine KA.out.mono ?_
 rintro e w3 ⟨⟨v3, rfl, hO3⟩, hb3⟩
 have R3 := hid (R1.out.below hb3 R1.out.lt); have B3 := hid (B1.out.trans (hb3.mono B1.out.size)); obtain ⟨a3, c3, hv3⟩ := hO3.slice; obtain ⟨N, hN⟩ : ∃ N, N = L.length := ⟨_, rfl⟩; rw [← hN] at hv3 HLL; subst hv3; have E3 := hid hO3.ens.2; have HN := hid hN; have hNb := HLL.out; obtain ⟨W4, hW4⟩ : ∃ W, W = w3.alloc (.cells #[.string ⟨#[]⟩, .int .i64 0, .bool false, .string ⟨#[]⟩] 46) := ⟨_, rfl⟩; have B4 : Hid (Below w3.heap.size w3 W4) := by rw [hW4]; exact (Below.refl _ _).alloc (Nat.le_refl _) _
 have R4 : Hid (RA W4 w3.heap.size 46 #[.string ⟨#[]⟩, .int .i64 0, .bool false, .string ⟨#[]⟩]) := by rw [hW4]; exact RA.new _ _ _
 clear hO3 hb3 hN KA r0 r1 r2 r3 T1 R1 B1
 go_upto_region 3 with ((refine wpList_store_row rfl 46 (.tmp 8) (.tmp 12) rfl w3.heap.size #[.string ⟨#[]⟩, .int .i64 0, .bool false, .string ⟨#[]⟩] rfl rfl _ _ (RA.new w3 _ _) (by kernel_rfl) rfl (oneEn4 _ _ _ _) ?_); rw [World.setRow_alloc_new])
 rw [← hW4]; clear hW4
 go_wp2_with fail
 go_loopw [9] (fun q wr => ∃ (i : Nat) (bo : Option En), i ≤ N ∧ q = .int .i64 (i : Int) ∧ IsB (fun e => e ∈ L.take i) key seq bo ∧ RA wr w3.heap.size 46 #[.string (rawB bo).ky, .int .i64 (rawB bo).sq, .bool (rawB bo).gn, .string (rawB bo).tx] ∧ Below w3.heap.size w3 wr) (fun q _ => N - (intOf q).toNat)
 case atStart => exact ⟨0, none, Nat.zero_le _, rfl, .inl ⟨rfl, fun e he => by cases he⟩, R4.out, B4.out⟩
 case round =>
  obtain ⟨i, bo, hi, rfl, hI, hR, hB⟩ := hrel; have HB := hid hI; have RR := hid hR; have BB := hid hB; clear hI hR hB R4 B4
  by_cases hlt : i < N
  · have d0 : (i : Int) < (N : Int) := by omega
    have i0 : (0 : Int) ≤ (i : Int) := by omega
    have hiL : Hid (i < L.length ∧ 1 ≤ (enA L i).sq) := ⟨by rw [← HN.out]; exact hlt, HF.out _ (List.mem_of_getElem? (enA_get (by rw [← HN.out]; exact hlt)))⟩
    rcases (E3.out.below BB.out).2 with h00 | ⟨b, off, rfl, hbl, hcc⟩
    · omega
    obtain ⟨x0, x1, x2, x3⟩ := hcc i hlt; clear hcc; have y1 := RR.out.cell 1; obtain ⟨Y1, hY1⟩ : ∃ y, y = (rawB bo).sq := ⟨_, rfl⟩; rw [← hY1] at y1; have HY := hid hY1; obtain ⟨X, hX⟩ : ∃ X, X = enA L i := ⟨_, rfl⟩; rw [← hX] at x0 x1 x2 x3; have HX := hid hX; clear hX hY1; obtain ⟨X0, X1, X2, X3⟩ := X; dsimp only at x0 x1 x2 x3
    by_cases hk : X0 = key
    · have d2 : (X0.toList == key.toList) = true := by rw [kEq]; simpa using hk
      by_cases hq : X1 ≤ seq
      · have d3 : decide (X1 ≤ seq) = true := by simpa using hq
        by_cases hg : Y1 < X1
        · have d4 : decide (Y1 < X1) = true := by simpa using hg
          have NB : Hid (IsB (fun e => e ∈ L.take (i + 1)) key seq (some ⟨X0, X1, X2, X3⟩)) := by
           have := IsB.take HB.out hiL.out.1 (by rw [← HX.out]; exact ⟨hk, hq⟩) (by rw [← HX.out, ← HY.out]; exact hg); rw [← HX.out] at this; exact this
          clear hk
          go_wp2_with fail
          go_quiet (fail)
          obtain ⟨W5, hW5⟩ : ∃ W, W = wr.drewN nq := ⟨_, rfl⟩; have R5 : Hid (RA W5 w3.heap.size 46 #[.string (rawB bo).ky, .int .i64 (rawB bo).sq, .bool (rawB bo).gn, .string (rawB bo).tx]) := by rw [hW5]; exact RR.out.drewN nq
          have b5 : Below wr.heap.size wr W5 := by rw [hW5]; exact below_dN (Below.refl _ _) nq
          have B5 := hid (BB.out.trans (b5.mono BB.out.size)); have z0 := (b5.cell (p := ⟨b, off + i * 4, none⟩) hbl).trans x0; have z1 := (b5.cell (p := ⟨b, off + i * 4 + 1, none⟩) hbl).trans x1; have z2 := (b5.cell (p := ⟨b, off + i * 4 + 2, none⟩) hbl).trans x2; have z3 := (b5.cell (p := ⟨b, off + i * 4 + 3, none⟩) hbl).trans x3; rw [← hW5]; have R6 : Hid (RA (W5.setRow w3.heap.size #[.string X0, .int .i64 X1, .bool X2, .string X3]) w3.heap.size 46 #[.string X0, .int .i64 X1, .bool X2, .string X3]) := R5.out.setRow _; have B6 : Hid (Below w3.heap.size w3 (W5.setRow w3.heap.size #[.string X0, .int .i64 X1, .bool X2, .string X3])) := below_setRow B5.out _ _ (Nat.le_refl _); clear hW5 x0 x1 x2 x3 y1 RR BB HB b5 B5 d2 d3 d4
          go_wp2_with (refine wpList_store_row rfl 46 (.tmp 8) (.tmp 48) rfl w3.heap.size #[.string X0, .int .i64 X1, .bool X2, .string X3] rfl rfl _ _ R5.out (by kernel_rfl) rfl (oneEn4 _ _ _ _) ?_)
          go_roundw
          case rel => exact ⟨i + 1, some ⟨X0, X1, X2, X3⟩, by omega, by go_num, NB.out, R6.out, B6.out⟩
          case measure => simp [intOf]; omega
        · have d4 : decide (Y1 < X1) = false := by simpa using hg
          have NB := hid (IsB.stay HB.out hiL.out (fun q => hg (by have := q.2; rw [← HX.out, ← HY.out] at this; exact this))); have B5 : Hid (∀ d, Below w3.heap.size w3 (wr.drewN d)) := fun d => below_dN BB.out d; have R5 : Hid (∀ d, RA (wr.drewN d) w3.heap.size 46 #[.string (rawB bo).ky, .int .i64 (rawB bo).sq, .bool (rawB bo).gn, .string (rawB bo).tx]) := fun d => RR.out.drewN d; clear BB RR HB
          go_wp2_with fail
          go_quiet (fail)
          go_wp2
          go_roundw
          case rel => exact ⟨i + 1, bo, by omega, by go_num, NB.out, R5.out _, B5.out _⟩
          case measure => simp [intOf]; omega
      · have d3 : decide (X1 ≤ seq) = false := by simpa using hq
        have NB := hid (IsB.stay HB.out hiL.out (fun q => hq (by have := q.1.2; rw [← HX.out] at this; exact this))); have B5 : Hid (∀ d, Below w3.heap.size w3 (wr.drewN d)) := fun d => below_dN BB.out d; have R5 : Hid (∀ d, RA (wr.drewN d) w3.heap.size 46 #[.string (rawB bo).ky, .int .i64 (rawB bo).sq, .bool (rawB bo).gn, .string (rawB bo).tx]) := fun d => RR.out.drewN d; clear BB RR HB
        go_wp2_with fail
        go_quiet (fail)
        go_wp2
        go_roundw
        case rel => exact ⟨i + 1, bo, by omega, by go_num, NB.out, R5.out _, B5.out _⟩
        case measure => simp [intOf]; omega
    · have d2 : (X0.toList == key.toList) = false := by rw [kEq]; simpa using hk
      have NB := hid (IsB.stay HB.out hiL.out (fun q => hk (by have := q.1.1; rw [← HX.out] at this; exact this))); have B5 : Hid (∀ d, Below w3.heap.size w3 (wr.drewN d)) := fun d => below_dN BB.out d; have R5 : Hid (∀ d, RA (wr.drewN d) w3.heap.size 46 #[.string (rawB bo).ky, .int .i64 (rawB bo).sq, .bool (rawB bo).gn, .string (rawB bo).tx]) := fun d => RR.out.drewN d; clear BB RR HB
      go_wp2_with fail
      go_quiet (fail)
      go_wp2
      go_roundw
      case rel => exact ⟨i + 1, bo, by omega, by go_num, NB.out, R5.out _, B5.out _⟩
      case measure => simp [intOf]; omega
  · have d0 : ¬ (i : Int) < (N : Int) := by omega
    have ei : i = N := by omega
    have HE : Hid (IsB (fun e => e ∈ L) key seq bo) := by
     have := HB.out; rw [ei, HN.out, List.take_length] at this; exact this
    have RE := hid (R3.out.below BB.out R3.out.lt); have BE := hid (B3.out.trans (BB.out.mono B3.out.size)); have FE := hid (fnd_raw bo); have y0 := RR.out.cell 0; have y1 := RR.out.cell 1; have y2 := RR.out.cell 2; have y3 := RR.out.cell 3; obtain ⟨Y, hY⟩ : ∃ Y, Y = rawB bo := ⟨_, rfl⟩; rw [← hY] at y0 y1 y2 y3 FE; clear ei HB RR BB hY; obtain ⟨Y0, Y1, Y2, Y3⟩ := Y; dsimp only at y0 y1 y2 y3 FE
    cases Y2 with
    | true =>
     have FE2 := hid (FE.out); clear FE
     go_wp2_with (refine wpList_store_row rfl 46 (.tmp 6) (.tmp 51) rfl (w.heap.size + 1) #[.string ⟨#[]⟩, .int .i64 0, .bool false, .string ⟨#[]⟩] rfl rfl _ _ RE.out (by kernel_rfl) rfl (oneEn4 _ _ _ _) ?_)
     exact sl_ret (P := fun x _ => ∃ bo, IsB (fun e => e ∈ L) key seq bo ∧ x = fndE bo) (RE.out.setRow _) ⟨bo, HE.out, FE2.out.symm⟩ (below_setRow BE.out _ _ (by omega)) rfl
    | false =>
     have FE2 := hid (FE.out); clear FE
     go_wp2_with (refine wpList_store_row rfl 46 (.tmp 6) (.tmp 52) rfl (w.heap.size + 1) #[.string Y0, .int .i64 Y1, .bool false, .string Y3] rfl rfl _ _ RE.out (by kernel_rfl) rfl (oneEn4 _ _ _ _) ?_)
     exact sl_ret (P := fun x _ => ∃ bo, IsB (fun e => e ∈ L) key seq bo ∧ x = fndE bo) (RE.out.setRow _) ⟨bo, HE.out, FE2.out.symm⟩ (below_setRow BE.out _ _ (by omega)) rfl
end Go.Proofs.YtcbmgpdpjagaoaaGreat
