import Derived.Test.YtekdphfifdfmbaaSRun2
import Derived.Test.YtekdphfifdfmbaaTabM
namespace Go.Proofs.Ytekdphfifdfmbaa
open Go.RowKit
/-! The specification's TableFault. -/
set_option maxRecDepth 20000 in
set_option maxHeartbeats 8000000 in
theorem sTabF (s f : Int) (a0 : Option Addr) (n0 c0 : Nat) (o0 : Nat → En) (a : Option Addr) (m cap : Nat) (R : Nat → Rn) (hn : n0 ≤ 1048576) (hm : m ≤ 1048576) (hs : ∀ k, k < n0 → (o0 k).ky.size ≤ 1048576 ∧ (o0 k).tx.size ≤ 1048576) (hz : RnSz R m) (w : World) (h0 : Ens w a0 n0 c0 o0) (h : Rns w a m cap R) :
    Calls Try.prog 43 #[.agg #[.int .i64 s, .int .i64 f, .slice a0 n0 c0, .slice a m cap]] w fun e w' => e = .returned (.int .i64 (tabV s f n0 o0 m R)) ∧ Below w.heap.size w w' := by
  obtain ⟨W1, hW1⟩ : ∃ W, W = w.alloc (.cells #[.int .i64 s, .int .i64 f, .slice a0 n0 c0, .slice a m cap] 53) := ⟨_, rfl⟩
  have R1 : Hid (RowAt W1 w.heap.size 53 #[.int .i64 s, .int .i64 f, .slice a0 n0 c0, .slice a m cap]) := by rw [hW1]; exact RowAt.new _ _ _
  have B1 : Hid (Below w.heap.size w W1) := by rw [hW1]; exact balEn (Below.refl _ _) _
  have K0 := hid (sRunF a0 n0 c0 o0 hn hs W1 (h0.below B1.out))
  have H0 := hid h0
  have HH := hid h
  have HZ := hid hz
  have HW1 := hid hW1
  clear hW1 h0 h hs hz
  have r0 := R1.out.cell 0
  have r1 := R1.out.cell 1
  have r2 := R1.out.cell 2
  have r3 := R1.out.cell 3
  by_cases q1 : s < 0
  · have E : Hid (tabV s f n0 o0 m R = 1) := tabV_no fun h => by have := h.1.2.1; have := h.1.2.2.1; omega
    go_enter Try.func43, Try.ntmps43
    go_upto_region 1 with fail
    rw [← HW1.out]
    go_wp2
    go_ret
    exact ⟨by rw [E.out]; rfl, B1.out⟩
  by_cases q2 : 4611686018427387904 < s
  · have E : Hid (tabV s f n0 o0 m R = 1) := tabV_no fun h => by have := h.1.1; omega
    go_enter Try.func43, Try.ntmps43
    go_upto_region 1 with fail
    rw [← HW1.out]
    go_wp2
    go_ret
    exact ⟨by rw [E.out]; rfl, B1.out⟩
  by_cases q3 : f < 0
  · have E : Hid (tabV s f n0 o0 m R = 1) := tabV_no fun h => by have := h.1.2.1; omega
    go_enter Try.func43, Try.ntmps43
    go_upto_region 1 with fail
    rw [← HW1.out]
    go_wp2
    go_ret
    exact ⟨by rw [E.out]; rfl, B1.out⟩
  by_cases q4 : s < f
  · have E : Hid (tabV s f n0 o0 m R = 1) := tabV_no fun h => by have := h.1.2.2.1; omega
    go_enter Try.func43, Try.ntmps43
    go_upto_region 1 with fail
    rw [← HW1.out]
    go_wp2
    go_ret
    exact ⟨by rw [E.out]; rfl, B1.out⟩
  by_cases q5 : (20 : Int) < (m : Int)
  · have E : Hid (tabV s f n0 o0 m R = 1) := tabV_no fun h => by have := h.1.2.2.2; omega
    go_enter Try.func43, Try.ntmps43
    go_upto_region 1 with fail
    rw [← HW1.out]
    go_wp2
    go_ret
    exact ⟨by rw [E.out]; rfl, B1.out⟩
  have HD : Hid (hdOk s f m) := ⟨by omega, by omega, by omega, by omega⟩
  by_cases q6 : runOk n0 o0
  case neg =>
    rw [runV_no q6] at K0
    have E : Hid (tabV s f n0 o0 m R = 1) := tabV_no fun h => q6 h.2.1
    clear q6
    go_enter Try.func43, Try.ntmps43
    go_upto_region 1 with fail
    rw [← HW1.out]
    go_wp2_with fail
    refine K0.out.mono ?_
    rintro e w2 ⟨rfl, hb2⟩
    have B2 := hid (B1.out.trans (hb2.mono B1.out.size))
    clear hb2 K0
    go_wp2
    go_ret
    exact ⟨by rw [E.out]; rfl, B2.out⟩
  rw [runV_ok q6] at K0
  have Q6 := hid q6
  clear q6
  go_enter Try.func43, Try.ntmps43
  go_upto_region 1 with fail
  rw [← HW1.out]
  go_wp2_with fail
  refine K0.out.mono ?_
  rintro e w2 ⟨rfl, hb2⟩
  have R2 := hid (R1.out.below hb2 R1.out.lt)
  have B2 := hid (B1.out.trans (hb2.mono B1.out.size))
  clear hb2 K0 r0 r1 r2 r3 R1 B1 HW1 q1 q2 q3 q4
  go_wp2_with fail
  go_loopw [5, 3, 4] (fun q v c wr => ∃ k : Nat, k ≤ m ∧ q = .int .i64 k ∧ c = .int .i64 (cntR R k : Nat) ∧ tabTo s R k ∧ OwnNums wr w2.heap.size 2 .i64 v (sqA R k) ∧ Below w2.heap.size w2 wr) (fun q _ _ _ => m - (intOf q).toNat)
  case atStart => exact ⟨0, Nat.zero_le _, rfl, rfl, ⟨fun i hi => absurd hi (by omega), Nat.zero_le _, List.nodup_nil, fun v hv => by cases hv⟩, OwnNums.empty w2 _ _, (Below.refl _ _).alloc (Nat.le_refl _) _⟩
  case round =>
    obtain ⟨k, hk, rfl, rfl, hT, hO, hB⟩ := hrel
    have HT := hid hT
    have HO := hid hO
    have HB := hid hB
    have HWB : Hid (Below w.heap.size w wr) := B2.out.trans (hB.mono B2.out.size)
    have hRR := R2.out.below hB R2.out.lt
    have HR := hid hRR
    have r0 := hRR.cell 0
    have r2 := hRR.cell 2
    have r3 := hRR.cell 3
    clear hT hO hB hRR
    by_cases hlt : k < m
    · have hlt' : (k : Int) < (m : Int) := by omega
      have k0 : (0 : Int) ≤ (k : Int) := by omega
      rcases (HH.out.below HWB.out).2.1 with h00 | ⟨b, off, rfl, hbl, hcc⟩
      · omega
      have c0 := hcc k hlt
      have hE := hid (HH.out.2.2 k hlt)
      obtain ⟨z1, z2⟩ := HZ.out k hlt
      have K := hid (sRunF (R k).ad (R k).n (R k).cap (R k).o z1 z2 wr (hE.out.below HWB.out))
      have hS1 := HT.out.2.1
      have HC : Hid (cntR R (k + 1) = cntR R k + (R k).n) := rfl
      have HA : Hid (sqA R (k + 1) = sqA R k ++ sqL (R k).o (R k).n) := rfl
      by_cases hok : runOk (R k).n (R k).o
      case neg =>
        rw [runV_no hok] at K
        have E : Hid (tabV s f n0 o0 m R = 1) := tab_no (k := k + 1) (by omega) fun q => hok (q.1 k (by omega))
        obtain ⟨A, hA⟩ : ∃ v, v = (R k).ad := ⟨_, rfl⟩
        obtain ⟨N, hN'⟩ : ∃ v, v = (R k).n := ⟨_, rfl⟩
        obtain ⟨C, hC⟩ : ∃ v, v = (R k).cap := ⟨_, rfl⟩
        rw [← hA, ← hN', ← hC] at c0 K
        clear hcc hA hN' hC hok z1 z2 hS1
        go_wp2_with fail
        refine K.out.mono ?_
        rintro e w3 ⟨rfl, hb3⟩
        have B3 := hid (HWB.out.trans (hb3.mono HWB.out.size))
        clear hb3 K
        go_wp2
        go_ret
        exact ⟨by rw [E.out]; rfl, B3.out⟩
      rw [runV_ok hok] at K
      have HOK := hid hok
      have HP := hid (partTo_zero HT.out)
      have HCELL : Hid (∀ wx, Below w.heap.size w wx → wx.cell? ⟨b, off + k, none⟩ = some (.slice (R k).ad (R k).n (R k).cap)) := fun wx hb => by
        rcases HH.out.2.1 with h00 | ⟨b', off', he, hbw, hcw⟩
        · omega
        · cases he; exact (hb.cell (p := ⟨b, off + k, none⟩) hbw).trans (hcw k hlt)
      have Z0 : Hid (sqA R k ++ sqL (R k).o 0 = sqA R k) := by show _ = _; simp [sqL]
      have HLA : Hid ((sqA R k).length ≤ 1000) := by show _ ≤ _; rw [sqA_len]; exact hS1
      obtain ⟨A, hA⟩ : ∃ v, v = (R k).ad := ⟨_, rfl⟩
      obtain ⟨N, hN'⟩ : ∃ v, v = (R k).n := ⟨_, rfl⟩
      obtain ⟨C, hC⟩ : ∃ v, v = (R k).cap := ⟨_, rfl⟩
      obtain ⟨S, hS⟩ : ∃ v, v = cntR R k := ⟨_, rfl⟩
      rw [← hA, ← hN', ← hC] at c0 K HCELL
      rw [← hA, ← hN', ← hC] at hE
      rw [← hN'] at z1
      rw [← hS] at hS1 ⊢
      rw [← hS, ← hN'] at HC
      have HNN := hid hN'
      clear hcc hA hN' hC hok z2 hS
      have hw : IntKind.i64.wrap ((S : Int) + (N : Int)) = ((S + N : Nat) : Int) := by simp [IntKind.wrap, IntKind.bits, IntKind.signed]; omega
      go_wp2_with fail
      refine K.out.mono ?_
      rintro e w3 ⟨rfl, hb3⟩
      have R3 := hid (HR.out.below hb3 HR.out.lt)
      have c3 := (hb3.cell (p := ⟨b, off + k, none⟩) hbl).trans c0
      have O3 := hid (OwnNums.nx hb3 HO.out)
      have B3 := hid (HB.out.trans (hb3.mono HB.out.size))
      have hbl3 : b < w3.heap.size := Nat.lt_of_lt_of_le hbl hb3.size
      have r33 := R3.out.cell 3
      clear hb3 K c0 r0 r2 r3 HR HO HB HWB hbl
      by_cases hbig : 1000 < S + N
      · have d : (1000 : Int) < ((S + N : Nat) : Int) := by omega
        have E : Hid (tabV s f n0 o0 m R = 1) := tab_no (k := k + 1) (by omega) fun q => by have := q.2.1; rw [HC.out] at this; omega
        go_wp2
        go_ret
        exact ⟨by rw [E.out]; rfl, B2.out.trans (B3.out.mono B2.out.size)⟩
      have d : ¬ (1000 : Int) < ((S + N : Nat) : Int) := by omega
      have HC2 : Hid (cntR R (k + 1) ≤ 1000) := by show _ ≤ _; rw [HC.out]; omega
      go_wp2_with fail
      have HSN : Hid (((cntR R (k + 1) : Nat) : Int) = (S : Int) + (N : Int)) := by show _ = _; rw [HC.out]; simp
      clear hw d hbig hS1
      go_loopw [6, 3] (fun q v wr => ∃ j : Nat, j ≤ N ∧ q = .int .i64 j ∧ partTo s R k j ∧ OwnNums wr w2.heap.size 2 .i64 v (sqA R k ++ sqL (R k).o j) ∧ Below w2.heap.size w2 wr) (fun q _ _ => N - (intOf q).toNat)
      case atStart => exact ⟨0, Nat.zero_le _, rfl, HP.out, by rw [Z0.out]; exact O3.out, B3.out⟩
      case round =>
        obtain ⟨j, hj, rfl, hPj, hO, hB⟩ := hrel
        have JP := hid hPj
        have JB := hid hB
        have JW : Hid (Below w.heap.size w wr) := B2.out.trans (hB.mono B2.out.size)
        have HR := hid (R2.out.below hB R2.out.lt)
        have r3 := HR.out.cell 3
        obtain ⟨ys, hys⟩ : ∃ ys, ys = sqA R k ++ sqL (R k).o j := ⟨_, rfl⟩
        rw [← hys] at hO
        have HY := hid hys
        obtain ⟨av, cv, rfl, hI, hcv⟩ := own_intsR hO
        have JO := hid hO
        have JI := hid hI
        have HLJ : Hid (ys.length ≤ 1048576) := by show _ ≤ _; rw [hys, List.length_append, sqL_len]; have := HLA.out; omega
        have cR := HCELL.out wr JW.out
        clear hPj hB hO hI hcv hys R3 O3 B3 c3 r33
        by_cases hjl : j < N
        · have hjl' : (j : Int) < (N : Int) := by omega
          have j0 : (0 : Int) ≤ (j : Int) := by omega
          rcases (hE.out.below JW.out).2 with h00 | ⟨g, of, rfl, hgl, hcc⟩
          · omega
          obtain ⟨_, c1, _, _⟩ := hcc j hjl
          have r0 := HR.out.cell 0
          have hpn := hid (part_no (s := s) (R := R) (k := k) (j := j) (by rw [← HNN.out]; exact hjl))
          have hps := hid (partTo_succ (s := s) (R := R) (k := k) (j := j) JP.out)
          have HSQ : Hid (sqA R k ++ sqL (R k).o (j + 1) = sqA R k ++ sqL (R k).o j ++ [((R k).o j).sq]) := by show _ = _; rw [sqL_succ, List.append_assoc]
          obtain ⟨X, hX⟩ : ∃ v, v = ((R k).o j).sq := ⟨_, rfl⟩
          rw [← hX] at c1 hpn hps HSQ
          rw [← HY.out] at hpn hps HSQ
          clear hcc hX
          by_cases hq : s < X
          · have E : Hid (tabV s f n0 o0 m R = 1) := tab_no (k := k + 1) (by omega) (hpn.out (.inl hq))
            go_wp2
            go_ret
            exact ⟨by rw [E.out]; rfl, JW.out⟩
          have KI := hid (sInI8 av _ cv _ X HLJ.out wr JI.out)
          cases hin : decide (X ∈ ys) with
          | true =>
            have E : Hid (tabV s f n0 o0 m R = 1) := tab_no (k := k + 1) (by omega) (hpn.out (.inr (by simpa using hin)))
            rw [hin] at KI
            clear hin
            go_wp2_with fail
            refine KI.out.mono ?_
            rintro e w4 ⟨rfl, rfl⟩
            go_wp2
            go_ret
            exact ⟨by rw [E.out]; rfl, JW.out⟩
          | false =>
            have E : Hid (partTo s R k (j + 1)) := hps.out (by omega) (by simpa using hin)
            have HLL : Hid (ys.length ≤ 17592186044414) := by show _ ≤ _; have := HLJ.out; omega
            rw [hin] at KI
            clear hin
            go_wp2_with fail
            refine KI.out.mono ?_
            rintro e w4 ⟨rfl, rfl⟩
            clear KI r0 r3 c1
            go_wp2_with (refine append_num w2 w4 (by rfl) (.tmp 99) (.tmp 101) 31 (by rfl) 2 .i64 8 Try.underlying31 Try.info64 (by decide) _ _ X (by rfl) JO.out JB.out (by rfl) HLL.out ?_; intro v' w6 hown' hbel' hsome)
            go_roundw
            case rel => exact ⟨j + 1, by omega, by go_num, E.out, by rw [HSQ.out]; exact hown', hbel'⟩
            case measure => simp [intOf]; omega
        · have hjl' : ¬ (j : Int) < (N : Int) := by omega
          have hje : j = N := by omega
          subst hje
          have T2 : Hid (tabTo s R (k + 1)) := tabTo_succ HT.out HOK.out HC2.out (by rw [← HNN.out]; exact JP.out)
          have O9 : Hid (OwnNums wr w2.heap.size 2 .i64 (.slice av ys.length cv) (sqA R (k + 1))) := by rw [HA.out, ← HNN.out, ← HY.out]; exact JO.out
          go_wp2
          go_roundw
          case rel => exact ⟨k + 1, by omega, by go_num, by rw [HSN.out], T2.out, O9.out, JB.out⟩
          case measure => simp [intOf]; omega
    · have hlt' : ¬ (k : Int) < (m : Int) := by omega
      have hke : k = m := by omega
      subst hke
      have hS1 := HT.out.2.1
      have hAl : (sqA R k).length = cntR R k := sqA_len R k
      have HNO : Hid (¬ (cntR R k + n0 ≤ 1000) → tabV s f n0 o0 k R = 1) := fun h => tabV_no fun q => h q.2.2.2.1
      have HNF : Hid (∀ i, i < n0 → ¬ ((o0 i).sq ≤ s ∧ ∀ v ∈ sqA R k, v < (o0 i).sq) → tabV s f n0 o0 k R = 1) := fun i hi h => tabV_no fun q => h (q.2.2.2.2 i hi)
      have HOK : Hid (cntR R k + n0 ≤ 1000 → frTo s (sqA R k) o0 n0 → tabV s f n0 o0 k R = 0) := fun h1 h2 => tabV_ok ⟨HD.out, Q6.out, HT.out, h1, h2⟩
      obtain ⟨TV, hTV⟩ : ∃ v, v = tabV s f n0 o0 k R := ⟨_, rfl⟩
      rw [← hTV] at HNO HNF HOK
      have HTV := hid hTV
      obtain ⟨av, cv, rfl, hI, hcv⟩ := own_intsR HO.out
      have HI := hid hI
      obtain ⟨S, hS⟩ : ∃ v, v = cntR R k := ⟨_, rfl⟩
      rw [← hS] at hS1 hAl HNO HOK ⊢
      obtain ⟨A, hA⟩ : ∃ A, A = sqA R k := ⟨_, rfl⟩
      rw [← hA] at hAl HNF HOK HI ⊢
      have hw : IntKind.i64.wrap ((S : Int) + (n0 : Int)) = ((S + n0 : Nat) : Int) := by simp [IntKind.wrap, IntKind.bits, IntKind.signed]; omega
      have E0 := hid (H0.out.below HWB.out)
      have HAL := hid hAl
      clear hTV hI hcv hS hA hAl HT HO HB HD Q6
      by_cases hbig : 1000 < S + n0
      · have d : (1000 : Int) < ((S + n0 : Nat) : Int) := by omega
        have E : Hid (TV = 1) := HNO.out (by omega)
        go_wp2
        go_ret
        exact ⟨by rw [← HTV.out, E.out]; rfl, HWB.out⟩
      have d : ¬ (1000 : Int) < ((S + n0 : Nat) : Int) := by omega
      have HOK2 : Hid (frTo s A o0 n0 → TV = 0) := HOK.out (by omega)
      have hAb : A.length ≤ 1000 := by rw [HAL.out]; exact hS1
      go_wp2_with fail
      obtain ⟨W9, rfl⟩ : ∃ W : World, W = wr := ⟨wr, rfl⟩
      clear hw d hbig hS1 HNO HOK r0 r2 r3
      go_loopw [8] (fun q wx => ∃ i : Nat, i ≤ n0 ∧ q = .int .i64 i ∧ frTo s A o0 i ∧ wx = W9) (fun q _ => n0 - (intOf q).toNat)
      case atStart => exact ⟨0, Nat.zero_le _, rfl, fun j hj => absurd hj (by omega), rfl⟩
      case round =>
        obtain ⟨i, hi, rfl, hf, rfl⟩ := hrel
        have HF := hid hf
        clear hf
        have r0 := HR.out.cell 0
        have r2 := HR.out.cell 2
        by_cases hil : i < n0
        · have hil' : (i : Int) < (n0 : Int) := by omega
          have i0 : (0 : Int) ≤ (i : Int) := by omega
          rcases E0.out.2 with h00 | ⟨g, of, rfl, hgl, hcc⟩
          · omega
          obtain ⟨_, c1, _, _⟩ := hcc i hil
          have HN2 := hid (HNF.out i hil)
          have HS2 : Hid ((o0 i).sq ≤ s → (∀ v ∈ A, v < (o0 i).sq) → frTo s A o0 (i + 1)) := fun h1 h2 j hj => by
            by_cases e : j = i
            · subst e; exact ⟨h1, h2⟩
            · exact HF.out j (by omega)
          obtain ⟨X, hX⟩ : ∃ v, v = (o0 i).sq := ⟨_, rfl⟩
          rw [← hX] at c1 HN2 HS2
          clear hcc hX
          by_cases hq : s < X
          · have E : Hid (TV = 1) := HN2.out fun h => by have := h.1; omega
            go_wp2
            go_ret
            exact ⟨by rw [← HTV.out, E.out]; rfl, HWB.out⟩
          have HS3 : Hid ((∀ v ∈ A, v < X) → frTo s A o0 (i + 1)) := HS2.out (by omega)
          go_wp2_with fail
          clear c1 r0 r2 hq HS2
          obtain ⟨V9, rfl⟩ : ∃ W : World, W = wr := ⟨wr, rfl⟩
          go_loopw [10] (fun q wx => ∃ t : Nat, t ≤ A.length ∧ q = .int .i64 t ∧ (∀ u, u < t → A.getD u 0 < X) ∧ wx = V9) (fun q _ => A.length - (intOf q).toNat)
          case atStart => exact ⟨0, Nat.zero_le _, rfl, fun u hu => absurd hu (by omega), rfl⟩
          case round =>
            obtain ⟨t, ht, rfl, hu, rfl⟩ := hrel
            have HU := hid hu
            clear hu
            by_cases htl : t < A.length
            · have htl' : (t : Int) < (A.length : Int) := by omega
              have t0 : (0 : Int) ≤ (t : Int) := by omega
              rcases HI.out.2.2 with h00 | ⟨b, off, rfl, hbl, hcc⟩
              · omega
              have c2 := hcc t htl
              obtain ⟨Y, hY⟩ : ∃ v, v = A.getD t 0 := ⟨_, rfl⟩
              rw [← hY] at c2
              have HY := hid hY
              clear hcc hY
              by_cases hle : X ≤ Y
              · have E : Hid (TV = 1) := HN2.out fun h => by
                  have := h.2 Y (by rw [HY.out]; simp [htl])
                  omega
                go_wp2
                go_ret
                exact ⟨by rw [← HTV.out, E.out]; rfl, HWB.out⟩
              · have U2 : Hid (∀ u, u < t + 1 → A.getD u 0 < X) := fun u hu => by
                  by_cases e : u = t
                  · subst e; rw [← HY.out]; omega
                  · exact HU.out u (by omega)
                go_wp2
                go_roundw
                case rel => exact ⟨t + 1, by omega, by go_num, U2.out, trivial⟩
                case measure => simp [intOf]; omega
            · have htl' : ¬ (t : Int) < (A.length : Int) := by omega
              have F2 : Hid (frTo s A o0 (i + 1)) := HS3.out fun v hv => by
                obtain ⟨u, hul, rfl⟩ := List.getElem_of_mem hv
                have := HU.out u (by omega)
                simpa [hul] using this
              go_wp2
              go_roundw
              case rel => exact ⟨i + 1, by omega, by go_num, F2.out, trivial⟩
              case measure => simp [intOf]; omega
        · have hil' : ¬ (i : Int) < (n0 : Int) := by omega
          have hie : i = n0 := by omega
          subst hie
          have E : Hid (TV = 0) := HOK2.out HF.out
          go_wp2
          go_ret
          exact ⟨by rw [← HTV.out, E.out]; rfl, HWB.out⟩
end Go.Proofs.Ytekdphfifdfmbaa
