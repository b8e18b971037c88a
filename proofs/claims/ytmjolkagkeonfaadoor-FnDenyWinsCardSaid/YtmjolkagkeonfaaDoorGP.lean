import Derived.Test.YtmjolkagkeonfaaDoorGG
import Derived.Test.YtmjolkagkeonfaaDoorGH
import Derived.Test.YtmjolkagkeonfaaDoorJdM
import Derived.Deep.RegionLaw
import Derived.Deep.QuietTactic
namespace Go.Proofs.YtmjolkagkeonfaaDoor
open Go.RowKit
/-! FnExactPolicyFault. -/
set_option maxRecDepth 20000 in
set_option maxHeartbeats 4000000 in
theorem iPolF (a : Option Addr) (m cap : Nat) (R : Nat → St) (hm : m ≤ 1048576) (hs : ∀ k, k < m → StB (R k) 1048576) (w : World) (h : Sts w a m cap R) :
    Calls Tryd.prog 13 #[.slice a m cap] w fun e w' => e = .returned (.int .i64 (plV m R)) ∧ Below w.heap.size w w' := by
  have hmf : ∀ (fn : Fn) (first cap : Array Value) (w : World), (Instr.makeFunc fn first cap).run Tryd.prog w = .ok (.func fn first cap) w := fun _ _ _ _ => rfl
  obtain ⟨W0, hW0⟩ : ∃ W, W = w.alloc (.cells #[.slice a m cap] 23) := ⟨_, rfl⟩
  have B0 : Hid (Below w.heap.size w W0) := by rw [hW0]; exact balCn (Below.refl _ _) _
  have R0 : Hid (RowAt W0 w.heap.size 23 #[.slice a m cap]) := by rw [hW0]; exact RowAt.new _ _ _
  have K := hid (iCaught w.heap.size a m cap R hm hs W0 R0.out.lt (R0.out.cell 0) (h.below B0.out))
  clear h hs
  go_enter Tryd.func13, Tryd.ntmps13
  go_wp2_with fail
  rw [← hW0]
  clear hW0
  refine K.out.mono ?_
  rintro e w2 ⟨⟨c, l, rfl, hc⟩, hb2⟩
  have B2 : Hid (Below w.heap.size w (w2.alloc (.cells #[.int .i64 c, .int .i64 l] 54))) := balCn (B0.out.trans (hb2.mono B0.out.size)) _
  clear hb2 K
  by_cases c0 : c = 0
  · have N : Hid (plV m R = 0) := by show _ = _; unfold plV; rw [pb_t (hc.1 c0)]; rfl
    have b0 : (c != 0) = false := by simp [c0]
    clear hc
    subst c0
    go_wp2
    go_ret
    exact ⟨by rw [N.out]; rfl, B2.out⟩
  · have N : Hid (plV m R = 1) := by show _ = _; unfold plV; rw [pb_f (fun hh => c0 (hc.2 hh))]; rfl
    have b0 : (c != 0) = true := by simpa using c0
    clear hc
    go_wp2
    go_ret
    exact ⟨by rw [N.out]; rfl, B2.out⟩
end Go.Proofs.YtmjolkagkeonfaaDoor
namespace Go.Proofs.YtmjolkagkeonfaaDoor
open Go.RowKit
set_option linter.unusedVariables false
/-! The specification's Judge. -/
theorem plV_0 {m : Nat} {R : Nat → St} : plV m R = 0 ↔ plP m R := by
  unfold plV
  by_cases h : plP m R
  · rw [pb_t h]; simp [h]
  · rw [pb_f h]; simp [h]
theorem below_dr {W w : World} (h : Below W.heap.size W w) (n : Nat) : Below W.heap.size W (w.drewN n) := ⟨h.os, h.tape, h.output, h.size, h.block⟩
set_option maxRecDepth 20000 in
set_option maxHeartbeats 16000000 in
theorem sJudge (a : Option Addr) (m cap : Nat) (R : Nat → St) (hm : m ≤ 1048576) (hs : ∀ k, k < m → StB (R k) 1048576) (q : Aq) (hq : AqB q) (w : World) (h : Sts w a m cap R) :
    Calls Tryd.prog 6 #[.slice a m cap, .agg #[.string q.wo, .string q.wa, .string q.wi, .string q.fr, .int .i64 q.tm]] w fun e w' => e = .returned (.int .i64 (jdV m R q)) ∧ Below w.heap.size w w' := by
  obtain ⟨W1, hW1⟩ : ∃ W, W = w.alloc (.cells #[.string q.wo, .string q.wa, .string q.wi, .string q.fr, .int .i64 q.tm] 25) := ⟨_, rfl⟩
  have B1 : Hid (Below w.heap.size w W1) := by rw [hW1]; exact (Below.refl _ _).alloc (Nat.le_refl _) _
  have Q1 : Hid (RowAt W1 w.heap.size 25 #[.string q.wo, .string q.wa, .string q.wi, .string q.fr, .int .i64 q.tm]) := by rw [hW1]; exact RowAt.new _ _ _
  have KP := hid (sPolF a m cap R hm hs W1 (h.below B1.out))
  have HH : Hid (∀ wx, Below w.heap.size w wx → Sts wx a m cap R) := fun wx hb => h.below hb
  have KF : ∀ k, k < m → ∀ wx, Below w.heap.size w wx → Hid (Calls Tryd.prog 16 #[.agg #[.int .i64 (R k).ef, .slice (R k).wo.ad (R k).wo.n (R k).wo.cap, .slice (R k).wa.ad (R k).wa.n (R k).wa.cap, .slice (R k).wi.ad (R k).wi.n (R k).wi.cap, .slice (R k).cs.ad (R k).cs.n (R k).cs.cap], .agg #[.string q.wo, .string q.wa, .string q.wi, .string q.fr, .int .i64 q.tm]] wx fun e w' => e = .returned (.bool (pb (hitP (R k) q))) ∧ Below wx.heap.size wx w') := fun k hk wx hb => sFits (R k) (hs k hk) q hq wx ((h.below hb).2.2 k hk)
  have HKF := hid KF
  obtain ⟨PV, hPV⟩ : ∃ v, v = plV m R := ⟨_, rfl⟩
  have HPV := hid (hPV ▸ plV_0 (m := m) (R := R))
  rw [← hPV] at KP
  have QR : Hid (∀ wx, Below W1.heap.size W1 wx → RowAt wx w.heap.size 25 #[.string q.wo, .string q.wa, .string q.wi, .string q.fr, .int .i64 q.tm]) := fun wx hb => Q1.out.below hb Q1.out.lt
  have JV : Hid ((¬ plP m R → jdV m R q = 0) ∧ (plP m R → dnP m R q → jdV m R q = 2) ∧ (plP m R → ¬ dnP m R q → alP m R q → jdV m R q = 1) ∧ (plP m R → ¬ dnP m R q → ¬ alP m R q → jdV m R q = 0)) := ⟨jdV_no, jdV_2, jdV_1, jdV_0⟩
  obtain ⟨V, hV⟩ : ∃ V, V = jdV m R q := ⟨_, rfl⟩
  rw [← hV] at JV ⊢
  have DN : Hid (∀ k, k < m → (R k).ef = 2 → hitP (R k) q → dnP m R q) := fun k hk e1 e2 => ⟨k, hk, e1, e2⟩
  have ALW : Hid (∀ k, k < m → hitP (R k) q → alP m R q) := fun k hk e2 => ⟨k, hk, e2⟩
  have NDN : Hid ((∀ i, i < m → ¬ ((R i).ef = 2 ∧ hitP (R i) q)) → ¬ dnP m R q) := fun z ⟨k, hk, e⟩ => z k hk e
  have NAL : Hid ((∀ i, i < m → ¬ hitP (R i) q) → ¬ alP m R q) := fun z ⟨k, hk, e⟩ => z k hk e
  clear h hs hq KF hPV hV
  obtain ⟨qwo, qwa, qwi, qfr, qtm⟩ := q
  dsimp only at HKF Q1 QR hW1 ⊢
  go_enter Tryd.func6, Tryd.ntmps6
  go_upto_region 1 with fail
  rw [← hW1]
  clear hW1
  go_wp2_with fail
  refine KP.out.mono ?_
  rintro e w2 ⟨rfl, hb⟩
  have B2 : Hid (Below W1.heap.size W1 w2) := hb
  have BW : Hid (∀ wx, Below W1.heap.size W1 wx → Below w.heap.size w wx) := fun wx hx => B1.out.trans (hx.mono B1.out.size)
  clear hb KP
  by_cases h0 : PV = 0
  case neg =>
    have d0 : (PV == 0) = false := beq_eq_false_iff_ne.2 h0
    have E := hid (JV.out.1 (fun z => h0 (HPV.out.2 z)))
    go_wp2
    go_ret
    exact ⟨by rw [E.out]; rfl, BW.out _ B2.out⟩
  have PL := hid (HPV.out.1 h0)
  clear HPV
  subst h0
  go_wp2_with fail
  go_loopw [5] (fun v wr => ∃ k : Nat, k ≤ m ∧ v = .int .i64 k ∧ (∀ i, i < k → ¬ ((R i).ef = 2 ∧ hitP (R i) ⟨qwo, qwa, qwi, qfr, qtm⟩)) ∧ Below W1.heap.size W1 wr) (fun v _ => m - (intOf v).toNat)
  case atStart => exact ⟨0, Nat.zero_le _, rfl, fun i hi => absurd hi (Nat.not_lt_zero _), B2.out⟩
  case round =>
    obtain ⟨k, hk, rfl, hno, hB⟩ := hrel
    have NO := hid hno
    have HB := hid hB
    clear hno hB
    by_cases hlt : k < m
    · have hlt' : (k : Int) < (m : Int) := by omega
      have k0 : (0 : Int) ≤ (k : Int) := by omega
      have QX := hid (QR.out wr HB.out)
      have q0 := QX.out.cell 0
      have q1 := QX.out.cell 1
      have q2 := QX.out.cell 2
      have q3 := QX.out.cell 3
      have q4 := QX.out.cell 4
      have ST := HH.out wr (BW.out _ HB.out)
      rcases ST.2.1 with h00 | ⟨b, off, rfl, hbl, hc⟩
      · omega
      obtain ⟨c0, c1, c2, c3, c4⟩ := hc k hlt
      have KX := fun wx (hb : Below wr.heap.size wr wx) => HKF.out k hlt wx (BW.out _ (HB.out.trans (hb.mono HB.out.size)))
      have DK := hid (DN.out k hlt)
      have NK : Hid (¬ ((R k).ef = 2 ∧ hitP (R k) ⟨qwo, qwa, qwi, qfr, qtm⟩) → ∀ i, i < k + 1 → ¬ ((R i).ef = 2 ∧ hitP (R i) ⟨qwo, qwa, qwi, qfr, qtm⟩)) := fun z i hi => by
        by_cases e : i = k
        · subst e; exact z
        · exact NO.out i (by omega)
      clear ST hc
      generalize R k = S at c0 c1 c2 c3 c4 KX DK NK
      obtain ⟨bv, hbv⟩ : ∃ b, b = pb (hitP S ⟨qwo, qwa, qwi, qfr, qtm⟩) := ⟨_, rfl⟩
      rw [← hbv] at KX
      have HBV := hid hbv
      clear hbv
      have SE := hid (show S.ef = S.ef from rfl)
      by_cases e2 : S.ef = 2
      · have HE2 := hid e2
        rw [e2] at c0 KX
        obtain ⟨ef, ⟨a1, n1, x1, t1⟩, ⟨a2, n2, x2, t2⟩, ⟨a3, n3, x3, t3⟩, ⟨a4, n4, x4, o4⟩⟩ := S
        dsimp only at c1 c2 c3 c4 KX
        clear e2
        go_upto_region 6 with fail
        go_region_law (go_simp; go_at_call 16; refine (KX _ (by first | exact Below.refl _ _ | exact (Below.refl _ _).drew)).out.mono ?_; rintro e w7 ⟨rfl, hb7'⟩; have b7 : Hid (Below wr.heap.size wr w7) := (by first | exact hb7' | exact (Below.refl _ _).drew.trans hb7'); clear hb7'; dsimp only)
        all_goals have B7 := hid (HB.out.trans (b7.out.mono HB.out.size))
        all_goals clear b7 KX c0 c1 c2 c3 c4 q0 q1 q2 q3 q4
        all_goals cases bv with
        | true =>
          have E := hid (JV.out.2.1 PL.out (DK.out HE2.out (pb_iff.1 HBV.out.symm)))
          go_wp2
          go_ret
          exact ⟨by rw [E.out]; rfl, BW.out _ B7.out⟩
        | false =>
          have N2 := hid (NK.out (fun z => pb_not.1 HBV.out.symm z.2))
          go_wp2
          go_roundw
          case rel => exact ⟨k + 1, by omega, by go_num, N2.out, B7.out⟩
          case measure => simp [intOf]; omega
      · have N2 := hid (NK.out (fun z => e2 z.1))
        have BD : Hid (∀ n, Below W1.heap.size W1 (wr.drewN n)) := fun n => below_dr HB.out n
        obtain ⟨ef, ⟨a1, n1, x1, t1⟩, ⟨a2, n2, x2, t2⟩, ⟨a3, n3, x3, t3⟩, ⟨a4, n4, x4, o4⟩⟩ := S
        dsimp only at c0 c1 c2 c3 c4 e2
        have d2 : (ef == 2) = false := beq_eq_false_iff_ne.2 e2
        clear KX
        go_upto_region 6 with fail
        go_quiet (fail)
        go_wp2
        go_roundw
        case rel => exact ⟨k + 1, by omega, by go_num, N2.out, BD.out _⟩
        case measure => simp [intOf]; omega
    · have hlt' : ¬ (k : Int) < (m : Int) := by omega
      have ND := hid (NDN.out (fun i hi => NO.out i (by omega)))
      obtain ⟨W3, hW3⟩ : ∃ W, W = wr := ⟨_, rfl⟩
      have B3 : Hid (Below W1.heap.size W1 W3) := by rw [hW3]; exact HB.out
      rw [← hW3]
      clear hW3 NO HB DN NDN
      go_wp2_with fail
      go_loopw [6] (fun v wr => ∃ k : Nat, k ≤ m ∧ v = .int .i64 k ∧ (∀ i, i < k → ¬ hitP (R i) ⟨qwo, qwa, qwi, qfr, qtm⟩) ∧ Below W1.heap.size W1 wr) (fun v _ => m - (intOf v).toNat)
      case atStart => exact ⟨0, Nat.zero_le _, rfl, fun i hi => absurd hi (Nat.not_lt_zero _), B3.out⟩
      case round =>
        rename World => wz
        obtain ⟨j, hj, rfl, hno, hB⟩ := hrel
        have NO := hid hno
        have HB := hid hB
        clear hno hB
        by_cases hjl : j < m
        · have hj' : (j : Int) < (m : Int) := by omega
          have j0 : (0 : Int) ≤ (j : Int) := by omega
          have QX := hid (QR.out wz HB.out)
          have q0 := QX.out.cell 0
          have q1 := QX.out.cell 1
          have q2 := QX.out.cell 2
          have q3 := QX.out.cell 3
          have q4 := QX.out.cell 4
          have ST := HH.out wz (BW.out _ HB.out)
          rcases ST.2.1 with h00 | ⟨b, off, rfl, hbl, hc⟩
          · omega
          obtain ⟨c0, c1, c2, c3, c4⟩ := hc j hjl
          have KX := fun wx (hb : Below wz.heap.size wz wx) => HKF.out j hjl wx (BW.out _ (HB.out.trans (hb.mono HB.out.size)))
          have AK := hid (ALW.out j hjl)
          have NK : Hid (¬ hitP (R j) ⟨qwo, qwa, qwi, qfr, qtm⟩ → ∀ i, i < j + 1 → ¬ hitP (R i) ⟨qwo, qwa, qwi, qfr, qtm⟩) := fun z i hi => by
            by_cases e : i = j
            · subst e; exact z
            · exact NO.out i (by omega)
          clear ST hc
          generalize R j = S at c0 c1 c2 c3 c4 KX AK NK
          obtain ⟨bv, hbv⟩ : ∃ b, b = pb (hitP S ⟨qwo, qwa, qwi, qfr, qtm⟩) := ⟨_, rfl⟩
          rw [← hbv] at KX
          have HBV := hid hbv
          clear hbv
          obtain ⟨ef, ⟨a1, n1, x1, t1⟩, ⟨a2, n2, x2, t2⟩, ⟨a3, n3, x3, t3⟩, ⟨a4, n4, x4, o4⟩⟩ := S
          dsimp only at c0 c1 c2 c3 c4 KX
          go_upto_region 11 with fail
          go_region_law (go_simp; go_at_call 16; refine (KX _ (by first | exact Below.refl _ _ | exact (Below.refl _ _).drew)).out.mono ?_; rintro e w7 ⟨rfl, hb7'⟩; have b7 : Hid (Below wz.heap.size wz w7) := (by first | exact hb7' | exact (Below.refl _ _).drew.trans hb7'); clear hb7'; dsimp only)
          all_goals have B7 := hid (HB.out.trans (b7.out.mono HB.out.size))
          all_goals clear b7 KX c0 c1 c2 c3 c4 q0 q1 q2 q3 q4
          all_goals cases bv with
          | true =>
            have E := hid (JV.out.2.2.1 PL.out ND.out (AK.out (pb_iff.1 HBV.out.symm)))
            go_wp2
            go_ret
            exact ⟨by rw [E.out]; rfl, BW.out _ B7.out⟩
          | false =>
            have N2 := hid (NK.out (pb_not.1 HBV.out.symm))
            go_wp2
            go_roundw
            case rel => exact ⟨j + 1, by omega, by go_num, N2.out, B7.out⟩
            case measure => simp [intOf]; omega
        · have hj' : ¬ (j : Int) < (m : Int) := by omega
          have E := hid (JV.out.2.2.2 PL.out ND.out (NAL.out (fun i hi => NO.out i (by omega))))
          go_wp2
          go_ret
          exact ⟨by rw [E.out]; rfl, BW.out _ HB.out⟩
end Go.Proofs.YtmjolkagkeonfaaDoor
