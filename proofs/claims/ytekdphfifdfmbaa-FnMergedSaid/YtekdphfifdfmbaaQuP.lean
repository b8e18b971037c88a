import Derived.Test.YtekdphfifdfmbaaQuR2
namespace Go.Proofs.Ytekdphfifdfmbaa
open Go.RowKit
set_option linter.unusedVariables false
/-! The library's Push, Fix and Pop over the queue. -/
/-- a queue, empty or not -/
structure QH (W0 w : World) (q n : Nat) (H : Nat → Nat) (cu : Nat → Cu) : Prop where
  old : Below W0.heap.size W0 w
  row : ∃ v, RowAt w q 107 #[.func (.func 70) #[] #[], v] ∧ OwnPt w W0.heap.size v ((List.range n).map H)
  bq : W0.heap.size ≤ q
  cus : ∀ i, i < n → RowAt w (H i) 112 #[.int .i64 ((cu (H i)).no : Int), .slice (cu (H i)).ad (cu (H i)).n (cu (H i)).cap] ∧ Ens W0 (cu (H i)).ad (cu (H i)).n (cu (H i)).cap (cu (H i)).o
theorem rangeD (H : Nat → Nat) {n i : Nat} (h : i < n) : ((List.range n).map H).getD i 0 = H i := by simp [List.getD_eq_getElem?_getD, h]
theorem QH.below {W0 w w' : World} {q n : Nat} {H : Nat → Nat} {cu : Nat → Cu} (h : QH W0 w q n H cu) (hb : Below w.heap.size w w') : QH W0 w' q n H cu := by
  obtain ⟨v, hr, ho⟩ := h.row
  exact ⟨h.old.trans (hb.mono h.old.size), ⟨v, hr.below hb hr.lt, ho.below hb⟩, h.bq, fun i hi => ⟨(h.cus i hi).1.below hb (h.cus i hi).1.lt, (h.cus i hi).2⟩⟩
theorem QH.qs {W0 w : World} {q n : Nat} {H : Nat → Nat} {cu : Nat → Cu} (h : QH W0 w q n H cu) (hn : 0 < n) : ∃ gI C, QS W0 w q gI C n H cu := by
  obtain ⟨v, hr, ho⟩ := h.row
  have hl : ((List.range n).map H).length = n := by simp
  rcases ho.2 with ⟨_, h1⟩ | ⟨g, cap, cur, he, hb, _⟩
  · rw [hl] at h1; omega
  · subst he
    rw [hl] at hr ho
    obtain ⟨_, hbg, hnC, f, hf, hh⟩ := ho.frow
    exact ⟨g, cap, h.old, hr, ⟨f, hf, fun i hi => by rw [hh i hi, rangeD H hi]⟩, hnC, h.bq, hbg, h.cus⟩
theorem QS.qh {W0 w : World} {q gI C n : Nat} {H : Nat → Nat} {cu : Nat → Cu} (h : QS W0 w q gI C n H cu) (hC : C ≤ maxLen) : QH W0 w q n H cu := by
  obtain ⟨f, hf, hh⟩ := h.itm
  exact ⟨h.old, ⟨_, h.row, OwnPt.of hf hh h.le hC h.bg⟩, h.bq, h.cus⟩
set_option maxRecDepth 20000 in
set_option maxHeartbeats 2000000 in
theorem iPushM (W0 : World) (q b n c : Nat) (a : Option Addr) (L : List Nat) (hl : L.length = n) (hn : n ≤ 1000000) (vC : Value) (w : World) (hq : RowAt w q 107 #[vC, .slice a n c]) (ho : OwnPt w W0.heap.size (.slice a n c) L) (hB : Below W0.heap.size W0 w) (hb : W0.heap.size ≤ q) :
    Calls Try.prog 132 #[.pointer (some ⟨q, 0, none⟩), .iface 110 (.pointer (some ⟨b, 0, none⟩))] w fun e w' => (∃ v, e = .returned v) ∧ (∃ G CP, RowAt w' q 107 #[vC, .slice (some ⟨G, 0, none⟩) (n + 1) CP] ∧ OwnPt w' W0.heap.size (.slice (some ⟨G, 0, none⟩) (n + 1) CP) (L ++ [b])) ∧ Below W0.heap.size W0 w' ∧ (∀ x cs, RowAt w x 112 cs → RowAt w' x 112 cs) ∧ RQ w w' := by
  have Q := hid hq
  have O := hid ho
  have B := hid hB
  clear hq ho hB
  go_enter Try.func132, Try.ntmps132
  go_upto_region 0 with fail
  refine pu0_wp W0 w q b n c a L vC w (RQ.refl _) B.out Q.out (fun _ _ r => r) O.out ⟨hl, hn, hb⟩ ?_
  intro X7 G CP w1 hg ho1 hq1 hc1 hO2 _
  have G1 := hid hg
  have O1 := hid ho1
  have Q1 := hid hq1
  have C1 := hid hc1
  have P1 := hid hO2
  clear hg ho1 hq1 hc1 hO2
  go_wp2
  go_end0
  exact ⟨⟨_, rfl⟩, ⟨G, CP, Q1.out, P1.out⟩, O1.out, C1.out, G1.out⟩
theorem heap_congr {nb : Nat → Nat → Prop} {H H' : Nat → Nat} {n : Nat} (h : Heap nb H n) (e : ∀ i, i < n → H' i = H i) : Heap nb H' n := fun k k0 kn => by rw [e k kn, e _ (by omega)]; exact h k k0 kn
def snocH (H : Nat → Nat) (n b : Nat) (i : Nat) : Nat := if i < n then H i else b
theorem snocH_L (H : Nat → Nat) (n b : Nat) : (List.range (n + 1)).map (snocH H n b) = (List.range n).map H ++ [b] := by
  rw [List.range_succ, List.map_append]
  congr 1
  · exact List.map_congr_left fun i hi => by unfold snocH; rw [if_pos (List.mem_range.1 hi)]
  · simp [snocH]
set_option maxRecDepth 20000 in
set_option maxHeartbeats 4000000 in
theorem iHPush (W0 : World) (q n b : Nat) (hn : n ≤ 100000) (H : Nat → Nat) (cu : Nat → Cu) (w : World) (h : QH W0 w q n H cu) (hp : ∀ i, i < n → 0 < (cu (H i)).n) (hH : Heap (nbC cu) H n)
    (hb : RowAt w b 112 #[.int .i64 ((cu b).no : Int), .slice (cu b).ad (cu b).n (cu b).cap] ∧ Ens W0 (cu b).ad (cu b).n (cu b).cap (cu b).o ∧ 0 < (cu b).n) :
    Calls Try.prog 72 #[.iface 103 (.pointer (some ⟨q, 0, none⟩)), .iface 110 (.pointer (some ⟨b, 0, none⟩))] w fun e w' => (∃ v, e = .returned v) ∧ ∃ H', QH W0 w' q (n + 1) H' cu ∧ Heap (nbC cu) H' (n + 1) ∧ Pm (snocH H n b) H' (n + 1) ∧ RQ w w' := by
  obtain ⟨v, hr, ho⟩ := h.row
  have hl : ((List.range n).map H).length = n := by simp
  obtain ⟨av, cv, hv⟩ := ho.slice
  rw [hl] at hv
  subst hv
  have K := hid (iPushM W0 q b n cv av _ hl (by omega) _ w hr ho h.old h.bq)
  have HQ := hid h
  have HH := hid hH
  have HB := hid hb
  have HP := hid hp
  have m1 := mtPush q
  have m2 := mtLen q
  clear h hH hb hr ho hl hp
  go_enter Try.func72, Try.ntmps72
  go_wp2_with fail
  refine K.out.mono ?_
  rintro e w1 ⟨⟨v1, rfl⟩, ⟨G, CP, hq1, ho1⟩, hB1, hc1, hR1⟩
  obtain ⟨_, hbg, hnC, f, hf, hh⟩ := ho1.frow
  have S1 : Hid (QS W0 w1 q G CP (n + 1) (snocH H n b) cu) := by
    refine ⟨hB1, hq1, ⟨f, hf, fun i hi => ?_⟩, hnC, HQ.out.bq, hbg, fun i hi => ?_⟩
    · rw [hh i hi, ← snocH_L, rangeD _ hi]
    · unfold snocH
      by_cases e : i < n
      · rw [if_pos e]; exact ⟨hc1 _ _ (HQ.out.cus i e).1, (HQ.out.cus i e).2⟩
      · rw [if_neg e]; exact ⟨hc1 _ _ HB.out.1, HB.out.2.1⟩
  have CM : Hid (CP ≤ maxLen) := by
    rcases ho1.2 with ⟨h0, _⟩ | ⟨g', cap, cur, he, _, _, _, hm, _⟩
    · cases h0
    · injection he with _ _ e3
      rw [e3]; exact hm
  have U1 : Hid (UpI (nbC cu) (snocH H n b) (n + 1) n) := Heap.up_last (nbC cu) (heap_congr HH.out fun i hi => if_pos hi)
  have R1 := hid hR1
  have KN := hid (iLen q G CP (n + 1) w1 _ hq1)
  have e1 : ((n + 1 : Nat) : Int) = (n : Int) + 1 := by omega
  rw [e1] at KN
  clear e1
  have PS : ∀ i, i < n + 1 → 0 < (cu (snocH H n b i)).n := fun i hi => by
    unfold snocH
    by_cases e : i < n
    · rw [if_pos e]; exact HP.out i e
    · rw [if_neg e]; exact HB.out.2.2
  have KU := hid (iUp W0 q G CP (n + 1) (by omega) (snocH H n b) cu n w1 S1.out PS U1.out)
  clear PS
  clear hq1 ho1 hB1 hc1 hR1 hf hh hnC hbg K
  go_wp2_with fail
  refine KN.out.mono ?_
  rintro e w2 ⟨rfl, rfl⟩
  go_wp2_with fail
  refine KU.out.mono ?_
  rintro e w3 ⟨⟨v3, rfl⟩, H', hQ, hHp, hP, hR⟩
  have Q3 := hid (hQ.qh CM.out)
  have H3 := hid hHp
  have P3 := hid hP
  have R3 := hid (R1.out.trans hR)
  clear hQ hHp hP hR
  go_wp2
  go_end0
  exact ⟨⟨_, rfl⟩, H', Q3.out, H3.out, P3.out, R3.out⟩
set_option maxRecDepth 20000 in
set_option maxHeartbeats 4000000 in
theorem iHFix (W0 : World) (q gI C n : Nat) (hn : n ≤ 1000000) (n0 : 0 < n) (H : Nat → Nat) (cu : Nat → Cu) (w : World) (h : QS W0 w q gI C n H cu) (hp : ∀ i, i < n → 0 < (cu (H i)).n) (hD : DnI (nbC cu) H n 0) :
    Calls Try.prog 74 #[.iface 103 (.pointer (some ⟨q, 0, none⟩)), .int .i64 0] w fun e w' => (∃ v, e = .returned v) ∧ ∃ H', QS W0 w' q gI C n H' cu ∧ Heap (nbC cu) H' n ∧ Pm H H' n ∧ RQ w w' := by
  have KN := hid (iLen q gI C n w _ h.row)
  have KD := hid (iDown W0 q gI C n n hn (Nat.le_refl _) H cu w h hp hD)
  have HP := hid hp
  have m2 := mtLen q
  clear h hD hp
  go_enter Try.func74, Try.ntmps74
  go_wp2_with fail
  refine KN.out.mono ?_
  rintro e w2 ⟨rfl, rfl⟩
  go_wp2_with fail
  refine KD.out.mono ?_
  rintro e w3 ⟨⟨b, rfl⟩, H', hQ, hHp, hP, _, hR⟩
  have Q3 := hid hQ
  have H3 := hid hHp
  have P3 := hid hP
  have R3 := hid hR
  clear hQ hHp hP hR KN KD
  cases b with
  | true =>
    go_wp2
    go_end0
    exact ⟨⟨_, rfl⟩, H', Q3.out, H3.out, P3.out, R3.out⟩
  | false =>
    have KU := hid (iUp W0 q gI C n hn H' cu 0 w3 Q3.out (fun i hi => by obtain ⟨t, ht, e⟩ := (P3.out.mem (H' i)).1 ⟨i, hi, rfl⟩; rw [← e]; exact HP.out t ht) ⟨n0, fun k k0 kn _ => H3.out k k0 kn, fun k k0 kn kp z => absurd z (Nat.lt_irrefl _)⟩)
    go_wp2_with fail
    refine KU.out.mono ?_
    rintro e w4 ⟨⟨v4, rfl⟩, H4', hQ4, hH4, hP4, hR4⟩
    have Q4 := hid hQ4
    have H4 := hid hH4
    have P4 := hid (P3.out.trans hP4)
    have R4 := hid (R3.out.trans hR4)
    clear hQ4 hH4 hP4 hR4
    go_wp2
    go_end0
    exact ⟨⟨_, rfl⟩, H4', Q4.out, H4.out, P4.out, R4.out⟩
set_option maxRecDepth 20000 in
set_option maxHeartbeats 4000000 in
theorem iPopM (W0 : World) (q gI C n : Nat) (n0 : 0 < n) (hn : n ≤ 1000000) (H : Nat → Nat) (cu : Nat → Cu) (w : World) (h : QS W0 w q gI C n H cu) :
    Calls Try.prog 131 #[.pointer (some ⟨q, 0, none⟩)] w fun e w' => (∃ v, e = .returned v) ∧ QS W0 w' q gI C (n - 1) H cu ∧ RQ w w' := by
  obtain ⟨f, hf, hh⟩ := h.itm
  have nc := h.le
  have c1 := h.row.cell 1
  have f1 := h.row.free 1
  have cl := hf.at_ (n - 1) (by omega)
  rw [hh (n - 1) (by omega)] at cl
  have e1 : ((n - 1 : Nat) : Int) = (n : Int) - 1 := by omega
  have d0 : (0 : Int) ≤ (n : Int) - 1 := by omega
  have ne := h.ne
  have QQ := hid h
  have D : Hid (QS W0 (w.setCell ⟨q, 1, none⟩ (.slice (some ⟨gI, 0, none⟩) (n - 1) C)) q gI C (n - 1) H cu) := by
    have hg := grown_setCellQ w q 1 (.slice (some ⟨gI, 0, none⟩) (n - 1) C)
    refine ⟨h.old.grown hg h.old.size (fun k e => by have := Option.some.inj e; have := h.bq; omega), h.row.set 1 _, ⟨f, hf.other _ _ (fun e => ne e.symm), fun i hi => hh i (by omega)⟩, by omega, h.bq, h.bg, fun i hi => ⟨(h.cus i (by omega)).1.other _ _ (rowApartQ (h.cus i (by omega)).1 h.row (by decide)), (h.cus i (by omega)).2⟩⟩
  have R : Hid (RQ w (w.setCell ⟨q, 1, none⟩ (.slice (some ⟨gI, 0, none⟩) (n - 1) C))) := RQ.grown (grown_setCellQ w q 1 _) h.row (.inl rfl)
  clear h hf hh
  go_enter Try.func131, Try.ntmps131
  go_wp2
  go_ret
  exact ⟨⟨_, rfl⟩, D.out, R.out⟩
set_option maxRecDepth 20000 in
set_option maxHeartbeats 4000000 in
theorem iHPop (W0 : World) (q gI C n : Nat) (n0 : 0 < n) (hn : n ≤ 1000000) (H : Nat → Nat) (cu : Nat → Cu) (w : World) (h : QS W0 w q gI C n H cu) (hp : ∀ i, 0 < i → i < n → 0 < (cu (H i)).n) (hH : ∀ k, 0 < k → k < n → (k - 1) / 2 ≠ 0 → nbC cu (H k) (H ((k - 1) / 2))) :
    Calls Try.prog 75 #[.iface 103 (.pointer (some ⟨q, 0, none⟩))] w fun e w' => (∃ v, e = .returned v) ∧ ∃ H', QS W0 w' q gI C (n - 1) H' cu ∧ Heap (nbC cu) H' (n - 1) ∧ (∀ x, (∃ i, i < n - 1 ∧ H' i = x) ↔ ∃ i, 0 < i ∧ i < n ∧ H i = x) ∧ (Inj H n → Inj H' (n - 1)) ∧ RQ w w' := by
  have KN := hid (iLen q gI C n w _ h.row)
  have KS := hid (iSwap W0 q gI C n H cu 0 (n - 1) n0 (by omega) w h)
  have e1 : ((n - 1 : Nat) : Int) = (n : Int) - 1 := by omega
  have e0 : ((0 : Nat) : Int) = 0 := rfl
  rw [e1, e0] at KS
  have HH := hid hH
  have HP := hid hp
  have GR : Hid (∀ w', w.grownBy w' (some gI) → RQ w w') := fun w' hg => h.gr hg
  have m1 := mtLen q
  have m2 := mtSwap q
  have m3 := mtPop q
  clear h hH hp
  go_enter Try.func75, Try.ntmps75
  go_wp2_with fail
  refine KN.out.mono ?_
  rintro e w1 ⟨rfl, rfl⟩
  go_wp2_with fail
  refine KS.out.mono ?_
  rintro e w2 ⟨⟨v2, rfl⟩, hQ2, hg2⟩
  have R2 := hid (GR.out w2 hg2)
  have D2 : Hid (DnI (nbC cu) (swH H 0 (n - 1)) (n - 1) 0) := Heap.dn0 _ fun k k0 kn kp => by
    rw [swH_o H (by omega) (by omega), swH_o H kp (by omega)]
    exact HH.out k k0 (by omega) kp
  have PS : ∀ i, i < n - 1 → 0 < (cu (swH H 0 (n - 1) i)).n := fun i hi => by
    by_cases e : i = 0
    · rw [e, swH_i]; exact HP.out _ (by omega) (by omega)
    · rw [swH_o H e (by omega)]; exact HP.out _ (by omega) (by omega)
  have KD := hid (iDown W0 q gI C n (n - 1) hn (by omega) (swH H 0 (n - 1)) cu w2 hQ2 PS D2.out)
  clear PS
  rw [e1] at KD
  clear hQ2 hg2 KS KN
  go_wp2_with fail
  refine KD.out.mono ?_
  rintro e w3 ⟨⟨b3, rfl⟩, H3, hQ3, hH3, hP3, hK3, hR3⟩
  have KP := hid (iPopM W0 q gI C n n0 hn H3 cu w3 hQ3)
  have HP3 := hid hH3
  have P3 := hid hP3
  have R3 := hid (R2.out.trans hR3)
  clear hQ3 hH3 hP3 hK3 hR3 KD
  go_wp2_with fail
  refine KP.out.mono ?_
  rintro e w4 ⟨⟨v4, rfl⟩, hQ4, hR4⟩
  have Q4 := hid hQ4
  have R4 := hid (R3.out.trans hR4)
  clear hQ4 hR4 KP
  go_wp2
  go_ret
  refine ⟨⟨_, rfl⟩, H3, Q4.out, HP3.out, fun x => ?_, fun q => P3.out.inj ?_, R4.out⟩
  · rw [P3.out.mem]
    constructor
    · rintro ⟨i, hi, rfl⟩
      by_cases e : i = 0
      · exact ⟨n - 1, by omega, by omega, by rw [e, swH_i]⟩
      · exact ⟨i, by omega, by omega, (swH_o H e (by omega)).symm⟩
    · rintro ⟨i, i0, hi, rfl⟩
      by_cases e : i = n - 1
      · exact ⟨0, by omega, by rw [swH_i, e]⟩
      · exact ⟨i, by omega, swH_o H (by omega) e⟩
  · intro a b ha hb e
    exact (Pm.sw H n0 (by omega : n - 1 < n)).inj q a b (by omega) (by omega) e
end Go.Proofs.Ytekdphfifdfmbaa
