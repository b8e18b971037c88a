import Derived.Test.YtekdphfifdfmbaaQuI
namespace Go.Proofs.Ytekdphfifdfmbaa
open Go.RowKit
set_option linter.unusedVariables false
/-! The library's up and down over the queue. -/
/-- of blocks of other kinds than the queue's own nothing has turned -/
structure RQ (A B : World) : Prop where
  os : B.os = A.os
  tape : B.tape = A.tape
  output : B.output = A.output
  size : A.heap.size ≤ B.heap.size
  keep : ∀ k, k < A.heap.size → (∃ t cs, RowAt A k t cs ∧ (t = 107 ∨ t = 110 ∨ t = 112)) ∨ B.heap[k]? = A.heap[k]?
theorem RQ.refl (A : World) : RQ A A := ⟨rfl, rfl, rfl, Nat.le_refl _, fun k _ => .inr rfl⟩
theorem RQ.trans {A B C : World} (h : RQ A B) (h' : RQ B C) : RQ A C := by
  refine ⟨h'.os.trans h.os, h'.tape.trans h.tape, h'.output.trans h.output, Nat.le_trans h.size h'.size, fun k hk => ?_⟩
  rcases h.keep k hk with q | q
  · exact .inl q
  · rcases h'.keep k (Nat.lt_of_lt_of_le hk h.size) with ⟨t, cs, r, ht⟩ | r
    · exact .inl ⟨t, cs, by unfold RowAt at r ⊢; rw [← q]; exact r, ht⟩
    · exact .inr (r.trans q)
theorem RQ.below {A B : World} (h : Below A.heap.size A B) : RQ A B := ⟨h.os, h.tape, h.output, h.size, fun k hk => .inr (h.block k hk)⟩
theorem RQ.grown {A B : World} {g : Nat} {t : TypeId} {cs : Array Value} (h : A.grownBy B (some g)) (hr : RowAt A g t cs) (ht : t = 107 ∨ t = 110 ∨ t = 112) : RQ A B :=
  ⟨h.os, h.tape, h.output, h.size, fun k hk => by
    by_cases e : k = g
    · subst e; exact .inl ⟨t, cs, hr, ht⟩
    · exact .inr (h.block k hk fun e2 => e (Option.some.inj e2))⟩
theorem QS.gr {W0 w w' : World} {q gI C n : Nat} {H : Nat → Nat} {cu : Nat → Cu} (h : QS W0 w q gI C n H cu) (hg : w.grownBy w' (some gI)) : RQ w w' := by
  obtain ⟨f, hf, _⟩ := h.itm
  exact RQ.grown hg hf.row (.inr (.inl rfl))
/-- no two the same -/
def Inj (H : Nat → Nat) (n : Nat) : Prop := ∀ i j, i < n → j < n → H i = H j → i = j
/-- the same things, in another order -/
structure Pm (H H' : Nat → Nat) (n : Nat) : Prop where
  mem : ∀ x, (∃ i, i < n ∧ H' i = x) ↔ ∃ i, i < n ∧ H i = x
  inj : Inj H n → Inj H' n
theorem Pm.refl (H : Nat → Nat) (n : Nat) : Pm H H n := ⟨fun _ => Iff.rfl, id⟩
theorem Pm.trans {H H' H'' : Nat → Nat} {n : Nat} (h : Pm H H' n) (h' : Pm H' H'' n) : Pm H H'' n := ⟨fun x => (h'.mem x).trans (h.mem x), fun q => h'.inj (h.inj q)⟩
theorem Pm.sw (H : Nat → Nat) {n i j : Nat} (hi : i < n) (hj : j < n) : Pm H (swH H i j) n := ⟨fun x => by
  constructor
  · rintro ⟨k, hk, rfl⟩
    unfold swH
    by_cases e1 : k = i
    · exact ⟨j, hj, by rw [if_pos e1]⟩
    · by_cases e2 : k = j
      · exact ⟨i, hi, by rw [if_neg e1, if_pos e2]⟩
      · exact ⟨k, hk, by rw [if_neg e1, if_neg e2]⟩
  · rintro ⟨k, hk, rfl⟩
    by_cases e1 : k = i
    · exact ⟨j, hj, by rw [e1, swH_j]⟩
    · by_cases e2 : k = j
      · exact ⟨i, hi, by rw [e2, swH_i]⟩
      · exact ⟨k, hk, swH_o H e1 e2⟩, fun q a b ha hb e => by
  unfold swH at e
  by_cases a1 : a = i
  · rw [if_pos a1] at e
    by_cases b1 : b = i
    · omega
    · rw [if_neg b1] at e
      by_cases b2 : b = j
      · rw [if_pos b2] at e; have := q _ _ hj hi e; omega
      · rw [if_neg b2] at e; have := q _ _ hj hb e; omega
  · rw [if_neg a1] at e
    by_cases a2 : a = j
    · rw [if_pos a2] at e
      by_cases b1 : b = i
      · rw [if_pos b1] at e; have := q _ _ hi hj e; omega
      · rw [if_neg b1] at e
        by_cases b2 : b = j
        · omega
        · rw [if_neg b2] at e; have := q _ _ hi hb e; omega
    · rw [if_neg a2] at e
      by_cases b1 : b = i
      · rw [if_pos b1] at e; have := q _ _ ha hj e; omega
      · rw [if_neg b1] at e
        by_cases b2 : b = j
        · rw [if_pos b2] at e; have := q _ _ ha hi e; omega
        · rw [if_neg b2] at e; exact q _ _ ha hb e⟩
set_option maxRecDepth 20000 in
set_option maxHeartbeats 4000000 in
theorem iUp (W0 : World) (q gI C n : Nat) (hn : n ≤ 1000000) (H : Nat → Nat) (cu : Nat → Cu) (j0 : Nat) (w : World) (h : QS W0 w q gI C n H cu) (hp : ∀ i, i < n → 0 < (cu (H i)).n) (hU : UpI (nbC cu) H n j0) :
    Calls Try.prog 90 #[.iface 103 (.pointer (some ⟨q, 0, none⟩)), .int .i64 (j0 : Int)] w fun e w' => (∃ v, e = .returned v) ∧ ∃ H', QS W0 w' q gI C n H' cu ∧ Heap (nbC cu) H' n ∧ Pm H H' n ∧ RQ w w' := by
  have Q0 := hid h
  have U0 := hid hU
  have HP := hid hp
  have m1 := mtLess q
  have m2 := mtSwap q
  clear h hU hp
  go_enter Try.func90, Try.ntmps90
  go_wp2_with fail
  go_loopw [1] (fun v wr => ∃ (j : Nat) (H' : Nat → Nat), v = .int .i64 (j : Int) ∧ QS W0 wr q gI C n H' cu ∧ UpI (nbC cu) H' n j ∧ Pm H H' n ∧ RQ w wr) (fun v _ => (intOf v).toNat)
  case atStart => exact ⟨j0, H, rfl, Q0.out, U0.out, Pm.refl _ _, RQ.refl _⟩
  case round =>
    obtain ⟨j, H1, rfl, hQ, hU, hP, hR⟩ := hrel
    obtain ⟨WR, hWR⟩ : ∃ v, v = wr := ⟨_, rfl⟩
    subst hWR
    have Q1 := hid hQ
    have U1 := hid hU
    have P1 := hid hP
    have R1 := hid hR
    have hlt := hU.lt
    have PP : Hid (∀ i, i < n → 0 < (cu (H1 i)).n) := fun i hi => by
      obtain ⟨t, ht, e⟩ := (hP.mem (H1 i)).1 ⟨i, hi, rfl⟩
      rw [← e]; exact HP.out t ht
    clear hQ hU hP hR Q0 U0
    by_cases hj : j = 0
    · subst hj
      go_wp2
      go_end0
      exact ⟨⟨_, rfl⟩, H1, Q1.out, U1.out.done _ (.inl rfl), P1.out, R1.out⟩
    · obtain ⟨p, hp⟩ : ∃ p, p = (j - 1) / 2 := ⟨_, rfl⟩
      have hp2 : Hid (p = (j - 1) / 2) := hp
      have pn : p < n := by omega
      have pj : p < j := by omega
      have td : Int.tdiv ((j : Int) - 1) 2 = (p : Int) := by rw [Int.tdiv_eq_ediv_of_nonneg (by omega)]; omega
      have dd : ((p : Int) == (j : Int)) = false := beq_eq_false_iff_ne.2 (by omega)
      have KL := hid (iLess W0 q gI C n H1 cu j p hlt pn (PP.out j hlt) (PP.out p pn) WR Q1.out)
      clear hp
      by_cases hl : cuCmp (cu (H1 j)) (cu (H1 p)) < 0
      · have dl : decide (cuCmp (cu (H1 j)) (cu (H1 p)) < 0) = true := decide_eq_true hl
        rw [dl] at KL
        clear dl
        go_wp2_with fail
        refine KL.out.mono ?_
        rintro e w2 ⟨rfl, hb2⟩
        have Q2 := hid (Q1.out.below hb2)
        have R2 := hid (R1.out.trans (RQ.below hb2))
        clear hb2 KL
        have KS := hid (iSwap W0 q gI C n H1 cu p j pn hlt w2 Q2.out)
        go_wp2_with fail
        refine KS.out.mono ?_
        rintro e w3 ⟨⟨v3, rfl⟩, hQ3, hg3⟩
        have Q3 := hid hQ3
        have R3 := hid (R2.out.trans (Q2.out.gr hg3))
        clear hQ3 hg3 KS
        go_wp2
        go_roundw
        case rel => exact ⟨p, swH H1 p j, rfl, Q3.out, by have := UpI.step (nbC cu) (nbC_ord cu) U1.out (by omega) (by rw [← hp2.out]; exact fun q => q hl); rw [← hp2.out] at this; exact this, P1.out.trans (Pm.sw H1 pn hlt), R3.out⟩
        case measure => simp [intOf]; omega
      · have dl : decide (cuCmp (cu (H1 j)) (cu (H1 p)) < 0) = false := decide_eq_false hl
        rw [dl] at KL
        clear dl
        go_wp2_with fail
        refine KL.out.mono ?_
        rintro e w2 ⟨rfl, hb2⟩
        have Q2 := hid (Q1.out.below hb2)
        have R2 := hid (R1.out.trans (RQ.below hb2))
        clear hb2 KL
        go_wp2
        go_end0
        exact ⟨⟨_, rfl⟩, H1, Q2.out, U1.out.done _ (.inr (by rw [← hp2.out]; unfold nbC; omega)), P1.out, R2.out⟩
set_option maxRecDepth 20000 in
set_option maxHeartbeats 8000000 in
theorem iDown (W0 : World) (q gI C n m : Nat) (hn : n ≤ 1000000) (hm : m ≤ n) (H : Nat → Nat) (cu : Nat → Cu) (w : World) (h : QS W0 w q gI C n H cu) (hp : ∀ i, i < m → 0 < (cu (H i)).n) (hD : DnI (nbC cu) H m 0) :
    Calls Try.prog 91 #[.iface 103 (.pointer (some ⟨q, 0, none⟩)), .int .i64 0, .int .i64 (m : Int)] w fun e w' => (∃ b : Bool, e = .returned (.bool b)) ∧ ∃ H', QS W0 w' q gI C n H' cu ∧ Heap (nbC cu) H' m ∧ Pm H H' m ∧ (∀ k, m ≤ k → H' k = H k) ∧ RQ w w' := by
  have Q0 := hid h
  have D0 := hid hD
  have HP := hid hp
  have m1 := mtLess q
  have m2 := mtSwap q
  clear h hD hp
  go_enter Try.func91, Try.ntmps91
  go_wp2_with fail
  go_loopw [7] (fun v wr => ∃ (i : Nat) (H' : Nat → Nat), v = .int .i64 (i : Int) ∧ (i < m ∨ i = 0) ∧ QS W0 wr q gI C n H' cu ∧ DnI (nbC cu) H' m i ∧ Pm H H' m ∧ (∀ k, m ≤ k → H' k = H k) ∧ RQ w wr) (fun v _ => m - (intOf v).toNat)
  case atStart => exact ⟨0, H, rfl, .inr rfl, Q0.out, D0.out, Pm.refl _ _, fun k _ => rfl, RQ.refl _⟩
  case round =>
    obtain ⟨i, H1, rfl, hi, hQ, hD, hP, hK, hR⟩ := hrel
    obtain ⟨WR, hWR⟩ : ∃ v, v = wr := ⟨_, rfl⟩
    subst hWR
    have Q1 := hid hQ
    have D1 := hid hD
    have P1 := hid hP
    have K1 := hid hK
    have PP : Hid (∀ i, i < m → 0 < (cu (H1 i)).n) := fun i hi => by
      obtain ⟨t, ht, e⟩ := (hP.mem (H1 i)).1 ⟨i, hi, rfl⟩
      rw [← e]; exact HP.out t ht
    have R1 := hid hR
    clear hQ hD hP hK hR Q0 D0
    by_cases h1 : 2 * i + 1 < m
    · have d1 : ¬ (m : Int) ≤ 2 * (i : Int) + 1 := by omega
      have d2 : ¬ 2 * (i : Int) + 1 < 0 := by omega
      by_cases h2 : 2 * i + 1 + 1 < m
      · have d3 : 2 * (i : Int) + 1 + 1 < (m : Int) := by omega
        have KL := hid (iLess W0 q gI C n H1 cu (2 * i + 1 + 1) (2 * i + 1) (by omega) (by omega) (PP.out _ (by omega)) (PP.out _ (by omega)) WR Q1.out)
        have e1 : ((2 * i + 1 + 1 : Nat) : Int) = 2 * (i : Int) + 1 + 1 := by omega
        have e2 : ((2 * i + 1 : Nat) : Int) = 2 * (i : Int) + 1 := by omega
        rw [e1, e2] at KL
        by_cases hb : cuCmp (cu (H1 (2 * i + 1 + 1))) (cu (H1 (2 * i + 1))) < 0
        · have dl : decide (cuCmp (cu (H1 (2 * i + 1 + 1))) (cu (H1 (2 * i + 1))) < 0) = true := decide_eq_true hb
          rw [dl] at KL
          have HM : Hid (∀ k, 0 < k → k < m → (k - 1) / 2 = i → nbC cu (H1 k) (H1 (2 * i + 1 + 1))) := fun k k0 kn kp => by
            rcases (by omega : k = 2 * i + 1 ∨ k = 2 * i + 1 + 1) with rfl | rfl
            · have := cuCmp_swap (cu (H1 (2 * i + 1))) (cu (H1 (2 * i + 1 + 1)))
              unfold nbC
              omega
            · exact (nbC_ord cu).refl _
          clear dl hb
          go_wp2_with fail
          refine KL.out.mono ?_
          rintro e w2 ⟨rfl, hb2⟩
          have Q2 := hid (Q1.out.below hb2)
          have R2 := hid (R1.out.trans (RQ.below hb2))
          clear hb2 KL
          have KL2 := hid (iLess W0 q gI C n H1 cu (2 * i + 1 + 1) i (by omega) (by omega) (PP.out _ (by omega)) (PP.out _ (by omega)) w2 Q2.out)
          rw [e1] at KL2
          by_cases hl : cuCmp (cu (H1 (2 * i + 1 + 1))) (cu (H1 i)) < 0
          · have dl : decide (cuCmp (cu (H1 (2 * i + 1 + 1))) (cu (H1 i)) < 0) = true := decide_eq_true hl
            rw [dl] at KL2
            have HL : Hid (¬ nbC cu (H1 (2 * i + 1 + 1)) (H1 i)) := fun q => q hl
            clear dl hl
            go_wp2_with fail
            refine KL2.out.mono ?_
            rintro e w4 ⟨rfl, hb4⟩
            have Q4 := hid (Q2.out.below hb4)
            have R4 := hid (R2.out.trans (RQ.below hb4))
            clear hb4 KL2
            have KS := hid (iSwap W0 q gI C n H1 cu i (2 * i + 1 + 1) (by omega) (by omega) w4 Q4.out)
            rw [e1] at KS
            go_wp2_with fail
            refine KS.out.mono ?_
            rintro e w5 ⟨⟨v5, rfl⟩, hQ5, hg5⟩
            have Q5 := hid hQ5
            have R5 := hid (R4.out.trans (Q4.out.gr hg5))
            clear hQ5 hg5 KS
            go_wp2
            go_roundw
            case rel => exact ⟨2 * i + 1 + 1, swH H1 i (2 * i + 1 + 1), by go_num, by omega, Q5.out, DnI.step (nbC cu) (nbC_ord cu) D1.out (by omega) (by omega) (by omega) HM.out HL.out, P1.out.trans (Pm.sw H1 (by omega) (by omega)), fun k hk => by rw [swH_o H1 (by omega) (by omega)]; exact K1.out k hk, R5.out⟩
            case measure => simp [intOf]; omega
          · have dl : decide (cuCmp (cu (H1 (2 * i + 1 + 1))) (cu (H1 i)) < 0) = false := decide_eq_false hl
            rw [dl] at KL2
            have HL : Hid (nbC cu (H1 (2 * i + 1 + 1)) (H1 i)) := hl
            clear dl hl
            go_wp2_with fail
            refine KL2.out.mono ?_
            rintro e w4 ⟨rfl, hb4⟩
            have Q4 := hid (Q2.out.below hb4)
            have R4 := hid (R2.out.trans (RQ.below hb4))
            clear hb4 KL2
            go_wp2
            go_ret
            exact ⟨⟨_, rfl⟩, H1, Q4.out, D1.out.done _ (fun k k0 kn kp => (nbC_ord cu).trans (HM.out k k0 kn kp) HL.out), P1.out, K1.out, R4.out⟩
        · have dl : decide (cuCmp (cu (H1 (2 * i + 1 + 1))) (cu (H1 (2 * i + 1))) < 0) = false := decide_eq_false hb
          rw [dl] at KL
          have HM : Hid (∀ k, 0 < k → k < m → (k - 1) / 2 = i → nbC cu (H1 k) (H1 (2 * i + 1))) := fun k k0 kn kp => by
            rcases (by omega : k = 2 * i + 1 ∨ k = 2 * i + 1 + 1) with rfl | rfl
            · exact (nbC_ord cu).refl _
            · exact hb
          clear dl hb
          go_wp2_with fail
          refine KL.out.mono ?_
          rintro e w2 ⟨rfl, hb2⟩
          have Q2 := hid (Q1.out.below hb2)
          have R2 := hid (R1.out.trans (RQ.below hb2))
          clear hb2 KL
          have KL2 := hid (iLess W0 q gI C n H1 cu (2 * i + 1) i (by omega) (by omega) (PP.out _ (by omega)) (PP.out _ (by omega)) w2 Q2.out)
          rw [e2] at KL2
          by_cases hl : cuCmp (cu (H1 (2 * i + 1))) (cu (H1 i)) < 0
          · have dl : decide (cuCmp (cu (H1 (2 * i + 1))) (cu (H1 i)) < 0) = true := decide_eq_true hl
            rw [dl] at KL2
            have HL : Hid (¬ nbC cu (H1 (2 * i + 1)) (H1 i)) := fun q => q hl
            clear dl hl
            go_wp2_with fail
            refine KL2.out.mono ?_
            rintro e w4 ⟨rfl, hb4⟩
            have Q4 := hid (Q2.out.below hb4)
            have R4 := hid (R2.out.trans (RQ.below hb4))
            clear hb4 KL2
            have KS := hid (iSwap W0 q gI C n H1 cu i (2 * i + 1) (by omega) (by omega) w4 Q4.out)
            rw [e2] at KS
            go_wp2_with fail
            refine KS.out.mono ?_
            rintro e w5 ⟨⟨v5, rfl⟩, hQ5, hg5⟩
            have Q5 := hid hQ5
            have R5 := hid (R4.out.trans (Q4.out.gr hg5))
            clear hQ5 hg5 KS
            go_wp2
            go_roundw
            case rel => exact ⟨2 * i + 1, swH H1 i (2 * i + 1), by go_num, by omega, Q5.out, DnI.step (nbC cu) (nbC_ord cu) D1.out (by omega) (by omega) (by omega) HM.out HL.out, P1.out.trans (Pm.sw H1 (by omega) (by omega)), fun k hk => by rw [swH_o H1 (by omega) (by omega)]; exact K1.out k hk, R5.out⟩
            case measure => simp [intOf]; omega
          · have dl : decide (cuCmp (cu (H1 (2 * i + 1))) (cu (H1 i)) < 0) = false := decide_eq_false hl
            rw [dl] at KL2
            have HL : Hid (nbC cu (H1 (2 * i + 1)) (H1 i)) := hl
            clear dl hl
            go_wp2_with fail
            refine KL2.out.mono ?_
            rintro e w4 ⟨rfl, hb4⟩
            have Q4 := hid (Q2.out.below hb4)
            have R4 := hid (R2.out.trans (RQ.below hb4))
            clear hb4 KL2
            go_wp2
            go_ret
            exact ⟨⟨_, rfl⟩, H1, Q4.out, D1.out.done _ (fun k k0 kn kp => (nbC_ord cu).trans (HM.out k k0 kn kp) HL.out), P1.out, K1.out, R4.out⟩
      · have d3 : ¬ 2 * (i : Int) + 1 + 1 < (m : Int) := by omega
        have e2 : ((2 * i + 1 : Nat) : Int) = 2 * (i : Int) + 1 := by omega
        have HM : Hid (∀ k, 0 < k → k < m → (k - 1) / 2 = i → nbC cu (H1 k) (H1 (2 * i + 1))) := fun k k0 kn kp => by
          obtain rfl : k = 2 * i + 1 := by omega
          exact (nbC_ord cu).refl _
        have KL2 := hid (iLess W0 q gI C n H1 cu (2 * i + 1) i (by omega) (by omega) (PP.out _ (by omega)) (PP.out _ (by omega)) WR Q1.out)
        rw [e2] at KL2
        by_cases hl : cuCmp (cu (H1 (2 * i + 1))) (cu (H1 i)) < 0
        · have dl : decide (cuCmp (cu (H1 (2 * i + 1))) (cu (H1 i)) < 0) = true := decide_eq_true hl
          rw [dl] at KL2
          have HL : Hid (¬ nbC cu (H1 (2 * i + 1)) (H1 i)) := fun q => q hl
          clear dl hl
          go_wp2_with fail
          refine KL2.out.mono ?_
          rintro e w4 ⟨rfl, hb4⟩
          have Q4 := hid (Q1.out.below hb4)
          have R4 := hid (R1.out.trans (RQ.below hb4))
          clear hb4 KL2
          have KS := hid (iSwap W0 q gI C n H1 cu i (2 * i + 1) (by omega) (by omega) w4 Q4.out)
          rw [e2] at KS
          go_wp2_with fail
          refine KS.out.mono ?_
          rintro e w5 ⟨⟨v5, rfl⟩, hQ5, hg5⟩
          have Q5 := hid hQ5
          have R5 := hid (R4.out.trans (Q4.out.gr hg5))
          clear hQ5 hg5 KS
          go_wp2
          go_roundw
          case rel => exact ⟨2 * i + 1, swH H1 i (2 * i + 1), by go_num, by omega, Q5.out, DnI.step (nbC cu) (nbC_ord cu) D1.out (by omega) (by omega) (by omega) HM.out HL.out, P1.out.trans (Pm.sw H1 (by omega) (by omega)), fun k hk => by rw [swH_o H1 (by omega) (by omega)]; exact K1.out k hk, R5.out⟩
          case measure => simp [intOf]; omega
        · have dl : decide (cuCmp (cu (H1 (2 * i + 1))) (cu (H1 i)) < 0) = false := decide_eq_false hl
          rw [dl] at KL2
          have HL : Hid (nbC cu (H1 (2 * i + 1)) (H1 i)) := hl
          clear dl hl
          go_wp2_with fail
          refine KL2.out.mono ?_
          rintro e w4 ⟨rfl, hb4⟩
          have Q4 := hid (Q1.out.below hb4)
          have R4 := hid (R1.out.trans (RQ.below hb4))
          clear hb4 KL2
          go_wp2
          go_ret
          exact ⟨⟨_, rfl⟩, H1, Q4.out, D1.out.done _ (fun k k0 kn kp => (nbC_ord cu).trans (HM.out k k0 kn kp) HL.out), P1.out, K1.out, R4.out⟩
    · have d1 : (m : Int) ≤ 2 * (i : Int) + 1 := by omega
      go_wp2
      go_ret
      exact ⟨⟨_, rfl⟩, H1, Q1.out, D1.out.done _ (fun k k0 kn kp => by omega), P1.out, K1.out, R1.out⟩
end Go.Proofs.Ytekdphfifdfmbaa
