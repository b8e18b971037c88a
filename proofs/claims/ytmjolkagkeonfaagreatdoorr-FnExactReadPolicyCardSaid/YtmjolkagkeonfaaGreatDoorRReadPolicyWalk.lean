import Derived.Test.YtmjolkagkeonfaaGreatDoorRSRp3
import Derived.Test.YtmjolkagkeonfaaGreatDoorRLawPm3
namespace Go.Proofs.YtmjolkagkeonfaaGreatDoorR
open Go.RowKit
set_option linter.unusedVariables false
/-! FnExactReadPolicy. -/
theorem rdP_B : ∀ (ls : List ByteArray) (i : Nat) (acc : List PS), (∀ x ∈ ls, x.size ≤ 10000) → acc.length ≤ 50 → (∀ p ∈ acc, psB p) → (rdP i acc ls).2.2.length ≤ 50 ∧ ∀ p ∈ (rdP i acc ls).2.2, psB p
  | [], i, acc, _, h1, h2 => by rw [rdP]; exact ⟨h1, h2⟩
  | l :: r, i, acc, h0, h1, h2 => by
    have hr : ∀ x ∈ r, x.size ≤ 10000 := fun x hx => h0 x (by simp [hx])
    by_cases hw : wdsL l = []
    · rw [rdP_skip hw]
      exact rdP_B r _ _ hr h1 h2
    · by_cases hl : lnP (wdsL l)
      · by_cases h3 : acc.length < 50 ∧ (sS (wdsL l)).cs.length ≤ 10
        · rw [rdP_ok hw hl h3]
          refine rdP_B r _ _ hr (by simp; omega) fun p hp => ?_
          rcases List.mem_append.1 hp with q | q
          · exact h2 p q
          · simp at q
            subst q
            exact sS_B (wdsL_B (n := 1000000) (by have := h0 l (by simp); omega)) hl.1.1
        · rw [rdP_cnt hw hl h3]
          exact ⟨Nat.zero_le _, fun p hp => by cases hp⟩
      · rw [rdP_syn hw hl]
        exact ⟨Nat.zero_le _, fun p hp => by cases hp⟩
theorem polB (t : ByteArray) : (polO t).2.2.length ≤ 50 ∧ ∀ i, i < (polO t).2.2.length → psB (psA (polO t).2.2 i) := by
  have q : (polO t).2.2.length ≤ 50 ∧ ∀ p ∈ (polO t).2.2, psB p := by
    unfold polO
    by_cases h : t.size ≤ 10000
    · rw [if_pos h]
      exact rdP_B _ _ _ (splB_sz h) (Nat.zero_le _) (fun p hp => by cases hp)
    · rw [if_neg h]
      exact ⟨Nat.zero_le _, fun p hp => by cases hp⟩
  refine ⟨q.1, fun i hi => q.2 _ ?_⟩
  unfold psA
  rw [List.getD_eq_getElem?_getD, List.getElem?_eq_getElem hi]
  exact List.getElem_mem hi
set_option maxRecDepth 20000 in
set_option maxHeartbeats 16000000 in
theorem fnExactReadPolicy_walk {w : World} (hv : RdV w) (t : ByteArray) (ht : t.size ≤ maxLen) :
    Calls Tryz.prog 4 #[.string t] w fun e w' => e = .returned (.bool true) ∧ Below w.heap.size w w' := by
  by_cases h0 : t.size ≤ 1048576
  case neg =>
    have d0 : (1048576 : Int) < (t.size : Int) := by omega
    have hm : t.size ≤ 9223372036854775807 := ht
    clear h0 ht
    go_enter Tryz.func4, Tryz.ntmps4
    go_wp2
    go_ret
    exact ⟨rfl, Below.refl _ _⟩
  have d0 : ¬ (1048576 : Int) < (t.size : Int) := by omega
  have HV := hid hv
  have K1 := hid (sReadP t h0 w)
  have KI := fun wx (h : RdV wx) => hid (iReadP t h0 wx h)
  have PB := hid (polB t)
  clear h0 ht hv
  go_enter Tryz.func4, Tryz.ntmps4
  go_wp2_with fail
  refine K1.out.mono ?_
  rintro e w1 ⟨v0, rfl, hP0, hb1⟩
  obtain ⟨PO, hPO⟩ : ∃ x, x = polO t := ⟨_, rfl⟩
  rw [← hPO] at hP0 PB ⊢
  have HPO := hid hPO
  clear hPO K1
  obtain ⟨rc, rl, L⟩ := PO
  dsimp only at hP0 PB ⊢
  obtain ⟨Rs0, X0, hP0⟩ := hP0
  obtain ⟨a0, c0, rfl⟩ := hP0.own.slice
  obtain ⟨m0, hm0⟩ : ∃ m, m = Rs0.length := ⟨_, rfl⟩
  rw [← hm0] at hP0
  have Q0 : Hid (PolAt w1 w.heap.size (.slice a0 m0 c0) L) := ⟨Rs0, X0, hP0⟩
  rw [← hm0]
  have B1 := hid hb1
  clear hP0 hb1 hm0
  obtain ⟨W2, hW2⟩ : ∃ W, W = w1.alloc (.cells #[.int .i64 rc, .int .i64 rl, .slice a0 m0 c0] 28) := ⟨_, rfl⟩
  have b12 : Below w1.heap.size w1 W2 := by rw [hW2]; exact (Below.refl _ _).alloc (Nat.le_refl _) _
  have R0 : Hid (RowAt W2 w1.heap.size 28 #[.int .i64 rc, .int .i64 rl, .slice a0 m0 c0]) := by rw [hW2]; exact RowAt.new _ _ _
  have B2 := hid (B1.out.trans (b12.mono B1.out.size))
  have Q2 := hid (Q0.out.below b12)
  clear b12 Q0
  go_upto_region 4 with ((refine wpList_store_row rfl 28 (.tmp 3) (.tmp 12) rfl w1.heap.size #[.int .i64 rc, .int .i64 rl, .slice a0 m0 c0] rfl rfl _ _ (RowAt.new w1 _ _) (by kernel_rfl) rfl (by simp [Value.oneCell']) ?_); rw [World.setRow_alloc_new])
  rw [← hW2]
  clear hW2
  obtain ⟨Y0, hY0⟩ : ∃ y, y = w1.heap.size := ⟨_, rfl⟩
  rw [← hY0] at R0 ⊢
  clear hY0
  go_wp2_with fail
  refine (KI W2 (HV.out.below B2.out)).out.mono ?_
  rintro e w3 ⟨v1, rfl, hP1, hb3⟩
  rw [← HPO.out] at hP1 ⊢
  dsimp only at hP1 ⊢
  obtain ⟨Rs1, X1, hP1⟩ := hP1
  obtain ⟨a1, c1, rfl⟩ := hP1.own.slice
  obtain ⟨m1, hm1⟩ : ∃ m, m = Rs1.length := ⟨_, rfl⟩
  rw [← hm1] at hP1
  rw [← hm1]
  have L1 : Hid (Rs1.length ≤ 50) := by show _ ≤ _; rw [hP1.len]; exact PB.out.1
  have B3 := hid (B2.out.trans (hb3.mono B2.out.size))
  have Q3 := hid (Q2.out.below hb3)
  have R3 := hid (R0.out.below hb3 R0.out.lt)
  have P3 := hid hP1
  obtain ⟨BS, hBS⟩ : ∃ x, x = W2.heap.size := ⟨_, rfl⟩
  have Z0 : Hid (Y0 < BS) := by rw [hBS]; exact R0.out.lt
  have QB : Hid (∀ wx, Below BS W2 wx → PolAt wx w.heap.size (.slice a0 m0 c0) L) := fun wx hb => by rw [hBS] at hb; exact Q2.out.below hb
  have b23 : Hid (Below BS W2 w3) := by rw [hBS]; exact hb3
  rw [← hBS] at P3
  have Z3 : Hid (BS ≤ w3.heap.size) := by rw [hBS]; exact hb3.size
  have RB : Hid (∀ wx, Below BS W2 wx → RowAt wx Y0 28 #[.int .i64 rc, .int .i64 rl, .slice a0 m0 c0]) := fun wx hb => R0.out.below hb Z0.out
  have WB : Hid (∀ wx, Below BS W2 wx → Below w.heap.size w wx) := fun wx hb => B2.out.trans (hb.mono (by rw [hBS]; exact B2.out.size))
  clear hP1 hb3 hm1 hBS Q2 R0
  obtain ⟨W4, hW4⟩ : ∃ W, W = w3.alloc (.cells #[.int .i64 rc, .int .i64 rl, .slice a1 m1 c1] 28) := ⟨_, rfl⟩
  have b34 : Below w3.heap.size w3 W4 := by rw [hW4]; exact (Below.refl _ _).alloc (Nat.le_refl _) _
  have R4 : Hid (RowAt W4 w3.heap.size 28 #[.int .i64 rc, .int .i64 rl, .slice a1 m1 c1]) := by rw [hW4]; exact RowAt.new _ _ _
  have b24 : Hid (Below BS W2 W4) := b23.out.trans (b34.mono Z3.out)
  have P4 := hid (P3.out.below b34)
  have Z4 : Hid (BS ≤ W4.heap.size) := Nat.le_trans Z3.out b34.size
  clear b34 b23 P3 Q3 R3 B3
  go_upto_region 5 with ((refine wpList_store_row rfl 28 (.tmp 4) (.tmp 14) rfl w3.heap.size #[.int .i64 rc, .int .i64 rl, .slice a1 m1 c1] rfl rfl _ _ (RowAt.new w3 _ _) (by kernel_rfl) rfl (by simp [Value.oneCell']) ?_); rw [World.setRow_alloc_new])
  rw [← hW4]
  clear hW4
  obtain ⟨Y1, hY1⟩ : ∃ y, y = w3.heap.size := ⟨_, rfl⟩
  rw [← hY1] at R4 ⊢
  have ZY : Hid (BS ≤ Y1) := by rw [hY1]; exact Z3.out
  clear hY1 Z3
  have x0 := (RB.out _ b24.out).cell 0
  have x1 := (RB.out _ b24.out).cell 1
  have x2 := (RB.out _ b24.out).cell 2
  have y0 := R4.out.cell 0
  have y1 := R4.out.cell 1
  have y2 := R4.out.cell 2
  have KE := hid (eqPol rc rl L PB.out.1 PB.out.2 (.slice a1 m1 c1) (.slice a0 m0 c0) BS w.heap.size W4 ⟨Rs1, X1, P4.out⟩ (QB.out _ b24.out))
  go_wp2_with fail
  refine KE.out.mono ?_
  rintro e w5 ⟨rfl, hb5⟩
  have b25 : Hid (Below BS W2 w5) := b24.out.trans (hb5.mono Z4.out)
  have R5 := hid (R4.out.below hb5 R4.out.lt)
  have P5 := hid (P4.out.below hb5)
  have Z5 : Hid (BS ≤ w5.heap.size) := Nat.le_trans Z4.out hb5.size
  clear hb5 KE x0 x1 x2 y0 y1 y2 b24 R4 P4 Z4
  have y0 := R5.out.cell 0
  have y1 := R5.out.cell 1
  have y2 := R5.out.cell 2
  have KM := hid (markPol BS (.slice a1 m1 c1) L Rs1 X1 PB.out.1 PB.out.2 rc rl w5 Z5.out P5.out)
  obtain ⟨M, hM⟩ : ∃ M, M = kS 1 (stA Rs1) Rs1.length := ⟨_, rfl⟩
  rw [← hM] at KM
  have HM := hid hM
  clear hM
  go_wp2_with fail
  refine KM.out.mono ?_
  rintro e w6 ⟨rfl, hV6, hb6, hk6⟩
  have V6 := hid hV6
  have b26 : Hid (Below BS W2 w6) := b25.out.trans hb6
  have R6 : Hid (RowAt w6 Y1 28 #[.int .i64 rc, .int .i64 rl, .slice a1 m1 c1]) := hk6 _ _ _ (by decide) (by decide) (by decide) R5.out
  have Z6 : Hid (BS ≤ w6.heap.size) := Nat.le_trans Z5.out hb6.size
  clear hV6 hb6 hk6 KM y0 y1 y2 b25 R5 P5 Z5
  have y0 := R6.out.cell 0
  have y1 := R6.out.cell 1
  have y2 := R6.out.cell 2
  have KH : Hid (∀ wx, MdV wx BS (.slice a1 m1 c1) Rs1 → Calls Tryz.prog 16 #[.agg #[.int .i64 rc, .int .i64 rl, .slice a1 m1 c1], .int .i64 1] wx fun e w' => e = .returned (.int .i64 (M : Int)) ∧ Below wx.heap.size wx w') := fun wx h => by
    have := heldPol BS (.slice a1 m1 c1) Rs1 L1.out rc rl wx h
    rw [← HM.out] at this
    exact this
  have n0 : ¬ (M : Int) < 0 := by omega
  have n1 : ((M : Int) != (M : Int)) = false := by simp
  go_wp2_with fail
  refine (KH.out w6 V6.out).mono ?_
  rintro e w7 ⟨rfl, hb7⟩
  have V7 := hid (V6.out.below hb7)
  have b27 : Hid (Below BS W2 w7) := b26.out.trans (hb7.mono Z6.out)
  have R7 := hid (R6.out.below hb7 R6.out.lt)
  have Z7 : Hid (BS ≤ w7.heap.size) := Nat.le_trans Z6.out hb7.size
  clear hb7 y0 y1 y2 V6 b26 R6 Z6
  have KI2 := KI w7 (HV.out.below (WB.out _ b27.out))
  go_wp2_with fail
  refine KI2.out.mono ?_
  rintro e w8 ⟨v8, rfl, hP8, hb8⟩
  rw [← HPO.out] at hP8 ⊢
  dsimp only at hP8 ⊢
  obtain ⟨Rs8, X8, hP8⟩ := hP8
  obtain ⟨a8, c8, rfl⟩ := hP8.own.slice
  obtain ⟨m8, hm8⟩ : ∃ m, m = Rs8.length := ⟨_, rfl⟩
  rw [← hm8] at hP8
  rw [← hm8]
  have V8 := hid (V7.out.below hb8)
  have b28 : Hid (Below BS W2 w8) := b27.out.trans (hb8.mono Z7.out)
  have R8 := hid (R7.out.below hb8 R7.out.lt)
  have Q8 : Hid (PolAt w8 w7.heap.size (.slice a8 m8 c8) L) := ⟨Rs8, X8, hP8⟩
  have Z8 : Hid (BS ≤ w8.heap.size) := Nat.le_trans Z7.out hb8.size
  clear hP8 hb8 hm8 KI2 V7 b27 R7 Z7
  obtain ⟨W9, hW9⟩ : ∃ W, W = w8.alloc (.cells #[.int .i64 rc, .int .i64 rl, .slice a8 m8 c8] 28) := ⟨_, rfl⟩
  have b89 : Below w8.heap.size w8 W9 := by rw [hW9]; exact (Below.refl _ _).alloc (Nat.le_refl _) _
  have R9 : Hid (RowAt W9 w8.heap.size 28 #[.int .i64 rc, .int .i64 rl, .slice a8 m8 c8]) := by rw [hW9]; exact RowAt.new _ _ _
  have V9 := hid (V8.out.below b89)
  have b29 : Hid (Below BS W2 W9) := b28.out.trans (b89.mono Z8.out)
  have RH := hid (R8.out.below b89 R8.out.lt)
  have Q9 := hid (Q8.out.below b89)
  have Z9 : Hid (BS ≤ W9.heap.size) := Nat.le_trans Z8.out b89.size
  clear b89 V8 b28 R8 Q8 Z8
  go_upto_region 16 with ((refine wpList_store_row rfl 28 (.tmp 7) (.tmp 31) rfl w8.heap.size #[.int .i64 rc, .int .i64 rl, .slice a8 m8 c8] rfl rfl _ _ (RowAt.new w8 _ _) (by kernel_rfl) rfl (by simp [Value.oneCell']) ?_); rw [World.setRow_alloc_new])
  rw [← hW9]
  clear hW9
  obtain ⟨Y8, hY8⟩ : ∃ y, y = w8.heap.size := ⟨_, rfl⟩
  rw [← hY8] at R9 ⊢
  clear hY8
  have x0 := (RB.out _ b29.out).cell 0
  have x1 := (RB.out _ b29.out).cell 1
  have x2 := (RB.out _ b29.out).cell 2
  have y0 := R9.out.cell 0
  have y1 := R9.out.cell 1
  have y2 := R9.out.cell 2
  have KE := hid (eqPol rc rl L PB.out.1 PB.out.2 (.slice a8 m8 c8) (.slice a0 m0 c0) w7.heap.size w.heap.size W9 Q9.out (QB.out _ b29.out))
  go_wp2_with fail
  refine KE.out.mono ?_
  rintro e w10 ⟨rfl, hb10⟩
  have VA := hid (V9.out.below hb10)
  have b210 : Hid (Below BS W2 w10) := b29.out.trans (hb10.mono Z9.out)
  have RA := hid (RH.out.below hb10 RH.out.lt)
  have ZA : Hid (BS ≤ w10.heap.size) := Nat.le_trans Z9.out hb10.size
  clear hb10 KE x0 x1 x2 y0 y1 y2 V9 b29 RH R9 Q9 Z9
  have y0 := RA.out.cell 0
  have y1 := RA.out.cell 1
  have y2 := RA.out.cell 2
  go_wp2_with fail
  refine (KH.out w10 VA.out).mono ?_
  rintro e w11 ⟨rfl, hb11⟩
  have BF : Hid (Below w.heap.size w w11) := WB.out _ (b210.out.trans (hb11.mono ZA.out))
  clear hb11 y0 y1 y2
  go_wp2
  go_ret
  exact ⟨rfl, BF.out⟩
end Go.Proofs.YtmjolkagkeonfaaGreatDoorR
