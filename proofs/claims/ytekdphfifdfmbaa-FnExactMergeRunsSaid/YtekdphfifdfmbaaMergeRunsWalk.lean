import Derived.Test.YtekdphfifdfmbaaOpenTab
import Derived.Test.YtekdphfifdfmbaaLawRk
import Derived.Test.YtekdphfifdfmbaaSMr
namespace Go.Proofs.Ytekdphfifdfmbaa
open Go.RowKit
set_option linter.unusedVariables false
/-! FnExactMergeRuns. -/
theorem OwnEn.turned {w w' : World} {lo hi base : Nat} {v : Value} {L : List En} (h : OwnEn w base v L) (ht : Turned lo hi w w') (hh : hi ≤ base) : OwnEn w' base v L := h.keep fun g cs e r => r.turned ht (.inr (by have := (h.row e).1; omega))
set_option maxRecDepth 20000 in
set_option maxHeartbeats 8000000 in
theorem fnExactMergeRuns_walk {w : World} (a : Option Addr) (m cap : Nat) (R : Nat → Rn) (h : IsRns w a m cap R) (fl : Int) (_wf : (Lit.int .i64 fl).wf = true) :
    Calls Try.prog 4 #[.slice a m cap, .int .i64 fl] w fun e w' => e = .returned (.bool true) ∧ Below w.heap.size w w' := by
  obtain ⟨hN, hcap, hIn⟩ := h
  have hm : m ≤ 9223372036854775807 := by have := hN.1; unfold maxLen at hcap; omega
  have hRI : RnIn R m := fun k hk => by
    obtain ⟨x1, x2, x3⟩ := hIn k hk
    refine ⟨by have := x1.1; unfold maxLen at x2; omega, fun i hi => by have := x3 i hi; unfold maxLen at this; omega⟩
  have HN := hid hN
  have K0 := hid (szRns a m cap R 1048576 (Nat.le_refl _) hm hRI w hN)
  clear hN hcap hIn hm hRI _wf
  by_cases hf : m + szR R m ≤ 1048576
  case neg =>
    rw [if_neg hf] at K0
    have d0 : (-1 : Int) < 0 := by omega
    go_enter Try.func4, Try.ntmps4
    go_wp2_with fail
    refine K0.out.mono ?_
    rintro e w2 ⟨rfl, hb2⟩
    have B2 := hid hb2
    clear hb2 hf
    go_wp2
    go_ret
    exact ⟨rfl, B2.out⟩
  rw [if_pos hf] at K0
  obtain ⟨l, hl⟩ : ∃ l : Nat, l = 1048576 - m - szR R m := ⟨_, rfl⟩
  rw [← hl] at K0
  have d0 : ¬ (l : Int) < 0 := by omega
  have hm1 : m ≤ 1048576 := by omega
  have hR1 : Hid (∀ k, k < m → (R k).n ≤ 1048576) := fun k hk => by have := szR_at R hk; omega
  have hZ1 : Hid (∀ G, RnSz (mkR R G) m) := fun G k hk => by
    have x1 := szR_at R hk
    refine ⟨by show (R k).n ≤ _; omega, fun i hi => ?_⟩
    have x2 := szEn_at (R k).o (show i < (R k).n from hi)
    show ((R k).o i).ky.size ≤ _ ∧ ((R k).o i).tx.size ≤ _
    omega
  have hC0 : Hid (cntR R m ≤ 1048576) := by show _ ≤ _; have := szR_ge R m; omega
  have hC1 : Hid (∀ G, cntR (mkR R G) m ≤ 1048576) := fun G => by rw [cntR_mk]; exact hC0.out
  obtain ⟨L, hL⟩ : ∃ L, L = mrL R m fl := ⟨_, rfl⟩
  have HL : Hid (∀ G, mrL (mkR R G) m fl = L) := fun G => by rw [hL]; exact mrL_cg fun k hk => ⟨rfl, rfl⟩
  obtain ⟨N, hNN⟩ : ∃ N, N = L.length := ⟨_, rfl⟩
  have hNb : N ≤ 1048576 := by have := mrL_len R m fl; rw [← hL] at this; omega
  have HNN := hid hNN
  have KT := fun wx (hb : Below w.heap.size w wx) => hid (toRnsA a m cap R hm1 hR1.out wx (HN.out.below hb))
  have KI := fun wx b G (hM : MkR wx b m R G) => hid (iMR (some ⟨b, 0, none⟩) m m (mkR R G) fl (Nat.le_trans (hC1.out G) (by decide)) hm1 (hZ1.out G) wx hM.rns)
  have KQ := fun wx a1 c1 a2 c2 B1 B2 (h1 : OwnEn wx B1 (.slice a1 N c1) L) (h2 : OwnEn wx B2 (.slice a2 N c2) L) => hid (eqRn a1 N c1 a2 c2 (enA L) hNb wx h1.ens.2 h2.ens.2)
  clear hl hf hL hNN
  go_enter Try.func4, Try.ntmps4
  go_wp2_with fail
  refine K0.out.mono ?_
  rintro e w1 ⟨rfl, hb1⟩
  have B1 := hid hb1
  clear hb1 K0
  go_wp2_with fail
  refine (KT w1 B1.out).out.mono ?_
  rintro e w2 ⟨rfl, G2, hM2, hb2⟩
  have B2 := hid (B1.out.trans (hb2.mono B1.out.size))
  have K2 := hid (sMR (some ⟨w1.heap.size, 0, none⟩) m m (mkR R G2) fl (hC1.out G2) hm1 (hZ1.out G2) (fun k hk e => by cases e) w2 hM2.rns)
  rw [HL.out] at K2
  clear hb2 hM2
  go_wp2_with fail
  refine K2.out.mono ?_
  rintro e w3 ⟨⟨v3, rfl, hO3⟩, hb3⟩
  obtain ⟨a0, c0, hv3⟩ := hO3.slice
  rw [← HNN.out] at hv3
  subst hv3
  have B3 := hid (B2.out.trans (hb3.mono B2.out.size))
  obtain ⟨W3, hW3⟩ : ∃ W, W = w3.alloc (.cells #[.slice a0 N c0] 28) := ⟨_, rfl⟩
  have b33 : Below w3.heap.size w3 W3 := by rw [hW3]; exact (Below.refl _ _).alloc (Nat.le_refl _) _
  have R0 : Hid (RowAt W3 w3.heap.size 28 #[.slice a0 N c0]) := by rw [hW3]; exact RowAt.new _ _ _
  have Q3 := hid (hO3.below b33)
  have BW := hid (B3.out.trans (b33.mono B3.out.size))
  clear hb3 hO3 b33 B1 B2 B3 K2
  go_upto_region 6 with ((refine wpList_store_row rfl 28 (.tmp 6) (.tmp 21) rfl w3.heap.size #[.slice a0 N c0] rfl rfl _ _ (RowAt.new w3 _ _) (by kernel_rfl) rfl (oneSl _ _ _) ?_); rw [World.setRow_alloc_new])
  rw [← hW3]
  clear hW3
  obtain ⟨Y0, hY0⟩ : ∃ y, y = w3.heap.size := ⟨_, rfl⟩
  rw [← hY0] at R0 ⊢
  clear hY0
  obtain ⟨BS, hBS⟩ : ∃ x, x = W3.heap.size := ⟨_, rfl⟩
  have QB : Hid (∀ wx, Below BS W3 wx → OwnEn wx w2.heap.size (.slice a0 N c0) L) := fun wx hb => by rw [hBS] at hb; exact Q3.out.below hb
  have RB : Hid (∀ wx, Below BS W3 wx → RowAt wx Y0 28 #[.slice a0 N c0]) := fun wx hb => R0.out.below hb (by rw [hBS]; exact R0.out.lt)
  have WB : Hid (∀ wx, Below BS W3 wx → Below w.heap.size w wx) := fun wx hb => BW.out.trans (hb.mono (by rw [hBS]; exact BW.out.size))
  have K4 := KT W3 BW.out
  rw [← hBS] at K4
  have HBS := hid hBS
  clear Q3 R0 BW hBS
  go_wp2_with fail
  refine K4.out.mono ?_
  rintro e w4 ⟨rfl, G, hM4, hb4⟩
  have M4 := hid hM4
  have P4 : Hid (Below BS W3 w4) := hb4
  obtain ⟨HI, hHI⟩ : ∃ x, x = w4.heap.size := ⟨_, rfl⟩
  have GG : Hid (∀ k, k < m → BS ≤ G k ∧ G k < HI) := fun k hk => ⟨Nat.le_of_lt (hM4.gt k hk), by rw [hHI]; exact (hM4.ent k hk).lt⟩
  have ZH : Hid (BS ≤ HI) := by rw [hHI, HBS.out]; exact hb4.size
  have K5 := KI w4 BS G hM4
  rw [HL.out, ← hHI] at K5
  clear hM4 hb4 K4
  go_wp2_with fail
  refine K5.out.mono ?_
  rintro e w5 ⟨⟨v5, rfl, hO5⟩, hb5⟩
  obtain ⟨a1, c1, hv5⟩ := hO5.slice
  rw [← HNN.out] at hv5
  subst hv5
  have Z5 : HI ≤ w5.heap.size := by rw [hHI]; exact hb5.size
  have P5 : Hid (Below BS W3 w5) := P4.out.trans (hb5.mono ZH.out)
  have M5 : Hid (MkR w5 BS m R G) := M4.out.below (by rw [← hHI]; exact hb5)
  obtain ⟨W5, hW5⟩ : ∃ W, W = w5.alloc (.cells #[.slice a1 N c1] 28) := ⟨_, rfl⟩
  have b55 : Below w5.heap.size w5 W5 := by rw [hW5]; exact (Below.refl _ _).alloc (Nat.le_refl _) _
  have R5 : Hid (RowAt W5 w5.heap.size 28 #[.slice a1 N c1]) := by rw [hW5]; exact RowAt.new _ _ _
  have Q5 := hid (hO5.below b55)
  have P6 : Hid (Below BS W3 W5) := P5.out.trans (b55.mono (Nat.le_trans ZH.out Z5))
  have M6 := hid (M5.out.below b55)
  have Z6 : Hid (HI ≤ W5.heap.size) := Nat.le_trans Z5 b55.size
  clear hO5 hb5 b55 K5 P4 P5 M4 M5 hHI
  go_upto_region 8 with ((refine wpList_store_row rfl 28 (.tmp 8) (.tmp 26) rfl w5.heap.size #[.slice a1 N c1] rfl rfl _ _ (RowAt.new w5 _ _) (by kernel_rfl) rfl (oneSl _ _ _) ?_); rw [World.setRow_alloc_new])
  rw [← hW5]
  clear hW5
  obtain ⟨Y1, hY1⟩ : ∃ y, y = w5.heap.size := ⟨_, rfl⟩
  rw [← hY1] at R5 ⊢
  have ZY : Hid (HI ≤ Y1) := by rw [hY1]; exact Z5
  clear hY1 Z5
  have x0 := (RB.out _ P6.out).cell 0
  have y0 := R5.out.cell 0
  go_wp2_with fail
  refine (KQ _ _ _ _ _ _ _ Q5.out (QB.out _ P6.out)).out.mono ?_
  rintro e w7 ⟨rfl, hb7⟩
  have Q7 := hid (Q5.out.below hb7)
  have R7 := hid (R5.out.below hb7 R5.out.lt)
  have M7 := hid (M6.out.below hb7)
  have P7 : Hid (Below BS W3 w7) := P6.out.trans (hb7.mono (Nat.le_trans ZH.out Z6.out))
  have Z7 : Hid (HI ≤ w7.heap.size) := Nat.le_trans Z6.out hb7.size
  clear hb7 Q5 R5 M6 P6 Z6 x0 y0
  go_wp2_with fail
  refine (KT w7 (WB.out _ P7.out)).out.mono ?_
  rintro e w8 ⟨rfl, G8, hM8, hb8⟩
  have Q8 := hid (Q7.out.below hb8)
  have R8 := hid (R7.out.below hb8 R7.out.lt)
  have M8 := hid (M7.out.below hb8)
  have P8 : Hid (Below BS W3 w8) := P7.out.trans (hb8.mono (Nat.le_trans ZH.out Z7.out))
  have Z8 : Hid (HI ≤ w8.heap.size) := Nat.le_trans Z7.out hb8.size
  have K8 := hid (eqRns (some ⟨BS, 0, none⟩) m m (mkR R G) (some ⟨w7.heap.size, 0, none⟩) m (mkR R G8) hm1 (fun k hk => ⟨rfl, rfl, hR1.out k hk⟩) w8 M8.out.rns hM8.rns)
  clear hM8 hb8 Q7 R7 M7 P7 Z7
  go_wp2_with fail
  refine K8.out.mono ?_
  rintro e w9 ⟨rfl, hb9⟩
  have Q9 := hid (Q8.out.below hb9)
  have R9 := hid (R8.out.below hb9 R8.out.lt)
  have M9 := hid (M8.out.below hb9)
  have P9 : Hid (Below BS W3 w9) := P8.out.trans (hb9.mono (Nat.le_trans ZH.out Z8.out))
  have Z9 : Hid (HI ≤ w9.heap.size) := Nat.le_trans Z8.out hb9.size
  have K9 := hid (markRns BS HI BS m R G hm1 hC0.out GG.out w9 M9.out)
  obtain ⟨KK, hKK⟩ : ∃ x, x = 1 + cntR R m * 4 := ⟨_, rfl⟩
  rw [← hKK] at K9
  have dK : ¬ (KK : Int) < 0 := by omega
  have dK2 : decide ((KK : Int) < 0) = false := by simp
  clear hb9 Q8 R8 M8 P8 Z8 K8 hKK
  go_wp2_with fail
  refine K9.out.mono ?_
  rintro e w10 ⟨rfl, ht⟩
  have QA : Hid (OwnEn w10 HI (.slice a1 N c1) L) := Q9.out.turned ht (Nat.le_refl _)
  have RA : Hid (RowAt w10 Y1 28 #[.slice a1 N c1]) := R9.out.turned ht (.inr ZY.out)
  have PA : Hid (Below BS W3 w10) := Turned.below P9.out ht (Nat.le_refl _) (Nat.le_trans ZH.out Z9.out)
  have ZA : Hid (HI ≤ w10.heap.size) := Nat.le_trans Z9.out ht.size
  clear ht Q9 R9 M9 P9 Z9 K9
  have x0 := (RB.out _ PA.out).cell 0
  have y0 := RA.out.cell 0
  go_wp2_with fail
  refine (KQ _ _ _ _ _ _ _ QA.out (QB.out _ PA.out)).out.mono ?_
  rintro e w11 ⟨rfl, hb11⟩
  have QC := hid (QA.out.below hb11)
  have RC := hid (RA.out.below hb11 RA.out.lt)
  have PC : Hid (Below BS W3 w11) := PA.out.trans (hb11.mono (Nat.le_trans ZH.out ZA.out))
  have ZC : Hid (HI ≤ w11.heap.size) := Nat.le_trans ZA.out hb11.size
  clear hb11 QA RA PA ZA x0 y0
  have y0 := RC.out.cell 0
  have KM := hid (markRn HI a1 N c1 L hNb w11 ZC.out QC.out)
  obtain ⟨MM, hMM⟩ : ∃ x, x = 1 + N * 4 := ⟨_, rfl⟩
  rw [← hMM] at KM
  have KH : Hid (∀ wx, EnM wx a1 N c1 → Calls Try.prog 18 #[.agg #[.slice a1 N c1], .int .i64 1] wx fun e w' => e = .returned (.int .i64 (MM : Int)) ∧ Below wx.heap.size wx w') := fun wx h => by
    have := heldRn a1 N c1 hNb wx h
    rw [← hMM] at this
    exact this
  have n0 : ¬ (MM : Int) < 0 := by omega
  have n1 : ((MM : Int) != (MM : Int)) = false := by simp
  clear hMM dK dK2
  go_wp2_with fail
  refine KM.out.mono ?_
  rintro e w12 ⟨rfl, hE12, hb12, hk12⟩
  have E12 := hid hE12
  have R12 : Hid (RowAt w12 Y1 28 #[.slice a1 N c1]) := hk12 _ _ _ (by decide) RC.out
  have P12 : Hid (Below BS W3 w12) := PC.out.trans (hb12.mono ZH.out)
  have Z12 : Hid (HI ≤ w12.heap.size) := Nat.le_trans ZC.out hb12.size
  clear hE12 hb12 hk12 KM QC RC PC ZC y0
  have y0 := R12.out.cell 0
  go_wp2_with fail
  refine (KH.out w12 E12.out).mono ?_
  rintro e w13 ⟨rfl, hb13⟩
  have E13 := hid (E12.out.below hb13)
  have R13 := hid (R12.out.below hb13 R12.out.lt)
  have P13 : Hid (Below BS W3 w13) := P12.out.trans (hb13.mono (Nat.le_trans ZH.out Z12.out))
  have Z13 : Hid (HI ≤ w13.heap.size) := Nat.le_trans Z12.out hb13.size
  clear hb13 E12 R12 P12 Z12 y0
  go_wp2_with fail
  refine (KT w13 (WB.out _ P13.out)).out.mono ?_
  rintro e w14 ⟨rfl, G14, hM14, hb14⟩
  have E14 := hid (E13.out.below hb14)
  have R14 := hid (R13.out.below hb14 R13.out.lt)
  have P14 : Hid (Below BS W3 w14) := P13.out.trans (hb14.mono (Nat.le_trans ZH.out Z13.out))
  have Z14 : Hid (HI ≤ w14.heap.size) := Nat.le_trans Z13.out hb14.size
  have K14 := KI w14 w13.heap.size G14 hM14
  rw [HL.out] at K14
  clear hM14 hb14 E13 R13 P13 Z13
  go_wp2_with fail
  refine K14.out.mono ?_
  rintro e w15 ⟨⟨v15, rfl, hO15⟩, hb15⟩
  obtain ⟨a2, c2, hv15⟩ := hO15.slice
  rw [← HNN.out] at hv15
  subst hv15
  have E15 := hid (E14.out.below hb15)
  have R15 := hid (R14.out.below hb15 R14.out.lt)
  have P15 : Hid (Below BS W3 w15) := P14.out.trans (hb15.mono (Nat.le_trans ZH.out Z14.out))
  have Z15 : Hid (HI ≤ w15.heap.size) := Nat.le_trans Z14.out hb15.size
  obtain ⟨W16, hW16⟩ : ∃ W, W = w15.alloc (.cells #[.slice a2 N c2] 28) := ⟨_, rfl⟩
  have b16 : Below w15.heap.size w15 W16 := by rw [hW16]; exact (Below.refl _ _).alloc (Nat.le_refl _) _
  have S16 : Hid (RowAt W16 w15.heap.size 28 #[.slice a2 N c2]) := by rw [hW16]; exact RowAt.new _ _ _
  have Q16 := hid (hO15.below b16)
  have E16 := hid (E15.out.below b16)
  have R16 := hid (R15.out.below b16 R15.out.lt)
  have P16 : Hid (Below BS W3 W16) := P15.out.trans (b16.mono (Nat.le_trans ZH.out Z15.out))
  have Z16 : Hid (HI ≤ W16.heap.size) := Nat.le_trans Z15.out b16.size
  clear hO15 hb15 b16 K14 E14 R14 P14 Z14 E15 R15 P15 Z15
  go_upto_region 25 with ((refine wpList_store_row rfl 28 (.tmp 12) (.tmp 61) rfl w15.heap.size #[.slice a2 N c2] rfl rfl _ _ (RowAt.new w15 _ _) (by kernel_rfl) rfl (oneSl _ _ _) ?_); rw [World.setRow_alloc_new])
  rw [← hW16]
  clear hW16
  obtain ⟨Y2, hY2⟩ : ∃ y, y = w15.heap.size := ⟨_, rfl⟩
  rw [← hY2] at S16 ⊢
  clear hY2
  have x0 := (RB.out _ P16.out).cell 0
  have y0 := S16.out.cell 0
  go_wp2_with fail
  refine (KQ _ _ _ _ _ _ _ Q16.out (QB.out _ P16.out)).out.mono ?_
  rintro e w17 ⟨rfl, hb17⟩
  have E17 := hid (E16.out.below hb17)
  have R17 := hid (R16.out.below hb17 R16.out.lt)
  have P17 : Hid (Below BS W3 w17) := P16.out.trans (hb17.mono (Nat.le_trans ZH.out Z16.out))
  have Z17 : Hid (HI ≤ w17.heap.size) := Nat.le_trans Z16.out hb17.size
  clear hb17 x0 y0 E16 R16 P16 Z16 S16 Q16
  have y0 := R17.out.cell 0
  go_wp2_with fail
  refine (KH.out w17 E17.out).mono ?_
  rintro e w18 ⟨rfl, hb18⟩
  have BF : Hid (Below w.heap.size w w18) := WB.out _ (P17.out.trans (hb18.mono (Nat.le_trans ZH.out Z17.out)))
  clear hb18 y0
  go_wp2
  go_ret
  exact ⟨rfl, BF.out⟩
end Go.Proofs.Ytekdphfifdfmbaa
