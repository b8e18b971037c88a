import Derived.Test.YtefnoeaehglihaaDoorIScan
namespace Go.Proofs.YtefnoeaehglihaaDoor
open Go.RowKit
/-! FnExactScanRecords. -/
theorem Rcs.grown {w w' : World} {a : Option Addr} {n cap : Nat} {f : Nat → Value} {b : Nat} (h : Rcs w a n cap f) (hg : w.grownBy w' (some b)) (hne : ∀ b', a = some ⟨b', 0, none⟩ → b' ≠ b) : Rcs w' a n cap f := by
  refine ⟨h.1, ?_⟩
  rcases h.2 with h0 | ⟨b', rfl, h1, h2⟩
  · exact Or.inl h0
  · refine Or.inr ⟨b', rfl, Nat.lt_of_lt_of_le h1 hg.size, fun p hp => ?_⟩
    rw [← h2 p hp]
    have e := hg.block b' h1 (fun q => hne b' rfl (Option.some.inj q))
    simp only [World.cell?, e]
theorem Rcs.of_frow {w : World} {b n cap NC : Nat} {t : TypeId} {f g : Nat → Value} (h : FRow w b t NC f) (hn : 5 * n ≤ NC) (hc : n ≤ cap) (hf : ∀ p, p < 5 * n → f p = g p) : Rcs w (some ⟨b, 0, none⟩) n cap g :=
  ⟨hc, Or.inr ⟨b, rfl, h.lt, fun p hp => by rw [h.cell (show p < NC by omega), hf p hp]⟩⟩
theorem OwnRc.frow {w : World} {base : Nat} {v : Value} {s : ByteArray} {L : List Fr} (h : OwnRc w base v L.length (rcL s L)) : (v = .slice none 0 0 ∧ L.length = 0) ∨ ∃ b cap NC f, v = .slice (some ⟨b, 0, none⟩) L.length cap ∧ base ≤ b ∧ b < w.heap.size ∧ 5 * L.length ≤ NC ∧ L.length ≤ cap ∧ FRow w b 28 NC f ∧ ∀ p, p < 5 * L.length → f p = rcF s L p := by
  rcases h.2 with ⟨h0, h1⟩ | ⟨g, cap, cur, he, hb, hr, hnc, hm, hsz, htk⟩
  · exact Or.inl ⟨h0, h1⟩
  · right
    have R : RowAt w g 28 cur := hr
    have hl := rcL_len s L
    have ht := congrArg List.length htk
    simp only [List.length_take] at ht
    have hcs : 5 * L.length ≤ cur.size := by simp at ht; omega
    refine ⟨g, cap, cur.size, fun p => cur[p]?.getD undef, he, hb, R.lt, hcs, hnc, ⟨cur, R, rfl, fun p hp => by simp [Array.getElem?_eq_getElem hp]⟩, fun p hp => ?_⟩
    have := congrArg (·[p]?) htk
    simp only [List.getElem?_take] at this
    rw [if_pos (by omega)] at this
    unfold rcF
    rw [← this]; simp
set_option maxRecDepth 20000 in
set_option maxHeartbeats 4000000 in
theorem fnExactScan_core (s : ByteArray) (hs : s.size ≤ 1048576) (L : List Fr) (hN : L.length ≤ 300000) (ea eb : Addr)
    (HS : ∀ w, Calls Tryd.prog 15 #[.string s] w fun e w' => ∃ a c, e = .returned (.slice a L.length c) ∧ Rcs w' a L.length c (rcF s L) ∧ Below w.heap.size w w')
    (HI : ∀ w, Errs w ea eb → Calls Tryd.prog 16 #[.string s] w fun e w' => ∃ v, e = .returned v ∧ OwnRc w' w.heap.size v L.length (rcL s L) ∧ Below w.heap.size w w')
    (w : World) (hE : Errs w ea eb) :
    Calls Tryd.prog 5 #[.string s] w fun e w' => e = .returned (.bool true) ∧ Below w.heap.size w w' := by
  have HS' := fun w => hid (HS w)
  have HI' := fun w h => hid (HI w h)
  have HE := hid hE
  have SH := hid (rcF_shape s L)
  obtain ⟨M, hM⟩ : ∃ M : Nat, M = 1 + 5 * L.length := ⟨_, rfl⟩
  have dM : decide ((M : Int) < 0) = false := by simp
  have dE : ((M : Int) != (M : Int)) = false := by simp
  have dl : decide ((1048576 : Int) < (s.size : Int)) = false := by simp; omega
  have HM := hid hM
  clear HS HI hE hM
  go_enter Tryd.func5, Tryd.ntmps5
  go_wp2_with fail
  refine (HS' _).out.mono ?_
  rintro e w1 ⟨a0, c0, rfl, hR1, hb1⟩
  have B1 := hid hb1
  have R1 := hid hR1
  have lt1 : Hid (∀ b', a0 = some ⟨b', 0, none⟩ → b' < w1.heap.size ∨ L.length = 0) := fun b' q => by
    rcases hR1.2 with r | ⟨b, rfl, r, _⟩
    · exact Or.inr r
    · left; cases q; exact r
  clear hb1 hR1
  go_wp2_with fail
  refine (HI' _ (HE.out.below B1.out)).out.mono ?_
  rintro e w2 ⟨v, rfl, hO2, hb2⟩
  have B2 : Hid (Below w.heap.size w w2) := B1.out.trans (hb2.mono B1.out.size)
  have R2 := hid (R1.out.below hb2)
  rcases hO2.frow with ⟨rfl, hz⟩ | ⟨b, cap, NC, f, rfl, hbl, hbs, hNC, hcap, hF, hf⟩
  · -- none
    have r0 : Rcs w2 none L.length 0 (rcF s L) := ⟨by omega, Or.inl hz⟩
    have EQ := fun w h h' => hid (eqRecs none L.length 0 a0 c0 (rcF s L) (by omega) SH.out w h h')
    have HL := fun w => hid (heldRecs none L.length 0 1 (Nat.le_refl _) (by omega) (by decide) w ⟨by omega, Or.inl hz⟩)
    have MK := fun w => hid (markRecs0 none 0 1 w)
    rw [show 1 + 5 * L.length = 1 by omega] at HL
    rw [hz] at EQ HL HI' R2 r0 ⊢
    have R2' := R2
    have zc : Hid (∀ w : World, Rcs w none 0 0 (rcF s L)) := fun w => ⟨Nat.le_refl _, Or.inl rfl⟩
    clear hO2 hb2 hz R1 lt1
    go_wp2_with fail
    refine (EQ _ (zc.out _) R2.out).out.mono ?_
    rintro e w3 ⟨rfl, hb3⟩
    have B3 : Hid (Below w.heap.size w w3) := B2.out.trans (hb3.mono B2.out.size)
    have R3 := hid (R2.out.below hb3)
    clear hb3
    go_wp2_with fail
    refine (MK _).out.mono ?_
    rintro e w4 ⟨rfl, rfl⟩
    go_wp2_with fail
    refine (HL _).out.mono ?_
    rintro e w5 ⟨rfl, hb5⟩
    have B5 : Hid (Below w.heap.size w w5) := B3.out.trans (hb5.mono B3.out.size)
    have R5 := hid (R3.out.below hb5)
    clear hb5
    go_wp2_with fail
    refine (HI' _ (HE.out.below B5.out)).out.mono ?_
    rintro e w6 ⟨v6, rfl, hO6, hb6⟩
    have B6 : Hid (Below w.heap.size w w6) := B5.out.trans (hb6.mono B5.out.size)
    have R6 := hid (R5.out.below hb6)
    obtain ⟨a6, c6, rfl⟩ : ∃ a6 c6, v6 = .slice a6 0 c6 := by
      rcases hO6.2 with ⟨rfl, _⟩ | ⟨g, cap, cur, rfl, _⟩
      · exact ⟨_, _, rfl⟩
      · exact ⟨_, _, rfl⟩
    have EQ6 := hid (eqRecs a6 0 c6 a0 c0 (rcF s L) (by omega) (fun k hk => by omega) w6 ⟨Nat.zero_le _, Or.inl rfl⟩ R6.out)
    clear hO6 hb6
    go_wp2_with fail
    refine EQ6.out.mono ?_
    rintro e w7 ⟨rfl, hb7⟩
    have B7 : Hid (Below w.heap.size w w7) := B6.out.trans (hb7.mono B6.out.size)
    clear hb7
    go_wp2_with fail
    refine (HL _).out.mono ?_
    rintro e w8 ⟨rfl, hb8⟩
    go_wp2
    go_ret
    exact ⟨rfl, B7.out.trans (hb8.mono B7.out.size)⟩
  · have EQ2 := hid (eqRecs (some ⟨b, 0, none⟩) L.length cap a0 c0 (rcF s L) (by omega) SH.out w2 (Rcs.of_frow hF hNC hcap hf) R2.out)
    have MK := fun w h => hid (markRecs b L.length cap 1 28 NC hNC f (Nat.le_refl _) (by omega) (by decide) w h)
    have HL := fun w h => hid (heldRecs (some ⟨b, 0, none⟩) L.length cap 1 (Nat.le_refl _) (by omega) (by decide) w h)
    rw [← HM.out] at MK HL
    have HF2 := hid hF
    have HBL := hid hbl
    have HBS := hid hbs
    have HNC := hid hNC
    have HCAP := hid hcap
    clear hO2 hb2 hF hbl hbs hNC hcap hf R1
    go_wp2_with fail
    refine EQ2.out.mono ?_
    rintro e w3 ⟨rfl, hb3⟩
    have B3 : Hid (Below w.heap.size w w3) := B2.out.trans (hb3.mono B2.out.size)
    have R3 := hid (R2.out.below hb3)
    have F3 := hid (HF2.out.below hb3 HBS.out)
    clear hb3 EQ2
    go_wp2_with fail
    refine (MK _ F3.out).out.mono ?_
    rintro e w4 ⟨rfl, hF4, hg4⟩
    have B4 : Hid (Below w.heap.size w w4) := B3.out.grown hg4 B3.out.size (fun k hk => by cases hk; have := HBL.out; have := B1.out.size; omega)
    have R4 : Hid (Rcs w4 a0 L.length c0 (rcF s L)) := by
      by_cases hz : L.length = 0
      · exact ⟨R3.out.1, Or.inl hz⟩
      · exact R3.out.grown hg4 (fun b' q r => by rcases lt1.out b' q with t | t; (have := HBL.out; omega); exact hz t)
    have H4 : Hid (Rcs w4 (some ⟨b, 0, none⟩) L.length cap (mkR 1)) := Rcs.of_frow hF4 HNC.out HCAP.out (fun p hp => by unfold mkG; rw [if_pos hp])
    clear hF4 hg4
    go_wp2_with fail
    refine (HL _ H4.out).out.mono ?_
    rintro e w5 ⟨rfl, hb5⟩
    have B5 : Hid (Below w.heap.size w w5) := B4.out.trans (hb5.mono B4.out.size)
    have R5 := hid (R4.out.below hb5)
    have H5 := hid (H4.out.below hb5)
    clear hb5
    go_wp2_with fail
    refine (HI' _ (HE.out.below B5.out)).out.mono ?_
    rintro e w6 ⟨v6, rfl, hO6, hb6⟩
    have B6 : Hid (Below w.heap.size w w6) := B5.out.trans (hb6.mono B5.out.size)
    have R6 := hid (R5.out.below hb6)
    have H6 := hid (H5.out.below hb6)
    obtain ⟨a6, c6, rfl, hR6⟩ : ∃ a6 c6, v6 = .slice a6 L.length c6 ∧ Rcs w6 a6 L.length c6 (rcF s L) := by
      obtain ⟨a6, c6, h1, h2⟩ := hO6.rcs
      exact ⟨a6, c6, h1, h2⟩
    have EQ6 := hid (eqRecs a6 L.length c6 a0 c0 (rcF s L) (by omega) SH.out w6 hR6 R6.out)
    clear hO6 hb6 hR6
    go_wp2_with fail
    refine EQ6.out.mono ?_
    rintro e w7 ⟨rfl, hb7⟩
    have B7 : Hid (Below w.heap.size w w7) := B6.out.trans (hb7.mono B6.out.size)
    have H7 := hid (H6.out.below hb7)
    clear hb7
    go_wp2_with fail
    refine (HL _ H7.out).out.mono ?_
    rintro e w8 ⟨rfl, hb8⟩
    go_wp2
    go_ret
    exact ⟨rfl, B7.out.trans (hb8.mono B7.out.size)⟩
set_option maxRecDepth 20000 in
set_option maxHeartbeats 2000000 in
theorem sScanAll (s : ByteArray) (hs : s.size ≤ 1048576) (L : List Fr) (hL : L = if 300000 < s.size then [] else sc s 0) (w : World) :
    Calls Tryd.prog 15 #[.string s] w fun e w' => ∃ a c, e = .returned (.slice a L.length c) ∧ Rcs w' a L.length c (rcF s L) ∧ Below w.heap.size w w' := by
  by_cases h : 300000 < s.size
  · have d0 : decide ((300000 : Int) < (s.size : Int)) = true := by simp; omega
    rw [if_pos h] at hL
    subst hL
    go_enter Tryd.func15, Tryd.ntmps15
    go_wp2
    go_ret
    exact ⟨_, _, rfl, ⟨Nat.zero_le _, Or.inl rfl⟩, (Below.refl _ _).alloc (Nat.le_refl _) _⟩
  · have d0 : decide ((300000 : Int) < (s.size : Int)) = false := by simp; omega
    rw [if_neg h] at hL
    subst hL
    go_enter Tryd.func15, Tryd.ntmps15
    go_wp2_with fail
    refine (sScan s hs _).mono ?_
    rintro e w1 ⟨a, c, rfl, hR, hb⟩
    have HR := hid hR
    have HB := hid hb
    clear hR hb
    go_wp2
    go_ret
    exact ⟨_, _, rfl, HR.out, HB.out⟩
set_option maxRecDepth 20000 in
set_option maxHeartbeats 2000000 in
theorem iScanAll (s : ByteArray) (hs : s.size ≤ 1048576) (L : List Fr) (hL : L = if 300000 < s.size then [] else sc s 0) (ea eb : Addr) (w : World) (hE : Errs w ea eb) :
    Calls Tryd.prog 16 #[.string s] w fun e w' => ∃ v, e = .returned v ∧ OwnRc w' w.heap.size v L.length (rcL s L) ∧ Below w.heap.size w w' := by
  by_cases h : 300000 < s.size
  · have d0 : decide ((300000 : Int) < (s.size : Int)) = true := by simp; omega
    rw [if_pos h] at hL
    subst hL
    go_enter Tryd.func16, Tryd.ntmps16
    go_wp2
    go_ret
    exact ⟨_, rfl, ⟨rfl, Or.inl ⟨rfl, rfl⟩⟩, Below.refl _ _⟩
  · rw [if_neg h] at hL
    subst hL
    exact iScan s (by omega) w ea eb hE
set_option maxHeartbeats 1000000 in
theorem fnExactScanRecords_walk {w : World} (hL : ∃ ea eb, Errs w ea eb) (s : ByteArray) (hs0 : s.size ≤ maxLen) :
    Calls Tryd.prog 5 #[.string s] w fun e w' => e = .returned (.bool true) ∧ Below w.heap.size w w' := by
  unfold maxLen at hs0
  obtain ⟨ea, eb, hE⟩ := hL
  by_cases hs : s.size ≤ 1048576
  · have hl : (if 300000 < s.size then [] else sc s 0 : List Fr).length ≤ 300000 := by
      by_cases h : 300000 < s.size
      · rw [if_pos h]; simp
      · rw [if_neg h]; have h9 := sc_len s (s.size + 1) 0; have : (sc s 0).length ≤ s.size - 0 := h9; omega
    exact fnExactScan_core s hs _ hl ea eb (fun w => sScanAll s hs _ rfl w) (fun w h => iScanAll s hs _ rfl ea eb w h) w hE
  · go_enter Tryd.func5, Tryd.ntmps5
    go_wp2_with fail
    go_ret
    exact ⟨rfl, Below.refl _ _⟩
end Go.Proofs.YtefnoeaehglihaaDoor
