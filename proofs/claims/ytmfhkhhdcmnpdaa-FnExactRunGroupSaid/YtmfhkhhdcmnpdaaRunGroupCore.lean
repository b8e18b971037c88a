import Derived.Test.YtmfhkhhdcmnpdaaGrLaw
namespace Go.Proofs.Ytmfhkhhdcmnpdaa
open Go.RowKit
set_option linter.unusedVariables false
/-! FnExactRunGroup (by gengrlaw.py). -/
set_option maxRecDepth 20000 in
set_option maxHeartbeats 8000000 in
theorem fnExactRunGroup_core (mem : Int) (a : Option Addr) (n cap : Nat) (o : Nat → Gop) (pa : Nat → Option Addr) (pc : Nat → Nat) (hn : n ≤ 9223372036854775807) (hs : ∀ k, k < n → (o k).pe.length ≤ 9223372036854775807 ∧ (o k).tx.size ≤ 9223372036854775807) (w : World) (h : Gops w a n cap o pa pc) :
    Calls Try.prog 5 #[.int .i64 mem, .slice a n cap] w fun e w' => e = .returned (.bool true) ∧ Below w.heap.size w w' := by
  have HH := hid h
  have KZ := hid (szGops a n cap o pa pc hn hs w h)
  clear h hs hn
  go_enter Try.func5, Try.ntmps5
  go_wp2_with fail
  refine KZ.out.mono ?_
  rintro e w1 ⟨r, rfl, hr1, hr2, hb1⟩
  have B1 := hid hb1
  clear hb1 KZ
  by_cases hr : r < 0
  · clear hr2
    go_wp2
    go_ret
    exact ⟨rfl, B1.out⟩
  have hsz : n + gTot o n ≤ 1048576 := hr2 (by omega)
  have hn : n ≤ 1048576 := by omega
  have HPE : Hid (∀ k, k < n → (o k).pe.length ≤ 1048576 ∧ (o k).tx.size ≤ 1048576) := fun k hk => by have := gTot_at o hk; omega
  have HSZ := hid hsz
  have TO : Hid (∀ wx, Below w.heap.size w wx → Calls Try.prog 15 #[.slice a n cap] wx fun e w' => ToG n o wx e w') := fun wx hx => toGops a n cap o pa pc hn (fun k hk => (HPE.out k hk).1) wx (HH.out.below hx)
  clear hr2 hsz hr1
  go_wp2_with fail
  refine (TO.out w1 B1.out).mono ?_
  rintro e w2 ⟨b2, pq2, rfl, hm2, hl2, hb2⟩
  have KS := hid (sRun mem _ n n o _ _ hn HPE.out w2 hm2.gops)
  have B2 := hid (B1.out.trans (hb2.mono B1.out.size))
  clear hm2 hl2 hb2 B1
  go_wp2_with fail
  refine KS.out.mono ?_
  intro e w3 hans
  obtain ⟨p0, n0, c0, q0, m0, d0, rfl, hG3, hb3⟩ := hans.gd
  clear hans KS
  obtain ⟨X6, hX6⟩ : ∃ X, X = w3.heap.size := ⟨_, rfl⟩
  obtain ⟨W4, hW4⟩ : ∃ W, W = w3.alloc (.cells #[.slice p0 n0 c0, .slice q0 m0 d0] 31) := ⟨_, rfl⟩
  have b4 : Below w3.heap.size w3 W4 := by rw [hW4]; exact (Below.refl _ _).alloc (Nat.le_refl _) _
  have R4 : Hid (RowAt W4 X6 31 #[.slice p0 n0 c0, .slice q0 m0 d0]) := by rw [hW4, hX6]; exact RowAt.new _ _ _
  have S4 := hid (hG3.below b4)
  have B3 := B2.out.trans (hb3.mono B2.out.size)
  have B4 := hid (B3.trans (b4.mono B3.size))
  have Hw4 : Hid (w.heap.size ≤ W4.heap.size) := B4.out.size
  have HX6 := hid hX6
  have HW4 := hid hW4
  clear hX6 hW4 b4 hG3 hb3 B3 B2
  go_upto_region 6 with fail
  rw [← HW4.out, ← HX6.out]
  clear HW4 HX6
  go_wp2_with fail
  refine (TO.out W4 B4.out).mono ?_
  rintro e w5 ⟨b5, pq5, rfl, hm5, hl5, hb5⟩
  have M5 := hid hm5
  have L5 := hid hl5
  have E5 := hid hb5
  have B5 := hid (B4.out.trans (hb5.mono B4.out.size))
  have KI := hid (iRun mem _ n n o _ _ hn HPE.out w5 hm5.gops)
  clear hm5 hl5 hb5
  go_wp2_with fail
  refine KI.out.mono ?_
  intro e w6 hans
  obtain ⟨p1, n1, c1, q1, m1, d1, rfl, hG6, hb6⟩ := hans.gd
  clear hans KI
  obtain ⟨B, hBB⟩ : ∃ x, x = w5.heap.size := ⟨_, rfl⟩
  rw [← hBB] at hG6 hb6
  obtain ⟨X8, hX8⟩ : ∃ X, X = w6.heap.size := ⟨_, rfl⟩
  obtain ⟨W7, hW7⟩ : ∃ W, W = w6.alloc (.cells #[.slice p1 n1 c1, .slice q1 m1 d1] 31) := ⟨_, rfl⟩
  have b7 : Below w6.heap.size w6 W7 := by rw [hW7]; exact (Below.refl _ _).alloc (Nat.le_refl _) _
  have R7 : Hid (RowAt W7 X8 31 #[.slice p1 n1 c1, .slice q1 m1 d1]) := by rw [hW7, hX8]; exact RowAt.new _ _ _
  have I7 := hid (hG6.below b7)
  have hX8B : Hid (B ≤ X8) := by rw [hX8, hBB]; exact hb6.size
  have h56 : Below w5.heap.size w5 w6 := by rw [← hBB]; exact hb6
  have E7 := hid (E5.out.trans ((h56.trans (b7.mono h56.size)).mono E5.out.size))
  have M7 := hid (M5.out.below (h56.trans (b7.mono h56.size)) (Nat.le_refl _))
  have B7 := hid (B5.out.trans ((h56.trans (b7.mono h56.size)).mono B5.out.size))
  have hB7 : Hid (B ≤ W7.heap.size) := by rw [hBB]; exact Nat.le_trans h56.size b7.size
  have h4B : Hid (W4.heap.size ≤ B) := by rw [hBB]; exact E5.out.size
  have hwB : Hid (w.heap.size ≤ B) := Nat.le_trans Hw4.out h4B.out
  have hb5B : Hid (b5 < B ∧ ∀ k, k < n → pq5 k < B) := ⟨by rw [hBB]; exact M5.out.row.lt, fun k hk => by rw [hBB]; exact (M5.out.pee k hk).1.lt⟩
  have HX8 := hid hX8
  have HW7 := hid hW7
  clear hX8 hW7 b7 hG6 hb6 h56 hBB E5 B5 M5 B4
  go_upto_region 8 with fail
  rw [← HW7.out, ← HX8.out]
  clear HW7 HX8
  have R6 := hid (R4.out.below E7.out R4.out.lt)
  have S7 := hid (S4.out.below E7.out)
  have x0 := R7.out.cell 0
  have x1 := R7.out.cell 1
  have y0 := R6.out.cell 0
  have y1 := R6.out.cell 1
  have KE := hid (eqGd mem n o p1 n1 c1 q1 m1 d1 p0 n0 c0 q0 m0 d0 W7 I7.out.gds S7.out)
  go_wp2_with fail
  refine KE.out.mono ?_
  rintro e w8 ⟨rfl, hb8⟩
  have I8 := hid (I7.out.below hb8)
  have R8 := hid (R7.out.below hb8 R7.out.lt)
  have E8 := hid (E7.out.trans (hb8.mono E7.out.size))
  have M8 := hid (M7.out.below hb8 (Nat.le_refl _))
  have B8 := hid (B7.out.trans (hb8.mono B7.out.size))
  have hB8 : Hid (B ≤ w8.heap.size) := Nat.le_trans hB7.out hb8.size
  clear hb8 KE x0 x1 y0 y1 I7 R7 E7 M7 B7 hB7 R6 S7
  go_wp2_with fail
  refine (TO.out w8 B8.out).mono ?_
  rintro e w9 ⟨b9, pq9, rfl, hm9, hl9, hb9⟩
  have I9 := hid (I8.out.below hb9)
  have R9 := hid (R8.out.below hb9 R8.out.lt)
  have E9 := hid (E8.out.trans (hb9.mono E8.out.size))
  have M9 := hid (M8.out.below hb9 (Nat.le_refl _))
  have B9 := hid (B8.out.trans (hb9.mono B8.out.size))
  have hB9 : Hid (B ≤ w9.heap.size) := Nat.le_trans hB8.out hb9.size
  have KQ := hid (eqGops _ n n o _ _ _ n _ _ hn (fun k hk => (HPE.out k hk).1) w9 M9.out.gops hm9.gops)
  clear hm9 hl9 hb9 I8 R8 E8 M8 B8 hB8
  go_wp2_with fail
  refine KQ.out.mono ?_
  rintro e w10 ⟨rfl, hb10⟩
  have I10 := hid (I9.out.below hb10)
  have R10 := hid (R9.out.below hb10 R9.out.lt)
  have E10 := hid (E9.out.trans (hb10.mono E9.out.size))
  have M10 := hid (M9.out.below hb10 (Nat.le_refl _))
  have B10 := hid (B9.out.trans (hb10.mono B9.out.size))
  have hB10 : Hid (B ≤ w10.heap.size) := Nat.le_trans hB9.out hb10.size
  clear hb10 KQ I9 R9 E9 M9 B9 hB9
  have KG := hid (markGops W4.heap.size B b5 n o pq5 HSZ.out ⟨L5.out, hb5B.out.1⟩ (fun k hk => ⟨Nat.le_trans L5.out (Nat.le_of_lt (M10.out.pee k hk).2), hb5B.out.2 k hk, (M10.out.pee k hk).2⟩) M10.out.ne w10 M10.out.mkS)
  go_wp2_with fail
  refine KG.out.mono ?_
  rintro e w11 ⟨rk, rfl, ht11⟩
  have nk : ¬ ((rk : Nat) : Int) < 0 := by omega
  have dk : decide (((rk : Nat) : Int) < 0) = false := decide_eq_false nk
  have I11 := hid (I10.out.turned ht11 (Nat.le_refl _))
  have R11 := hid (R10.out.turned ht11 (.inr hX8B.out))
  have E11 := hid (Turned.below E10.out ht11 (Nat.le_refl _) E10.out.size)
  have B11 := hid (Turned.below B10.out ht11 Hw4.out B10.out.size)
  have hB11 : Hid (B ≤ w11.heap.size) := Nat.le_trans hB10.out ht11.size
  clear ht11 KG I10 R10 E10 M10 B10 hB10
  have R6 := hid (R4.out.below E11.out R4.out.lt)
  have S11 := hid (S4.out.below E11.out)
  have x0 := R11.out.cell 0
  have x1 := R11.out.cell 1
  have y0 := R6.out.cell 0
  have y1 := R6.out.cell 1
  have KE := hid (eqGd mem n o p1 n1 c1 q1 m1 d1 p0 n0 c0 q0 m0 d0 w11 I11.out.gds S11.out)
  go_wp2_with fail
  refine KE.out.mono ?_
  rintro e w12 ⟨rfl, hb12⟩
  have I12 := hid (I11.out.below hb12)
  have R12 := hid (R11.out.below hb12 R11.out.lt)
  have E12 := hid (E11.out.trans (hb12.mono E11.out.size))
  have B12 := hid (B11.out.trans (hb12.mono B11.out.size))
  have hB12 : Hid (B ≤ w12.heap.size) := Nat.le_trans hB11.out hb12.size
  clear hb12 KE x0 x1 y0 y1 I11 R11 E11 B11 hB11 R6 S11 nk dk
  have x0 := R12.out.cell 0
  have x1 := R12.out.cell 1
  obtain ⟨m, KM⟩ := markGd mem n o B p1 n1 c1 q1 m1 d1 w12 hB12.out I12.out
  have KM := hid KM
  go_wp2_with fail
  refine KM.out.mono ?_
  rintro e w13 ⟨rfl, hk13, hb13, hg13⟩
  have K13 := hid hk13
  have R13 := hid (hg13 _ _ R12.out)
  have E13 := hid (E12.out.trans (hb13.mono h4B.out))
  have B13 := hid (B12.out.trans (hb13.mono hwB.out))
  have nm : ¬ ((m : Nat) : Int) < 0 := by omega
  have dm : (((m : Nat) : Int) != ((m : Nat) : Int)) = false := by simp
  clear hk13 hb13 hg13 KM x0 x1 I12 R12 E12 B12 hB12
  have x0 := R13.out.cell 0
  have x1 := R13.out.cell 1
  have KH := hid (heldGd mem n o B p1 n1 c1 q1 m1 d1 m w13 K13.out)
  go_wp2_with fail
  refine KH.out.mono ?_
  rintro e w14 ⟨rfl, hb14⟩
  have K14 := hid (K13.out.below hb14)
  have R14 := hid (R13.out.below hb14 R13.out.lt)
  have E14 := hid (E13.out.trans (hb14.mono E13.out.size))
  have B14 := hid (B13.out.trans (hb14.mono B13.out.size))
  clear hb14 KH x0 x1 K13 R13 E13 B13
  go_wp2_with fail
  refine (TO.out w14 B14.out).mono ?_
  rintro e w15 ⟨b15, pq15, rfl, hm15, hl15, hb15⟩
  have K15 := hid (K14.out.below hb15)
  have R15 := hid (R14.out.below hb15 R14.out.lt)
  have E15 := hid (E14.out.trans (hb15.mono E14.out.size))
  have B15 := hid (B14.out.trans (hb15.mono B14.out.size))
  have KI := hid (iRun mem _ n n o _ _ hn HPE.out w15 hm15.gops)
  clear hm15 hl15 hb15 K14 R14 E14 B14
  go_wp2_with fail
  refine KI.out.mono ?_
  intro e w16 hans
  obtain ⟨p2, n2, c2, q2, m2, d2, rfl, hG16, hb16⟩ := hans.gd
  clear hans KI
  obtain ⟨X9, hX9⟩ : ∃ X, X = w16.heap.size := ⟨_, rfl⟩
  obtain ⟨W17, hW17⟩ : ∃ W, W = w16.alloc (.cells #[.slice p2 n2 c2, .slice q2 m2 d2] 31) := ⟨_, rfl⟩
  have b17 : Below w16.heap.size w16 W17 := by rw [hW17]; exact (Below.refl _ _).alloc (Nat.le_refl _) _
  have R17 : Hid (RowAt W17 X9 31 #[.slice p2 n2 c2, .slice q2 m2 d2]) := by rw [hW17, hX9]; exact RowAt.new _ _ _
  have h17 : Below w15.heap.size w15 W17 := hb16.trans (b17.mono hb16.size)
  have I17 := hid (hG16.below b17).gds
  have K17 := hid (K15.out.below h17)
  have Q17 := hid (R15.out.below h17 R15.out.lt)
  have E17 := hid (E15.out.trans (h17.mono E15.out.size))
  have B17 := hid (B15.out.trans (h17.mono B15.out.size))
  have HX9 := hid hX9
  have HW17 := hid hW17
  clear hX9 hW17 b17 hG16 hb16 h17 K15 R15 E15 B15
  go_upto_region 25 with fail
  rw [← HW17.out, ← HX9.out]
  clear HW17 HX9
  have R6 := hid (R4.out.below E17.out R4.out.lt)
  have S17 := hid (S4.out.below E17.out)
  have x0 := R17.out.cell 0
  have x1 := R17.out.cell 1
  have y0 := R6.out.cell 0
  have y1 := R6.out.cell 1
  have KE := hid (eqGd mem n o p2 n2 c2 q2 m2 d2 p0 n0 c0 q0 m0 d0 W17 I17.out S17.out)
  go_wp2_with fail
  refine KE.out.mono ?_
  rintro e w18 ⟨rfl, hb18⟩
  have K18 := hid (K17.out.below hb18)
  have R18 := hid (Q17.out.below hb18 Q17.out.lt)
  have B18 := hid (B17.out.trans (hb18.mono B17.out.size))
  clear hb18 KE x0 x1 y0 y1 I17 K17 Q17 E17 B17 R17 R6 S17
  have x0 := R18.out.cell 0
  have x1 := R18.out.cell 1
  have KH := hid (heldGd mem n o B p1 n1 c1 q1 m1 d1 m w18 K18.out)
  go_wp2_with fail
  refine KH.out.mono ?_
  rintro e w19 ⟨rfl, hb19⟩
  have B19 := hid (B18.out.trans (hb19.mono B18.out.size))
  clear hb19 KH x0 x1
  go_wp2
  go_ret
  exact ⟨rfl, B19.out⟩
end Go.Proofs.Ytmfhkhhdcmnpdaa
