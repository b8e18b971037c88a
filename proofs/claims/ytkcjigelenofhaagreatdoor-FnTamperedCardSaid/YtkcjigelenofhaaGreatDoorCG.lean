import Derived.Test.YtkcjigelenofhaaGreatDoorCT
import Derived.Test.YtkcjigelenofhaaGreatDoorCD
namespace Go.Proofs.YtkcjigelenofhaaGreatDoor
open Go.RowKit
set_option linter.unusedVariables false
set_option maxRecDepth 20000 in
set_option maxHeartbeats 8000000 in
theorem iPartG (mt pt : ByteArray) (a1 : Option Addr) (n1 c1 : Nat) (o1 : Nat → Hp) (a2 : Option Addr) (n2 c2 : Nat) (o2 : Nat → Hp) (bd : ByteArray) (hB : RqB ⟨mt, pt, ⟨a1, n1, c1, o1⟩, ⟨a2, n2, c2, o2⟩, bd⟩ 1048576) (hck : ckP ⟨mt, pt, ⟨a1, n1, c1, o1⟩, ⟨a2, n2, c2, o2⟩, bd⟩) (w : World) (hv : RdV w) (h : RqIn w ⟨mt, pt, ⟨a1, n1, c1, o1⟩, ⟨a2, n2, c2, o2⟩, bd⟩) :
 Calls Tryz.prog 54 #[.agg #[.string mt, .string pt, .slice a1 n1 c1, .slice a2 n2 c2, .string bd]] w fun e w' => PtO ⟨mt, pt, ⟨a1, n1, c1, o1⟩, ⟨a2, n2, c2, o2⟩, bd⟩ w' e ∧ Below w.heap.size w w' := by
 obtain ⟨W1, hW1⟩ : ∃ W, W = ((w.alloc (.cells #[.string mt, .string pt, .slice a1 n1 c1, .slice a2 n2 c2, .string bd] 25)).alloc (.cells #[.string ⟨#[]⟩, .string ⟨#[]⟩, .slice none 0 0, .slice none 0 0, .string ⟨#[]⟩] 25)).alloc (.cells #[.string ⟨#[]⟩, .int .i64 0, .int .i64 0, .slice none 0 0] 72) := ⟨_, rfl⟩
 have X1 : Hid (RowAt W1 w.heap.size 25 #[.string mt, .string pt, .slice a1 n1 c1, .slice a2 n2 c2, .string bd]) := by rw [hW1]; exact ((RowAt.new _ _ _).alloc _).alloc _
 have X2 : Hid (RowAt W1 (w.heap.size + 1) 25 #[.string ⟨#[]⟩, .string ⟨#[]⟩, .slice none 0 0, .slice none 0 0, .string ⟨#[]⟩]) := by rw [hW1]; exact (RowAt.next _ _ _ (by simp only [size_al])).alloc _
 have X3 : Hid (RowAt W1 (w.heap.size + 2) 72 #[.string ⟨#[]⟩, .int .i64 0, .int .i64 0, .slice none 0 0]) := by rw [hW1]; exact RowAt.next _ _ _ (by simp only [size_al])
 have B1 : Hid (Below w.heap.size w W1) := by rw [hW1]; exact (((Below.refl _ _).alloc (Nat.le_refl _) _).alloc (by simp) _).alloc (by simp; omega) _
 have KR := fun wx (hbx : Below w.heap.size w wx) => hid (iRqF ⟨mt, pt, ⟨a1, n1, c1, o1⟩, ⟨a2, n2, c2, o2⟩, bd⟩ hB wx (h.below hbx))
 obtain ⟨RVv, hRV⟩ : ∃ v, v = rqV ⟨mt, pt, ⟨a1, n1, c1, o1⟩, ⟨a2, n2, c2, o2⟩, bd⟩ := ⟨_, rfl⟩
 have HRV := hid hRV
 rw [← hRV] at KR
 have HCK := hid hck
 have HIN := hid h
 have HBB := hid hB
 have HV := hid hv
 have HW1 := hid hW1
 have n1b : n1 ≤ 1048576 := hB.qs.1
 have x0 := X1.out.cell 0
 have x1 := X1.out.cell 1
 have x2 := X1.out.cell 2
 have x3 := X1.out.cell 3
 have x4 := X1.out.cell 4
 clear hW1 h hB hv hRV hck
 go_enter Tryz.func54, Tryz.ntmps54
 go_upto_region 1 with fail
 rw [← HW1.out]
 clear HW1
 go_wp2_with fail
 refine (KR _ B1.out).out.mono ?_
 rintro e w2 ⟨rfl, hb2⟩
 have X1b := hid (RowAt.nxS hb2 X1.out)
 have X2b := hid (RowAt.nxS hb2 X2.out)
 have X3b := hid (RowAt.nxS hb2 X3.out)
 have B2 := hid (B1.out.trans (hb2.mono B1.out.size))
 clear hb2 X1 X2 X3 B1 x0 x1 x2 x3 x4 KR
 have x2 := X1b.out.cell 2
 by_cases h1 : rqP ⟨mt, pt, ⟨a1, n1, c1, o1⟩, ⟨a2, n2, c2, o2⟩, bd⟩
 case neg =>
  have v1 : RVv = 1 := by rw [HRV.out]; exact rqV_f h1
  subst v1
  have NO : Hid (¬ ckP ⟨mt, pt, ⟨a1, n1, c1, o1⟩, ⟨a2, n2, c2, o2⟩, bd⟩) := fun q => h1 q.1
  exact absurd HCK.out NO.out
 have v1 : RVv = 0 := by rw [HRV.out]; exact rqV_t h1
 subst v1
 have H1 := hid h1
 clear h1
 by_cases h5 : 5 ≤ n1
 case neg =>
  have d5 : (n1 : Int) < 5 := by omega
  have d6 : decide ((n1 : Int) < 5) = true := decide_eq_true d5
  have NO : Hid (¬ ckP ⟨mt, pt, ⟨a1, n1, c1, o1⟩, ⟨a2, n2, c2, o2⟩, bd⟩) := fun q => h5 q.2.1
  exact absurd HCK.out NO.out
 have d5 : ¬ (n1 : Int) < 5 := by omega
 have d6 : decide ((n1 : Int) < 5) = false := decide_eq_false d5
 obtain ⟨nn, hnn⟩ : ∃ k, n1 = k + 5 := ⟨n1 - 5, by omega⟩
 rcases HIN.out.qs.2 with q0 | ⟨qb, qo, hqe, _, _⟩
 · dsimp only at q0; omega
 dsimp only at hqe
 subst hqe
 have cap1 : n1 ≤ c1 := HIN.out.qs.1
 have e5 : (n1 : Int) - 5 = (nn : Int) := by omega
 have e6 : n1 - nn = 5 := by omega
 have l1 : (nn : Int) ≤ (c1 : Int) := by omega
 have l2 : (nn : Int) ≤ (n1 : Int) := by omega
 have l3 : (n1 : Int) ≤ (c1 : Int) := by omega
 have l4 : (0 : Int) ≤ (nn : Int) := by omega
 have e7 : (n1 : Int) - (nn : Int) = 5 := by omega
 replace hnn := hid hnn
 clear h5
 go_upto_region 3 with fail
 go_quiet (fail)
 rename_i nq
 obtain ⟨w3, hw3⟩ : ∃ W, W = w2.drewN nq := ⟨_, rfl⟩
 have X1c : Hid (RowAt w3 w.heap.size 25 #[.string mt, .string pt, .slice (some ⟨qb, qo, none⟩) n1 c1, .slice a2 n2 c2, .string bd]) := by rw [hw3]; exact X1b.out
 have X2c : Hid (RowAt w3 (w.heap.size + 1) 25 #[.string ⟨#[]⟩, .string ⟨#[]⟩, .slice none 0 0, .slice none 0 0, .string ⟨#[]⟩]) := by rw [hw3]; exact X2b.out
 have X3c : Hid (RowAt w3 (w.heap.size + 2) 72 #[.string ⟨#[]⟩, .int .i64 0, .int .i64 0, .slice none 0 0]) := by rw [hw3]; exact X3b.out
 have B3 : Hid (Below w.heap.size w w3) := by rw [hw3]; exact bdNS B2.out nq
 rw [← hw3]
 clear hw3 X1b X2b X3b B2 x2
 generalize hto : qo + nn * 2 = tq
 have CE : Hid (∀ wx, Below w.heap.size w wx → ∀ k, k < 5 → wx.cell? ⟨qb, tq + k * 2, none⟩ = some (.string (o1 (nn + k)).nm) ∧ wx.cell? ⟨qb, tq + k * 2 + 1, none⟩ = some (.string (ckV ⟨mt, pt, ⟨some ⟨qb, qo, none⟩, n1, c1, o1⟩, ⟨a2, n2, c2, o2⟩, bd⟩ k))) := fun wx hbx k hk => by
  rcases (HIN.out.below hbx).qs.2 with q0 | ⟨b, off, hqe, hbl, hc⟩
  · dsimp only at q0; omega
  cases hqe
  have e8 : tq + k * 2 = qo + (nn + k) * 2 := by omega
  have e9 : ckV ⟨mt, pt, ⟨some ⟨qb, qo, none⟩, n1, c1, o1⟩, ⟨a2, n2, c2, o2⟩, bd⟩ k = (o1 (nn + k)).vl := by unfold ckV; show (o1 (n1 - 5 + k)).vl = _; rw [show n1 - 5 = nn by have := hnn.out; omega]
  rw [e8, e9]
  exact hc (nn + k) (by dsimp only; have := hnn.out; omega)
 have VS : Hid (∀ k, k < 5 → (ckV ⟨mt, pt, ⟨some ⟨qb, qo, none⟩, n1, c1, o1⟩, ⟨a2, n2, c2, o2⟩, bd⟩ k).size ≤ 1000) := fun k hk => by
  have e9 : ckV ⟨mt, pt, ⟨some ⟨qb, qo, none⟩, n1, c1, o1⟩, ⟨a2, n2, c2, o2⟩, bd⟩ k = (o1 (nn + k)).vl := by unfold ckV; show (o1 (n1 - 5 + k)).vl = _; rw [show n1 - 5 = nn by have := hnn.out; omega]
  rw [e9]; exact (H1.out.2.2.2.2.2.1 (nn + k) (by dsimp only; have := hnn.out; omega)).2.2
 have HTO := hid hto
 clear hto
 obtain ⟨V0, hV0⟩ : ∃ v, v = ckV ⟨mt, pt, ⟨some ⟨qb, qo, none⟩, n1, c1, o1⟩, ⟨a2, n2, c2, o2⟩, bd⟩ 0 := ⟨_, rfl⟩
 obtain ⟨V1, hV1⟩ : ∃ v, v = ckV ⟨mt, pt, ⟨some ⟨qb, qo, none⟩, n1, c1, o1⟩, ⟨a2, n2, c2, o2⟩, bd⟩ 1 := ⟨_, rfl⟩
 obtain ⟨V2, hV2⟩ : ∃ v, v = ckV ⟨mt, pt, ⟨some ⟨qb, qo, none⟩, n1, c1, o1⟩, ⟨a2, n2, c2, o2⟩, bd⟩ 2 := ⟨_, rfl⟩
 obtain ⟨V3, hV3⟩ : ∃ v, v = ckV ⟨mt, pt, ⟨some ⟨qb, qo, none⟩, n1, c1, o1⟩, ⟨a2, n2, c2, o2⟩, bd⟩ 3 := ⟨_, rfl⟩
 obtain ⟨V4, hV4⟩ : ∃ v, v = ckV ⟨mt, pt, ⟨some ⟨qb, qo, none⟩, n1, c1, o1⟩, ⟨a2, n2, c2, o2⟩, bd⟩ 4 := ⟨_, rfl⟩
 obtain ⟨N4, hN4⟩ : ∃ v, v = (o1 (nn + 4)).nm := ⟨_, rfl⟩
 have HVV : Hid (V0 = ckV ⟨mt, pt, ⟨some ⟨qb, qo, none⟩, n1, c1, o1⟩, ⟨a2, n2, c2, o2⟩, bd⟩ 0 ∧ V1 = ckV ⟨mt, pt, ⟨some ⟨qb, qo, none⟩, n1, c1, o1⟩, ⟨a2, n2, c2, o2⟩, bd⟩ 1 ∧ V2 = ckV ⟨mt, pt, ⟨some ⟨qb, qo, none⟩, n1, c1, o1⟩, ⟨a2, n2, c2, o2⟩, bd⟩ 2 ∧ V3 = ckV ⟨mt, pt, ⟨some ⟨qb, qo, none⟩, n1, c1, o1⟩, ⟨a2, n2, c2, o2⟩, bd⟩ 3 ∧ V4 = ckV ⟨mt, pt, ⟨some ⟨qb, qo, none⟩, n1, c1, o1⟩, ⟨a2, n2, c2, o2⟩, bd⟩ 4 ∧ N4 = (o1 (nn + 4)).nm) := ⟨hV0, hV1, hV2, hV3, hV4, hN4⟩
 have CV : Hid (∀ wx, Below w.heap.size w wx → (wx.cell? ⟨qb, tq + 1, none⟩ = some (.string V0) ∧ wx.cell? ⟨qb, tq + 3, none⟩ = some (.string V1) ∧ wx.cell? ⟨qb, tq + 5, none⟩ = some (.string V2) ∧ wx.cell? ⟨qb, tq + 7, none⟩ = some (.string V3)) ∧ wx.cell? ⟨qb, tq + 8, none⟩ = some (.string N4) ∧ wx.cell? ⟨qb, tq + 9, none⟩ = some (.string V4)) := fun wx hbx => by
  rw [hV0, hV1, hV2, hV3, hV4, hN4]
  exact ⟨⟨(CE.out wx hbx 0 (by omega)).2, (CE.out wx hbx 1 (by omega)).2, (CE.out wx hbx 2 (by omega)).2, (CE.out wx hbx 3 (by omega)).2⟩, (CE.out wx hbx 4 (by omega)).1, (CE.out wx hbx 4 (by omega)).2⟩
 have s1 : V1.size ≤ 1048576 := by rw [hV1]; have := VS.out 1 (by omega); omega
 have s2 : V2.size ≤ 1048576 := by rw [hV2]; have := VS.out 2 (by omega); omega
 have s3 : V3.size ≤ 1048576 := by rw [hV3]; have := VS.out 3 (by omega); omega
 have s4 : V4.size ≤ 1048576 := by rw [hV4]; have := VS.out 4 (by omega); omega
 clear hV0 hV1 hV2 hV3 hV4 hN4
 obtain ⟨y8, y9⟩ := (CV.out w3 B3.out).2
 obtain ⟨W4, hW4⟩ : ∃ W, W = w3.alloc (.cells #[.string N4, .string V4] 66) := ⟨_, rfl⟩
 have b34 : Below w3.heap.size w3 W4 := by rw [hW4]; exact (Below.refl _ _).alloc (Nat.le_refl _) _
 obtain ⟨X8, hX8⟩ : ∃ X, X = w3.heap.size := ⟨_, rfl⟩
 have X8d : Hid (RowAt W4 X8 66 #[.string N4, .string V4]) := by rw [hW4, hX8]; exact RowAt.new _ _ _
 have X1d := hid (RowAt.nxS b34 X1c.out)
 have X2d := hid (RowAt.nxS b34 X2c.out)
 have X3d := hid (RowAt.nxS b34 X3c.out)
 have B4 := hid (B3.out.trans (b34.mono B3.out.size))
 have HW4 := hid hW4
 have HX8 := hid hX8
 have x8l : w.heap.size + 2 < X8 := by rw [hX8]; exact X3c.out.lt
 clear hW4 hX8 b34
 have y8b : w3.cell? ⟨qb, tq + 8 + 1, none⟩ = some (.string V4) := y9
 go_upto_region 5 with ((refine wpList_store_row rfl 66 (.tmp 8) (.tmp 36) rfl w3.heap.size #[.string N4, .string V4] rfl rfl _ _ (RowAt.new w3 _ _) (by kernel_rfl) rfl (by simp [Value.oneCell']) ?_); rw [World.setRow_alloc_new])
 rw [← HW4.out, ← HX8.out]
 clear HW4 y8 y9 y8b X1c X2c X3c
 have KRS := hid (iRSig qb tq (c1 - nn) V0 V1 V2 V3 s1 s2 s3 W4 (HV.out.below B4.out) (fun wx hx => (CV.out wx (B4.out.trans (hx.mono B4.out.size))).1))
 go_wp2_with fail
 refine KRS.out.mono ?_
 rintro e w5 ⟨⟨z1, z2, sA, mc, rfl, hd1, hd2, hsg⟩, hb5⟩
 have X1e := hid (RowAt.nxS hb5 X1d.out)
 have X2e := hid (RowAt.nxS hb5 X2d.out)
 have X3e := hid (RowAt.nxS hb5 X3d.out)
 have X8e := hid (RowAt.nxS hb5 X8d.out)
 have B5 := hid (B4.out.trans (hb5.mono B4.out.size))
 have HD1 := hid hd1
 have HD2 := hid hd2
 obtain ⟨SL, hSL⟩ : ∃ L, L = sgT V3 := ⟨_, rfl⟩
 rw [← hSL] at hsg ⊢
 have HSL := hid hSL
 have HSG := hid hsg
 clear hb5 hd1 hd2 hsg hSL X1d X2d X3d X8d B4 KRS
 obtain ⟨W6, hW6⟩ : ∃ W, W = w5.setRow (w.heap.size + 2) #[.string V0, .int .i64 z1, .int .i64 z2, .slice sA SL.length mc] := ⟨_, rfl⟩
 have X1f : Hid (RowAt W6 w.heap.size 25 #[.string mt, .string pt, .slice (some ⟨qb, qo, none⟩) n1 c1, .slice a2 n2 c2, .string bd]) := by rw [hW6]; exact X1e.out.otherRow _ _ (by omega)
 have X2f : Hid (RowAt W6 (w.heap.size + 1) 25 #[.string ⟨#[]⟩, .string ⟨#[]⟩, .slice none 0 0, .slice none 0 0, .string ⟨#[]⟩]) := by rw [hW6]; exact X2e.out.otherRow _ _ (by omega)
 have X3f : Hid (RowAt W6 (w.heap.size + 2) 72 #[.string V0, .int .i64 z1, .int .i64 z2, .slice sA SL.length mc]) := by rw [hW6]; exact X3e.out.setRow _
 have X8f : Hid (RowAt W6 X8 66 #[.string N4, .string V4]) := by rw [hW6]; exact X8e.out.otherRow _ _ (by omega)
 have SG6 : Hid (SgAt W6 sA mc SL) := by rw [hW6]; exact HSG.out.setRow X3e.out (by decide) _
 have B6 : Hid (Below w.heap.size w W6) := by rw [hW6]; exact below_setRow B5.out _ _ (by omega)
 have HW6 := hid hW6
 clear hW6 X1e X2e X8e HSG B5
 go_upto_region 6 with (refine wpList_store_row rfl 72 (.tmp 3) (.tmp 38) rfl (w.heap.size + 2) #[.string V0, .int .i64 z1, .int .i64 z2, .slice sA SL.length mc] rfl rfl _ _ X3e.out (by kernel_rfl) rfl (by simp [Value.oneCell']) ?_)
 rw [← HW6.out]
 clear HW6 X3e
 have y81 := X8f.out.cell 1
 have K4 := hid (iRDec2 V4 s4 W6 (HV.out.below B6.out))
 go_wp2_with fail
 refine K4.out.mono ?_
 rintro e w7 ⟨⟨z4, rfl, hd4⟩, hb7⟩
 have X1g := hid (RowAt.nxS hb7 X1f.out)
 have X2g := hid (RowAt.nxS hb7 X2f.out)
 have X3g := hid (RowAt.nxS hb7 X3f.out)
 have X8g := hid (RowAt.nxS hb7 X8f.out)
 have SG7 := hid (SG6.out.below hb7)
 have B7 := hid (B6.out.trans (hb7.mono B6.out.size))
 have HD4 := hid hd4
 clear y81 K4 hd4 hb7 X1f X2f X3f X8f SG6 B6
 have CKI : Hid (ckP ⟨mt, pt, ⟨some ⟨qb, qo, none⟩, n1, c1, o1⟩, ⟨a2, n2, c2, o2⟩, bd⟩ ↔ (eqH 4 (hAt (sg4B V0 (ofL (Lib.itoa z1)) (ofL (Lib.itoa z2)) V3)) 4 (fun i => o1 (nn + i)) ∧ N4 = ckNm 4) ∧ ftP V0 z1 z2 nn o1 n2 o2 (tAt SL) SL.length ∧ 0 ≤ z4 ∧ z4 < 2147483647) := by
  obtain ⟨e0, e1, e2, e3, e4, e5⟩ := HVV.out
  have q := ckP_iff (r := ⟨mt, pt, ⟨some ⟨qb, qo, none⟩, n1, c1, o1⟩, ⟨a2, n2, c2, o2⟩, bd⟩) (nn := nn) (z1 := z1) (z2 := z2) (z4 := z4) H1.out hnn.out (by rw [← e1]; exact HD1.out.2) (by rw [← e2]; exact HD2.out.2) (by rw [← e4]; exact HD4.out.2)
  have eS : ckS ⟨mt, pt, ⟨some ⟨qb, qo, none⟩, n1, c1, o1⟩, ⟨a2, n2, c2, o2⟩, bd⟩ = SL := by unfold ckS; rw [← e3]; exact HSL.out.symm
  rw [← e0, ← e3, eS] at q
  rw [e5]
  exact q
 have KP : Hid (∀ wx, Below w7.heap.size w7 wx → SgAt wx sA mc SL → Calls Tryz.prog 43 #[.agg #[.string V0, .int .i64 z1, .int .i64 z2, .slice sA SL.length mc]] wx fun e w' => ∃ X, e = .returned (.slice (some ⟨X, 0, none⟩) 4 4) ∧ Hps w' (some ⟨X, 0, none⟩) 4 4 (hAt (sg4B V0 (ofL (Lib.itoa z1)) (ofL (Lib.itoa z2)) V3)) ∧ Below wx.heap.size wx w') := fun wx hx hs => by
  have hs' := hs.strs
  rw [HSL.out] at hs' ⊢
  exact iSPairsV V0 V3 s3 z1 z2 ⟨HD1.out.1, HD1.out.2.1⟩ ⟨HD2.out.1, HD2.out.2.1⟩ sA mc wx (HV.out.below (B7.out.trans (hx.mono B7.out.size))) hs'
 have KT : Hid (∀ wx, Below w.heap.size w wx → Hps wx (some ⟨qb, tq, none⟩) 4 (c1 - nn) (fun i => o1 (nn + i))) := fun wx hx => by
  rcases (HIN.out.below hx).qs.2 with q0 | ⟨b, off, hqe, hbl, hc⟩
  · dsimp only at q0; omega
  cases hqe
  refine ⟨by have := hnn.out; omega, .inr ⟨qb, tq, rfl, hbl, fun k hk => ?_⟩⟩
  have q := CE.out wx hx k (by omega)
  have e9 : ckV ⟨mt, pt, ⟨some ⟨qb, qo, none⟩, n1, c1, o1⟩, ⟨a2, n2, c2, o2⟩, bd⟩ k = (o1 (nn + k)).vl := by unfold ckV; show (o1 (n1 - 5 + k)).vl = _; rw [show n1 - 5 = nn by have := hnn.out; omega]
  rw [e9] at q
  exact q
 have KE : Hid (∀ wx X, Below w7.heap.size w7 wx → Hps wx (some ⟨X, 0, none⟩) 4 4 (hAt (sg4B V0 (ofL (Lib.itoa z1)) (ofL (Lib.itoa z2)) V3)) → Calls Tryz.prog 94 #[.slice (some ⟨X, 0, none⟩) 4 4, .slice (some ⟨qb, tq, none⟩) 4 (c1 - nn)] wx fun e w' => e = .returned (.bool (pb (eqH 4 (hAt (sg4B V0 (ofL (Lib.itoa z1)) (ofL (Lib.itoa z2)) V3)) 4 (fun i => o1 (nn + i))))) ∧ Below wx.heap.size wx w') := fun wx X hx hh =>
  iEqP _ 4 4 _ _ 4 _ _ (by omega) wx hh (KT.out wx (B7.out.trans (hx.mono B7.out.size)))
 have C4 : (4 : Int) ≤ ((c1 - nn : Nat) : Int) := by have := hnn.out; omega
 go_upto_region 7 with fail
 by_cases hE : eqH 4 (hAt (sg4B V0 (ofL (Lib.itoa z1)) (ofL (Lib.itoa z2)) V3)) 4 (fun i => o1 (nn + i))
 case neg =>
  have NO : Hid (¬ ckP ⟨mt, pt, ⟨some ⟨qb, qo, none⟩, n1, c1, o1⟩, ⟨a2, n2, c2, o2⟩, bd⟩) := fun q => hE (CKI.out.1 q).1.1
  exact absurd HCK.out NO.out
 by_cases hN : N4 = ckNm 4
 case neg =>
  have NO : Hid (¬ ckP ⟨mt, pt, ⟨some ⟨qb, qo, none⟩, n1, c1, o1⟩, ⟨a2, n2, c2, o2⟩, bd⟩) := fun q => hN (CKI.out.1 q).1.2
  exact absurd HCK.out NO.out
 have KE' := hid (fun wx X hx hh => (pb_t hE) ▸ KE.out wx X hx hh)
 have nq2 : (N4.toList == (⟨#[120, 45, 115, 117, 109]⟩ : ByteArray).toList) = true := (eqL _ _).trans (decide_eq_true hN)
 have nq1 : (N4.toList == [120, 45, 115, 117, 109]) = true := by
  rw [show (⟨#[120, 45, 115, 117, 109]⟩ : ByteArray).toList = [120, 45, 115, 117, 109] from by simp [ByteArray.toList_eq]] at nq2
  exact nq2
 have CK2 : Hid (ckP ⟨mt, pt, ⟨some ⟨qb, qo, none⟩, n1, c1, o1⟩, ⟨a2, n2, c2, o2⟩, bd⟩ ↔ ftP V0 z1 z2 nn o1 n2 o2 (tAt SL) SL.length ∧ 0 ≤ z4 ∧ z4 < 2147483647) := ⟨fun q => (CKI.out.1 q).2, fun q => CKI.out.2 ⟨⟨hE, hN⟩, q⟩⟩
 refine qb_wp w7 (w.heap.size + 2) X8 qb tq (c1 - nn) V0 N4 V4 z1 z2 sA mc SL _ w7 (Below.refl _ _) X3g.out X8g.out SG7.out KP.out KE'.out C4 nq1 nq2 ?_
 intro XP w8 hb8 hx3 _ hsg8 _ _ _ _ _ _
 have X1h := hid (RowAt.nxS hb8 X1g.out)
 have X2h := hid (RowAt.nxS hb8 X2g.out)
 have X3h := hid hx3
 have SG8 := hid hsg8
 have B8 := hid (B7.out.trans (hb8.mono B7.out.size))
 clear hb8 hx3 hsg8 hE hN KE' nq1 nq2 X1g X2g X3g X8g SG7 B7 KP KE KT C4 CKI
 obtain ⟨nq, hnq⟩ : ∃ k, n1 = k + 1 := ⟨n1 - 1, by have := hnn.out; omega⟩
 have g1 : (n1 : Int) - 1 = (nq : Int) := by omega
 have g2 : (nq : Int) ≤ (c1 : Int) := by omega
 have g3 : (nq : Int) ≤ (n1 : Int) := by omega
 have g4 : (0 : Int) ≤ (nq : Int) := by omega
 have HNQ := hid hnq
 clear hnq
 obtain ⟨W9, hW9⟩ : ∃ W, W = w8.setCell ⟨w.heap.size, 2, none⟩ (.slice (some ⟨qb, qo, none⟩) nq c1) := ⟨_, rfl⟩
 have X1i : Hid (RowAt W9 w.heap.size 25 #[.string mt, .string pt, .slice (some ⟨qb, qo, none⟩) nq c1, .slice a2 n2 c2, .string bd]) := by rw [hW9]; exact X1h.out.set 2 _
 have X2i : Hid (RowAt W9 (w.heap.size + 1) 25 #[.string ⟨#[]⟩, .string ⟨#[]⟩, .slice none 0 0, .slice none 0 0, .string ⟨#[]⟩]) := by rw [hW9]; exact X2h.out.other _ _ (by simp)
 have X3i : Hid (RowAt W9 (w.heap.size + 2) 72 #[.string V0, .int .i64 z1, .int .i64 z2, .slice sA SL.length mc]) := by rw [hW9]; exact X3h.out.other _ _ (by simp)
 have SG9 : Hid (SgAt W9 sA mc SL) := by rw [hW9]; exact SgAt.set SG8.out X1h.out (by decide) 2 _
 have B9 : Hid (Below w.heap.size w W9) := by rw [hW9]; exact B8.out.setCell (by simp) _
 have x2 := X1h.out.cell 2
 have f2 := X1h.out.free 2
 have HW9 := hid hW9
 clear hW9
 go_upto_region 9 with fail
 go_upto_region 10 with fail
 rw [← HW9.out]
 clear HW9 x2 f2 g1 g2 g3 g4 X1h X2h X3h SG8 B8
 have KF : Hid (∀ wx, Below w.heap.size w wx → SgAt wx sA mc SL → Calls Tryz.prog 39 #[.agg #[.string V0, .int .i64 z1, .int .i64 z2, .slice sA SL.length mc], .slice (some ⟨qb, qo, none⟩) nn c1, .slice a2 n2 c2] wx fun e w' => e = .returned (.bool (pb (ftP V0 z1 z2 nn o1 n2 o2 (tAt SL) SL.length))) ∧ Below wx.heap.size wx w') := fun wx hx hs => by
  have hq := (HIN.out.below hx).qs
  have hh := (HIN.out.below hx).hs
  have hV := VS.out 3 (by omega)
  rw [← HVV.out.2.2.2.1] at hV
  refine iFits V0 z1 z2 sA SL.length mc (tAt SL) (by have := sgT_len V3; rw [HSL.out]; omega) (fun i _ => by have := tAt_size V3 i; rw [HSL.out]; omega) (some ⟨qb, qo, none⟩) nn c1 o1 (by have := hnn.out; omega) a2 n2 c2 o2 HBB.out.hs.1 (fun i hi => (HBB.out.hs.2 i hi).1) wx ⟨by have := hnn.out; omega, ?_⟩ hh hs.strs
  rcases hq.2 with q0 | ⟨b, off, hqe, hbl, hc⟩
  · dsimp only at q0; omega
  · exact .inr ⟨b, off, hqe, hbl, fun k hk => hc k (by dsimp only; have := hnn.out; omega)⟩
 have STT : w.heap.size ≤ w.heap.size := Nat.le_refl _
 have SZ9 : w.heap.size + 2 < W9.heap.size := X3i.out.lt
 by_cases hF : ftP V0 z1 z2 nn o1 n2 o2 (tAt SL) SL.length
 case neg =>
  have KF' := hid (fun wx hx hs => (pb_f hF) ▸ KF.out wx hx hs)
  have NO : Hid (¬ ckP ⟨mt, pt, ⟨some ⟨qb, qo, none⟩, n1, c1, o1⟩, ⟨a2, n2, c2, o2⟩, bd⟩) := fun q => hF (CK2.out.1 q).1
  exact absurd HCK.out NO.out
 by_cases hG : (0 : Int) ≤ z4
 case neg =>
  have KF' := hid (fun wx hx hs => (pb_t hF) ▸ KF.out wx hx hs)
  have NO : Hid (¬ ckP ⟨mt, pt, ⟨some ⟨qb, qo, none⟩, n1, c1, o1⟩, ⟨a2, n2, c2, o2⟩, bd⟩) := fun q => hG (CK2.out.1 q).2.1
  exact absurd HCK.out NO.out
 have KF' := hid (fun wx hx hs => (pb_t hF) ▸ KF.out wx hx hs)
 have YES : Hid (decide (z4 < 2147483647) = true ↔ ckP ⟨mt, pt, ⟨some ⟨qb, qo, none⟩, n1, c1, o1⟩, ⟨a2, n2, c2, o2⟩, bd⟩) := ⟨fun q => CK2.out.2 ⟨hF, hG, of_decide_eq_true q⟩, fun q => decide_eq_true (CK2.out.1 q).2.2⟩
 clear hF KF CK2
 refine pc_wp w w.heap.size (w.heap.size + 1) (w.heap.size + 2) nn mt pt bd V0 (some ⟨qb, qo, none⟩) nq c1 a2 n2 c2 z1 z2 z4 sA mc SL W9 B9.out X1i.out X2i.out X3i.out SG9.out KF'.out ⟨by omega, by omega, by omega, by omega, by omega, by omega⟩ hG ?_
 intro dm w10 hB10 _ hx2 hx3 hsg10 _ _ _
 have X2j := hid hx2
 have X3j := hid hx3
 have SGj := hid hsg10
 have Bj := hid hB10
 clear hx2 hx3 hsg10 hB10
 have PT : Hid (PtO ⟨mt, pt, ⟨some ⟨qb, qo, none⟩, n1, c1, o1⟩, ⟨a2, n2, c2, o2⟩, bd⟩ w10 (.returned (.tuple #[.agg #[.string mt, .string pt, .slice (some ⟨qb, qo, none⟩) nq c1, .slice a2 n2 c2, .string bd], .agg #[.string V0, .int .i64 z1, .int .i64 z2, .slice sA SL.length mc], .int .i64 z4, .bool (decide (z4 < 2147483647))]))) := by
  refine ⟨_, _, _, _, _, _, _, _, _, _, _, _, _, _, _, _, _, rfl, YES.out, fun q => ?_⟩
  have hck := YES.out.1 q
  obtain ⟨_, _, _, _, t1, t2, _, t4⟩ := hck
  obtain ⟨e0, e1, e2, e3, e4, e5⟩ := HVV.out
  have eS : ckS ⟨mt, pt, ⟨some ⟨qb, qo, none⟩, n1, c1, o1⟩, ⟨a2, n2, c2, o2⟩, bd⟩ = SL := by unfold ckS; rw [← e3]; exact HSL.out.symm
  refine ⟨⟨rfl, rfl, rfl, by have := HNQ.out; show nq = n1 - 1; omega, rfl⟩, ⟨rfl, rfl, rfl, rfl⟩, ⟨e0, dec_tmV (by rw [← e1]; exact HD1.out.2) t1, dec_tmV (by rw [← e2]; exact HD2.out.2) t2, dec_smV (by rw [← e4]; exact HD4.out.2) t4⟩, by rw [eS], by rw [eS]; exact SGj.out⟩
 go_wp2
 refine bodyPost_ret (v := .tuple #[.agg #[.string mt, .string pt, .slice (some ⟨qb, qo, none⟩) nq c1, .slice a2 n2 c2, .string bd], .agg #[.string V0, .int .i64 z1, .int .i64 z2, .slice sA SL.length mc], .int .i64 z4, .bool (decide (z4 < 2147483647))]) ?_ rfl ⟨PT.out, Bj.out⟩
 exact results_rr_tmp2 Tryz.results54 _ _ (w.heap.size + 1) _ _ _ _ (w.heap.size + 2) _ _ _ _ _ _ rfl rfl rfl rfl X2j.out X3j.out Tryz.underlying25 rfl (by kernel_rfl) Tryz.underlying72 rfl (by kernel_rfl)
end Go.Proofs.YtkcjigelenofhaaGreatDoor
namespace Go.Proofs.YtkcjigelenofhaaGreatDoor
open Go.RowKit
set_option linter.unusedVariables false
set_option maxRecDepth 20000 in
set_option maxHeartbeats 8000000 in
theorem iCheckG (mt pt : ByteArray) (a1 : Option Addr) (n1 c1 : Nat) (o1 : Nat → Hp) (a2 : Option Addr) (n2 c2 : Nat) (o2 : Nat → Hp) (bd : ByteArray) (kA : Option Addr) (n kc : Nat) (ks : Nat → Ak) (now : Int) (hB : RqB ⟨mt, pt, ⟨a1, n1, c1, o1⟩, ⟨a2, n2, c2, o2⟩, bd⟩ 1048576) (hn : n ≤ 1048576) (hck : ckP ⟨mt, pt, ⟨a1, n1, c1, o1⟩, ⟨a2, n2, c2, o2⟩, bd⟩) (w : World) (hv : RdV w) (h : RqIn w ⟨mt, pt, ⟨a1, n1, c1, o1⟩, ⟨a2, n2, c2, o2⟩, bd⟩) (hK : Aks w kA n kc ks) :
 Calls Tryz.prog 11 #[.agg #[.string mt, .string pt, .slice a1 n1 c1, .slice a2 n2 c2, .string bd], .slice kA n kc, .int .i64 now] w fun e w' => e = .returned (.agg #[.int .i64 (ckR ⟨mt, pt, ⟨a1, n1, c1, o1⟩, ⟨a2, n2, c2, o2⟩, bd⟩ n ks now).1, .string (ckR ⟨mt, pt, ⟨a1, n1, c1, o1⟩, ⟨a2, n2, c2, o2⟩, bd⟩ n ks now).2]) ∧ Below w.heap.size w w' := by
 obtain ⟨W1, hW1⟩ : ∃ W, W = (w.alloc (.cells #[.string mt, .string pt, .slice a1 n1 c1, .slice a2 n2 c2, .string bd] 25)).alloc (.cells #[.int .i64 0, .string ⟨#[]⟩] 35) := ⟨_, rfl⟩
 have X3 : RowAt W1 w.heap.size 25 #[.string mt, .string pt, .slice a1 n1 c1, .slice a2 n2 c2, .string bd] := by rw [hW1]; exact (RowAt.new _ _ _).alloc _
 have X6 : Hid (RowAt W1 (w.heap.size + 1) 35 #[.int .i64 0, .string ⟨#[]⟩]) := by rw [hW1]; exact RowAt.next _ _ _ (by simp only [size_al])
 have B1 : Hid (Below w.heap.size w W1) := by rw [hW1]; exact ((Below.refl _ _).alloc (Nat.le_refl _) _).alloc (by simp) _
 obtain ⟨RR, hRR⟩ : ∃ x, x = ckR ⟨mt, pt, ⟨a1, n1, c1, o1⟩, ⟨a2, n2, c2, o2⟩, bd⟩ n ks now := ⟨_, rfl⟩
 rw [← hRR]
 have HRR := hid hRR
 have HW1 := hid hW1
 have HBB := hid hB
 have HV := hid hv
 have HIN := hid h
 have HK := hid hK
 have KP := hid (iPartG mt pt a1 n1 c1 o1 a2 n2 c2 o2 bd hB hck W1 (hv.below B1.out) (h.below B1.out))
 have x0 := X3.cell 0
 have x1 := X3.cell 1
 have x2 := X3.cell 2
 have x3 := X3.cell 3
 have x4 := X3.cell 4
 clear hW1 hB hv h hK hRR X3
 go_enter Tryz.func11, Tryz.ntmps11
 go_upto_region 1 with fail
 rw [← HW1.out]
 clear HW1
 go_wp2_with fail
 refine KP.out.mono ?_
 rintro e w2 ⟨hP, hb2⟩
 obtain ⟨m, p, b1, k1, d1, b2, k2, d2, d, id, z1, z2, z4, sA, sl, mc, b, rfl, hif, hval⟩ := hP
 have X6b := hid (RowAt.nxS hb2 X6.out)
 have B2 := hid (B1.out.trans (hb2.mono B1.out.size))
 have HIF := hid hif
 have HVAL := hid hval
 clear hb2 X6 B1 x0 x1 x2 x3 x4 KP hif hval
 have R7 : RowAt ((w2.alloc (.cells #[.string ⟨#[]⟩, .string ⟨#[]⟩, .slice none 0 0, .slice none 0 0, .string ⟨#[]⟩] 25)).alloc (.cells #[.string ⟨#[]⟩, .int .i64 0, .int .i64 0, .slice none 0 0] 72)) w2.heap.size 25 #[.string ⟨#[]⟩, .string ⟨#[]⟩, .slice none 0 0, .slice none 0 0, .string ⟨#[]⟩] := (RowAt.new _ _ _).alloc _
 have R8 : RowAt ((w2.alloc (.cells #[.string ⟨#[]⟩, .string ⟨#[]⟩, .slice none 0 0, .slice none 0 0, .string ⟨#[]⟩] 25)).alloc (.cells #[.string ⟨#[]⟩, .int .i64 0, .int .i64 0, .slice none 0 0] 72)) (w2.heap.size + 1) 72 #[.string ⟨#[]⟩, .int .i64 0, .int .i64 0, .slice none 0 0] := RowAt.next _ _ _ (by simp only [size_al])
 have H7 := hid R7
 have H8 := hid R8
 obtain ⟨W3, hW3⟩ : ∃ W, W = (((w2.alloc (.cells #[.string ⟨#[]⟩, .string ⟨#[]⟩, .slice none 0 0, .slice none 0 0, .string ⟨#[]⟩] 25)).alloc (.cells #[.string ⟨#[]⟩, .int .i64 0, .int .i64 0, .slice none 0 0] 72)).setRow w2.heap.size #[.string m, .string p, .slice b1 k1 d1, .slice b2 k2 d2, .string d]).setRow (w2.heap.size + 1) #[.string id, .int .i64 z1, .int .i64 z2, .slice sA sl mc] := ⟨_, rfl⟩
 have s1 : w.heap.size ≤ w2.heap.size := B2.out.size
 have x6l : w.heap.size + 1 < w2.heap.size := X6b.out.lt
 have bl : Below w2.heap.size w2 W3 := by
  rw [hW3]
  exact below_setRow (below_setRow (((Below.refl _ _).alloc (Nat.le_refl _) _).alloc (by simp) _) _ _ (Nat.le_refl _)) _ _ (by omega)
 have Y7 : Hid (RowAt W3 w2.heap.size 25 #[.string m, .string p, .slice b1 k1 d1, .slice b2 k2 d2, .string d]) := by rw [hW3]; exact (R7.setRow _).otherRow _ _ (by omega)
 have Y8 : Hid (RowAt W3 (w2.heap.size + 1) 72 #[.string id, .int .i64 z1, .int .i64 z2, .slice sA sl mc]) := by rw [hW3]; exact (R8.otherRow _ _ (by omega)).setRow _
 have Y6 := hid (RowAt.nxS bl X6b.out)
 have B3 := hid (B2.out.trans (bl.mono B2.out.size))
 have SGM : Hid (∀ L, SgAt w2 sA mc L → SgAt W3 sA mc L) := fun L q => q.below bl
 have HW3 := hid hW3
 clear hW3 R7 R8 bl X6b B2
 go_upto_region 2 with (first | (refine wpList_store_row rfl 25 (.tmp 7) (.tmp 15) rfl w2.heap.size #[.string m, .string p, .slice b1 k1 d1, .slice b2 k2 d2, .string d] rfl rfl _ _ H7.out (by kernel_rfl) rfl (by simp [Value.oneCell']) ?_) | (refine wpList_store_row rfl 72 (.tmp 8) (.tmp 16) rfl (w2.heap.size + 1) #[.string id, .int .i64 z1, .int .i64 z2, .slice sA sl mc] rfl rfl _ _ (H8.out.otherRow _ _ (by omega)) (by kernel_rfl) rfl (by simp [Value.oneCell']) ?_))
 rw [← HW3.out]
 clear HW3 H7 H8
 cases b with
 | false =>
  have NO : Hid (RR = (1, ⟨#[]⟩)) := by rw [HRR.out]; exact ckR_1 (fun q => Bool.noConfusion (HIF.out.2 q.1))
  go_wp2_with (refine wpList_store_row rfl 35 (.tmp 6) (.tmp 26) rfl (w.heap.size + 1) #[.int .i64 1, .string ⟨#[]⟩] rfl rfl _ _ Y6.out (by kernel_rfl) rfl (by simp [Value.oneCell']) ?_)
  refine bodyPost_ret (v := .agg #[.int .i64 1, .string ⟨#[]⟩]) ?_ rfl ⟨by rw [NO.out], below_setRow B3.out _ _ (by omega)⟩
  exact results_cell_row Tryz.results11 _ _ (w.heap.size + 1) _ _ _ _ rfl (Y6.out.setRow _) Tryz.underlying35 rfl (by kernel_rfl)
 | true =>
  by_cases h100 : n ≤ 100
  case neg =>
   have dn : decide ((100 : Int) < (n : Int)) = true := decide_eq_true (by omega)
   have NO : Hid (RR = (1, ⟨#[]⟩)) := by rw [HRR.out]; exact ckR_1 (fun q => h100 q.2)
   clear h100
   go_wp2_with (refine wpList_store_row rfl 35 (.tmp 6) (.tmp 26) rfl (w.heap.size + 1) #[.int .i64 1, .string ⟨#[]⟩] rfl rfl _ _ Y6.out (by kernel_rfl) rfl (by simp [Value.oneCell']) ?_)
   refine bodyPost_ret (v := .agg #[.int .i64 1, .string ⟨#[]⟩]) ?_ rfl ⟨by rw [NO.out], below_setRow B3.out _ _ (by omega)⟩
   exact results_cell_row Tryz.results11 _ _ (w.heap.size + 1) _ _ _ _ rfl (Y6.out.setRow _) Tryz.underlying35 rfl (by kernel_rfl)
  have dn : decide ((100 : Int) < (n : Int)) = false := decide_eq_false (by omega)
  have CKP : Hid (ckP ⟨mt, pt, ⟨a1, n1, c1, o1⟩, ⟨a2, n2, c2, o2⟩, bd⟩) := HIF.out.1 rfl
  have CP : Hid (ckP ⟨mt, pt, ⟨a1, n1, c1, o1⟩, ⟨a2, n2, c2, o2⟩, bd⟩ ∧ n ≤ 100) := ⟨CKP.out, h100⟩
  obtain ⟨⟨g1, g2, g3, g4, g5⟩, ⟨g6, g7, g8, g9⟩, ⟨g10, g11, g12, g13⟩, g14, hsg⟩ := HVAL.out rfl
  (try dsimp only at g1 g2 g3 g4 g5 g6 g7 g8 g9)
  obtain ⟨SL, hSL⟩ : ∃ L, L = ckS ⟨mt, pt, ⟨a1, n1, c1, o1⟩, ⟨a2, n2, c2, o2⟩, bd⟩ := ⟨_, rfl⟩
  rw [← hSL] at g14 hsg
  replace g1 := g1.symm
  subst g1
  replace g2 := g2.symm
  subst g2
  replace g3 := g3.symm
  subst g3
  replace g5 := g5.symm
  subst g5
  replace g6 := g6.symm
  subst g6
  replace g7 := g7.symm
  subst g7
  replace g8 := g8.symm
  subst g8
  replace g9 := g9.symm
  subst g9
  subst g14
  have SG3 := hid (SGM.out _ hsg)
  have HSL := hid hSL
  have HG := hid (And.intro g4 (And.intro g10 (And.intro g11 (And.intro g12 g13))))
  clear g4 g10 g11 g12 g13 hsg hSL h100 HVAL SGM HIF
  have KI := hid (iIdxA kA n kc ks hn id (w2.heap.size + 1) (.int .i64 z1) (.int .i64 z2) (.slice sA SL.length mc) W3 (HK.out.below B3.out) Y8.out)
  generalize w2.heap.size = X7 at *
  go_upto_region 4 with fail
  clear dn
  go_wp2_with fail
  refine KI.out.mono ?_
  rintro e w4 ⟨hk, hb4⟩
  have Z6 := hid (RowAt.nxS hb4 Y6.out)
  have Z7 := hid (RowAt.nxS hb4 Y7.out)
  have Z8 := hid (RowAt.nxS hb4 Y8.out)
  have SG4 := hid (SG3.out.below hb4)
  have B4 := hid (B3.out.trans (hb4.mono B3.out.size))
  clear hb4 Y6 Y7 Y8 SG3 B3 KI
  rcases hk with ⟨q, rfl, hf⟩ | ⟨rfl, hf⟩
  case inr =>
   have NO : Hid (RR = (5, ⟨#[]⟩)) := by rw [HRR.out]; exact ckR_5 CP.out (by rw [← HG.out.2.1]; exact hf)
   clear hf
   go_wp2_with (refine wpList_store_row rfl 35 (.tmp 6) (.tmp 33) rfl (w.heap.size + 1) #[.int .i64 5, .string ⟨#[]⟩] rfl rfl _ _ Z6.out (by kernel_rfl) rfl (by simp [Value.oneCell']) ?_)
   refine bodyPost_ret (v := .agg #[.int .i64 5, .string ⟨#[]⟩]) ?_ rfl ⟨by rw [NO.out], below_setRow B4.out _ _ (by omega)⟩
   exact results_cell_row Tryz.results11 _ _ (w.heap.size + 1) _ _ _ _ rfl (Z6.out.setRow _) Tryz.underlying35 rfl (by kernel_rfl)
  have FS : Hid (fstK ks (ckV ⟨mt, pt, ⟨a1, n1, c1, o1⟩, ⟨a2, n2, c2, o2⟩, bd⟩ 0) n = some q) := by rw [← HG.out.2.1]; exact hf
  have hqn : q < n := (fstK_some hf).1
  have q0 : (0 : Int) ≤ (q : Int) := by omega
  have q1 : (q : Int) < (n : Int) := by omega
  have q2 : decide ((q : Int) < 0) = false := decide_eq_false (by omega)
  rcases HK.out.2 with qq | ⟨kb, ko, rfl, _, _⟩
  · omega
  obtain ⟨sec, hsec⟩ : ∃ s, s = (ks q).sec := ⟨_, rfl⟩
  have KC : Hid (∀ wx, Below w.heap.size w wx → wx.cell? ⟨kb, ko + q * 2 + 1, none⟩ = some (.string sec)) := fun wx hx => by
   rcases (HK.out.below hx).2 with qq | ⟨b9, o9, he9, _, hc9⟩
   · omega
   cases he9
   rw [hsec]; exact (hc9 q hqn).2
  have HSEC := hid hsec
  have KS := hid (iSecret sec)
  have SCE : Hid (pb (scP sec) = true ↔ scQ (ks q).sec) := by rw [hsec]; exact pb_iff
  obtain ⟨SB, hSB⟩ : ∃ s, s = pb (scP sec) := ⟨_, rfl⟩
  rw [← hSB] at KS SCE
  have yk := KC.out w4 B4.out
  clear hf hqn hsec hSB
  go_upto_region 7 with fail
  clear q2
  go_wp2_with fail
  refine (KS.out _).mono ?_
  rintro e w5 ⟨rfl, hw5⟩
  obtain rfl := hw5
  clear yk KS
  cases SB with
  | false =>
   have NO : Hid (RR = (12, ⟨#[]⟩)) := by rw [HRR.out]; exact ckR_12 CP.out FS.out (fun u => Bool.noConfusion (SCE.out.2 u.1))
   go_wp2_with (refine wpList_store_row rfl 35 (.tmp 6) (.tmp 53) rfl (w.heap.size + 1) #[.int .i64 12, .string ⟨#[]⟩] rfl rfl _ _ Z6.out (by kernel_rfl) rfl (by simp [Value.oneCell']) ?_)
   refine bodyPost_ret (v := .agg #[.int .i64 12, .string ⟨#[]⟩]) ?_ rfl ⟨by rw [NO.out], below_setRow B4.out _ _ (by omega)⟩
   exact results_cell_row Tryz.results11 _ _ (w.heap.size + 1) _ _ _ _ rfl (Z6.out.setRow _) Tryz.underlying35 rfl (by kernel_rfl)
  | true =>
   have SCQ : Hid (scQ (ks q).sec) := SCE.out.1 rfl
   obtain ⟨SV, hSV⟩ : ∃ v, v = sgS (ckB ⟨mt, pt, ⟨a1, n1, c1, o1⟩, ⟨a2, n2, c2, o2⟩, bd⟩) sec (tAt SL) SL.length := ⟨_, rfl⟩
   have V3s : Hid ((ckV ⟨mt, pt, ⟨a1, n1, c1, o1⟩, ⟨a2, n2, c2, o2⟩, bd⟩ 3).size ≤ 1000) := by
    have h5 := CKP.out.2.1
    dsimp only at h5
    exact (CKP.out.1.2.2.2.2.2.1 (n1 - 5 + 3) (by dsimp only; omega)).2.2
   have KSM : Hid (∀ wx, Below w5.heap.size w5 wx → SgAt wx sA mc SL → Calls Tryz.prog 44 #[.agg #[.string mt, .string pt, .slice a1 k1 c1, .slice a2 n2 c2, .string bd], .string sec, .slice sA SL.length mc] wx fun e w' => e = .returned (.int .i64 SV) ∧ Below wx.heap.size wx w') := fun wx hx hs => by
    have bx := B4.out.trans (hx.mono B4.out.size)
    rw [hSV, ← sgV_S (rqP_bare CKP.out.1), HG.out.1]
    exact iSgSum mt pt a1 (n1 - 1) c1 o1 a2 n2 c2 o2 bd (rqB_bare HBB.out) sec (by have := SCQ.out.2; rw [← HSEC.out] at this; exact this) sA SL.length mc (tAt SL) (by rw [HSL.out]; exact CKP.out.2.2.2.2.2.2.1.2) (fun i _ => by have := tAt_size (ckV ⟨mt, pt, ⟨a1, n1, c1, o1⟩, ⟨a2, n2, c2, o2⟩, bd⟩ 3) i; have := V3s.out; rw [HSL.out]; show (tAt (sgT _) i).size ≤ 1000; omega) wx (HV.out.below bx).tb (rqIn_bare (HIN.out.below bx)) hs.strs
   have SMQ : Hid (SV = z4 ↔ smQ ⟨mt, pt, ⟨a1, n1, c1, o1⟩, ⟨a2, n2, c2, o2⟩, bd⟩ (ks q).sec) := by
    rw [hSV, HG.out.2.2.2.2, HSL.out, HSEC.out]
    exact ⟨fun e => ⟨SCQ.out, e⟩, fun e => e.2⟩
   have KC5 : Hid (∀ wx, Below w5.heap.size w5 wx → wx.cell? ⟨kb, ko + q * 2 + 1, none⟩ = some (.string sec)) := fun wx hx => KC.out wx (B4.out.trans (hx.mono B4.out.size))
   obtain ⟨DB, hDB⟩ : ∃ x, (SV != z4) = x := ⟨_, rfl⟩
   have HDB := hid hDB
   clear hSV
   go_upto_region 8 with fail
   refine cs8_wp w5 X7 (X7 + 1) kb ko n kc q mt pt bd id sec a1 k1 c1 a2 n2 c2 z1 z2 z4 SV sA mc SL DB w5 (Below.refl _ _) Z7.out Z8.out SG4.out KC5.out q0 q1 KSM.out hDB ?_
   intro dm w6 hb6 _ hx8 _ _ _ _ _ _
   have U6 := hid (RowAt.nxS hb6 Z6.out)
   have U8 := hid hx8
   have B6 := hid (B4.out.trans (hb6.mono B4.out.size))
   clear hb6 hx8 hDB Z6 Z7 Z8 SG4 B4 KSM KC5 q0 q1
   cases DB with
   | true =>
    have NO : Hid (RR = (12, ⟨#[]⟩)) := by rw [HRR.out]; exact ckR_12 CP.out FS.out (fun u => by have e1 := SMQ.out.2 u; have := HDB.out; rw [e1] at this; simp at this)
    go_wp2_with (refine wpList_store_row rfl 35 (.tmp 6) (.tmp 53) rfl (w.heap.size + 1) #[.int .i64 12, .string ⟨#[]⟩] rfl rfl _ _ U6.out (by kernel_rfl) rfl (by simp [Value.oneCell']) ?_)
    refine bodyPost_ret (v := .agg #[.int .i64 12, .string ⟨#[]⟩]) ?_ rfl ⟨by rw [NO.out], below_setRow B6.out _ _ (by omega)⟩
    exact results_cell_row Tryz.results11 _ _ (w.heap.size + 1) _ _ _ _ rfl (U6.out.setRow _) Tryz.underlying35 rfl (by kernel_rfl)
   | false =>
    have SQ : Hid (smQ ⟨mt, pt, ⟨a1, n1, c1, o1⟩, ⟨a2, n2, c2, o2⟩, bd⟩ (ks q).sec) := SMQ.out.1 (by have := HDB.out; simpa using this)
    obtain ⟨n5, n6, n7⟩ : (∃ F0 : Nat, z1 = (F0 : Int) ∧ F0 ≤ 4102444800) ∧ (∃ F1 : Nat, z2 = (F1 : Int) ∧ F1 ≤ 4102444800) ∧ id.size ≤ 1000 := by
     obtain ⟨_, e0, e1, e2, e3⟩ := HG.out
     obtain ⟨_, h5, _, _, ⟨m1, l1, f1⟩, ⟨m2, l2, f2⟩, _, _⟩ := CKP.out
     refine ⟨⟨m1, by rw [e1, f1, numL_dec], l1⟩, ⟨m2, by rw [e2, f2, numL_dec], l2⟩, ?_⟩
     rw [e0]
     dsimp only at h5
     exact (CKP.out.1.2.2.2.2.2.1 (n1 - 5 + 0) (by dsimp only; omega)).2.2
    obtain ⟨F0, rfl, f0b⟩ := n5
    obtain ⟨F1, rfl, f1b⟩ := n6
    have LQ9 : Hid (lateQ ⟨mt, pt, ⟨a1, n1, c1, o1⟩, ⟨a2, n2, c2, o2⟩, bd⟩ now ↔ ((F0 : Int) ≤ now ∧ now ≤ (F0 : Int) + (F1 : Int))) := by unfold lateQ; rw [← HG.out.2.2.1, ← HG.out.2.2.2.1]; exact Iff.rfl
    obtain ⟨FF, hFF⟩ : ∃ f : Nat, f = F0 + F1 := ⟨_, rfl⟩
    have wFF : IntKind.i64.wrap ((F0 : Int) + (F1 : Int)) = (FF : Int) := by rw [IntKind.wrap_i64]; omega
    have wFG : (F0 : Int) + (F1 : Int) = (FF : Int) := by omega
    have wFH : IntKind.i64.wrap (FF : Int) = (FF : Int) := by rw [IntKind.wrap_i64]; omega
    rw [wFG] at LQ9
    replace hFF := hid hFF
    have y0 := U8.out.cell 0
    have y1 := U8.out.cell 1
    have y2 := U8.out.cell 2
    have KCL := fun wx => hid (clone_any id wx (by omega))
    by_cases n9 : now < (F0 : Int)
    case pos =>
     have NO : Hid (RR = (13, ⟨#[]⟩)) := by rw [HRR.out]; exact ckR_13 CP.out FS.out SQ.out (fun u => by have := LQ9.out.1 u; omega)
     have n9b : decide (now < (F0 : Int)) = true := decide_eq_true n9
     go_wp2_with (refine wpList_store_row rfl 35 (.tmp 6) (.tmp 66) rfl (w.heap.size + 1) #[.int .i64 13, .string ⟨#[]⟩] rfl rfl _ _ U6.out (by kernel_rfl) rfl (by simp [Value.oneCell']) ?_)
     refine bodyPost_ret (v := .agg #[.int .i64 13, .string ⟨#[]⟩]) ?_ rfl ⟨by rw [NO.out], below_setRow B6.out _ _ (by omega)⟩
     exact results_cell_row Tryz.results11 _ _ (w.heap.size + 1) _ _ _ _ rfl (U6.out.setRow _) Tryz.underlying35 rfl (by kernel_rfl)
    have n9b : decide (now < (F0 : Int)) = false := decide_eq_false n9
    by_cases n8 : (FF : Int) < now
    case pos =>
     have NO : Hid (RR = (13, ⟨#[]⟩)) := by rw [HRR.out]; exact ckR_13 CP.out FS.out SQ.out (fun u => by have := LQ9.out.1 u; omega)
     have n8b : decide ((FF : Int) < now) = true := decide_eq_true n8
     go_wp2_with (refine wpList_store_row rfl 35 (.tmp 6) (.tmp 66) rfl (w.heap.size + 1) #[.int .i64 13, .string ⟨#[]⟩] rfl rfl _ _ U6.out (by kernel_rfl) rfl (by simp [Value.oneCell']) ?_)
     refine bodyPost_ret (v := .agg #[.int .i64 13, .string ⟨#[]⟩]) ?_ rfl ⟨by rw [NO.out], below_setRow B6.out _ _ (by omega)⟩
     exact results_cell_row Tryz.results11 _ _ (w.heap.size + 1) _ _ _ _ rfl (U6.out.setRow _) Tryz.underlying35 rfl (by kernel_rfl)
    have n8b : decide ((FF : Int) < now) = false := decide_eq_false n8
    have NO : Hid (RR = (0, id)) := by rw [HRR.out, HG.out.2.1]; exact ckR_0 CP.out FS.out SQ.out (LQ9.out.2 ⟨by omega, by omega⟩)
    clear n8 n9
    go_wp2_with fail
    refine (KCL _).out.mono ?_
    rintro e w7 ⟨rfl, hb7⟩
    have T6 := hid (RowAt.nxS hb7 U6.out)
    have B7 := hid (B6.out.trans (hb7.mono B6.out.size))
    clear hb7 U6 B6 U8 KCL y0 y1 y2
    go_wp2_with (refine wpList_store_row rfl 35 (.tmp 6) (.tmp 70) rfl (w.heap.size + 1) #[.int .i64 0, .string id] rfl rfl _ _ T6.out (by kernel_rfl) rfl (by simp [Value.oneCell']) ?_)
    refine bodyPost_ret (v := .agg #[.int .i64 0, .string id]) ?_ rfl ⟨by rw [NO.out], below_setRow B7.out _ _ (by omega)⟩
    exact results_cell_row Tryz.results11 _ _ (w.heap.size + 1) _ _ _ _ rfl (T6.out.setRow _) Tryz.underlying35 rfl (by kernel_rfl)
end Go.Proofs.YtkcjigelenofhaaGreatDoor
