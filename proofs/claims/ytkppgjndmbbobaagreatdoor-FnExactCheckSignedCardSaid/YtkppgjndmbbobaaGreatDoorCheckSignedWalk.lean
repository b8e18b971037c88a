import Derived.Test.YtkppgjndmbbobaaGreatDoorG2
import Derived.Test.YtkppgjndmbbobaaGreatDoorG3
import Derived.Test.YtkppgjndmbbobaaGreatDoorSCk
import Derived.Test.YtkppgjndmbbobaaGreatDoorICkD
import Derived.Deep.SlicePairs
import Derived.Deep.Strs
import Derived.Lib.SmallJoins
namespace Go.Proofs.YtkppgjndmbbobaaGreatDoor
open Go.RowKit
set_option linter.unusedVariables false
/-! The law on CheckSigned (by genlawck.py). -/
theorem ckR_eq {r r' : Rq} (h : RqEq r r') (n : Nat) (ks : Nat → Ak) (now : Int) : ckR r n ks now = ckR r' n ks now := by
  obtain ⟨mt, pt, ⟨a1, n1, c1, o1⟩, ⟨a2, n2, c2, o2⟩, bd⟩ := r
  obtain ⟨mt', pt', ⟨b1, m1, e1, p1⟩, ⟨b2, m2, e2, p2⟩, bd'⟩ := r'
  obtain ⟨q1, q2, q3, q4, q5, q6, q7⟩ := h
  dsimp only at q1 q2 q3 q4 q5 q6 q7
  subst q1 q2 q3 q4 q5 q6 q7
  rfl
set_option maxRecDepth 20000 in
theorem eqSC (c : Int) (d : ByteArray) (w : World) : Calls Tryz.prog 29 #[.agg #[.int .i64 c, .string d], .agg #[.int .i64 c, .string d]] w fun e w' => e = .returned (.bool true) ∧ Below w.heap.size w w' := by
  have e1 : (c != c) = false := by simp
  have e2 : (d.toList == d.toList) = true := by simp
  have B : Hid (Below w.heap.size w ((w.alloc (.cells #[.int .i64 c, .string d] 35)).alloc (.cells #[.int .i64 c, .string d] 35))) := ((Below.refl _ _).alloc (Nat.le_refl _) _).alloc (by simp) _
  go_enter Tryz.func29, Tryz.ntmps29
  go_wp2
  go_ret
  exact ⟨rfl, B.out⟩
set_option maxRecDepth 20000 in
set_option maxHeartbeats 8000000 in
theorem fnExactCheckSigned_of (r : Rq) (kA : Option Addr) (n kc : Nat) (ks : Nat → Ak) (now : Int) {w : World} (hv : RdV w) (h : RqIs w r) (hK : Aks w kA n kc ks) (hn9 : n ≤ 9223372036854775807) (hs9 : ∀ k, k < n → (ks k).id.size ≤ 9223372036854775807 ∧ (ks k).sec.size ≤ 9223372036854775807) :
    Calls Tryz.prog 6 #[.agg #[.string r.mt, .string r.pt, .slice r.qs.ad r.qs.n r.qs.cap, .slice r.hs.ad r.hs.n r.hs.cap, .string r.bd], .slice kA n kc, .int .i64 now] w fun e w' => e = .returned (.bool true) ∧ Below w.heap.size w w' := by
  obtain ⟨hI, hB⟩ := h
  obtain ⟨W1, hW1⟩ : ∃ W, W = w.alloc (.cells #[.string r.mt, .string r.pt, .slice r.qs.ad r.qs.n r.qs.cap, .slice r.hs.ad r.hs.n r.hs.cap, .string r.bd] 44) := ⟨_, rfl⟩
  have X3a : Hid (RowAt W1 w.heap.size 44 #[.string r.mt, .string r.pt, .slice r.qs.ad r.qs.n r.qs.cap, .slice r.hs.ad r.hs.n r.hs.cap, .string r.bd]) := by rw [hW1]; exact RowAt.new _ _ _
  have B1 : Hid (Below w.heap.size w W1) := by rw [hW1]; exact (Below.refl _ _).alloc (Nat.le_refl _) _
  have SZ := hid (szRq r 1048576 (by omega) (by omega) hB W1 (hI.below B1.out))
  have SA := fun l hl wx hbx => hid (szAks kA n kc ks l hl hn9 hs9 wx (hK.below hbx))
  have HT := fun hB wx hbx => hid (toRq r hB wx (hI.below hbx))
  have KA := fun hl wx hbx => hid (toAks kA n kc ks hl wx (hK.below hbx))
  have HV := hid hv
  have HW1 := hid hW1
  have HN := hid hI
  clear hW1 hI hB hK hv hn9 hs9
  obtain ⟨mt, pt, ⟨a1, n1, c1, o1⟩, ⟨a2, n2, c2, o2⟩, bd⟩ := r
  dsimp only at X3a SZ HT HW1 ⊢
  have x0 := X3a.out.cell 0
  have x1 := X3a.out.cell 1
  have x2 := X3a.out.cell 2
  have x3 := X3a.out.cell 3
  have x4 := X3a.out.cell 4
  go_enter Tryz.func6, Tryz.ntmps6
  go_wp2_with fail
  rw [← HW1.out]
  clear HW1
  refine SZ.out.mono ?_
  rintro e w2 ⟨⟨z, rfl, hz1, hz2⟩, hb2⟩
  have X3b := hid (RowAt.nxS hb2 X3a.out)
  have B2 := hid (B1.out.trans (hb2.mono B1.out.size))
  clear hb2 x0 x1 x2 x3 x4 SZ X3a B1
  by_cases hz : z < 0
  · clear hz2
    go_wp2
    go_ret
    exact ⟨rfl, B2.out⟩
  have HB := hid (hz2.resolve_left hz)
  clear hz2
  obtain ⟨l, rfl⟩ := Int.eq_ofNat_of_zero_le (show 0 ≤ z by omega)
  have hl : l ≤ 1048576 := by omega
  have SA2 := SA l hl w2 B2.out
  obtain ⟨Z, hZ⟩ : ∃ Z : Int, Z = (if n + szAk ks n ≤ l then ((l - n - szAk ks n : Nat) : Int) else -1) := ⟨_, rfl⟩
  rw [← hZ] at SA2
  have HZ : Hid (Z < 0 ∨ n ≤ 1048576) := by
    by_cases q : n + szAk ks n ≤ l
    · exact .inr (by omega)
    · exact .inl (by rw [hZ, if_neg q]; omega)
  clear hZ hz1 SA
  go_wp2_with fail
  refine SA2.out.mono ?_
  rintro e w3 ⟨rfl, hb3⟩
  have X3c := hid (RowAt.nxS hb3 X3b.out)
  have B3 := hid (B2.out.trans (hb3.mono B2.out.size))
  clear hb3 SA2 X3b B2 hz
  by_cases hz : Z < 0
  · go_wp2
    go_ret
    exact ⟨rfl, B3.out⟩
  have hn : n ≤ 1048576 := HZ.out.resolve_left hz
  clear HZ
  have x0 := X3c.out.cell 0
  have x1 := X3c.out.cell 1
  have x2 := X3c.out.cell 2
  have x3 := X3c.out.cell 3
  have x4 := X3c.out.cell 4
  go_wp2_with fail
  refine (HT HB.out _ B3.out).out.mono ?_
  rintro e w4 ⟨⟨r4, rfl, hq4, hm4⟩, hb4⟩
  obtain ⟨RR, hRR⟩ : ∃ x, x = ckR ⟨mt, pt, ⟨a1, n1, c1, o1⟩, ⟨a2, n2, c2, o2⟩, bd⟩ n ks now := ⟨_, rfl⟩
  have HRR := hid hRR
  clear hRR
  have X3d := hid (RowAt.nxS hb4 X3c.out)
  have B4 := hid (B3.out.trans (hb4.mono B3.out.size))
  obtain ⟨m4, t4, ⟨f1, k1, g1, u1⟩, ⟨f2, k2, g2, u2⟩, d4⟩ := r4
  have HQ4 := hid hq4
  have I4 := hid hm4.in
  obtain ⟨gq, hg1, hg2, _, _⟩ := hm4.qs
  dsimp only at hg1 hg2
  subst hg1 hg2
  obtain ⟨q1, q2, q3, q4, q5, q6, q7⟩ := hq4
  dsimp only at q1 q2 q3 q4 q5 q6 q7
  subst q1 q2 q3 q4 q5 q6 q7
  dsimp only
  have KA4 := KA hn w4 B4.out
  clear hb4 hm4 x0 x1 x2 x3 x4 X3c B3
  go_wp2_with fail
  refine KA4.out.mono ?_
  rintro e w5 ⟨rfl, hf5, hb5⟩
  have X3e := hid (RowAt.nxS hb5 X3d.out)
  have B5 := hid (B4.out.trans (hb5.mono B4.out.size))
  have KS := hid (sCheck mt pt gq 0 n1 n1 o1 f2 n2 g2 o2 bd (some ⟨w4.heap.size, 0, none⟩) n n ks now (HQ4.out.B HB.out) hn w5 (I4.out.below hb5) (Aks.of_row hf5))
  rw [← ckR_eq HQ4.out, ← HRR.out] at KS
  clear hb5 hf5 KA4 X3d B4 HQ4 I4
  go_wp2_with fail
  refine KS.out.mono ?_
  rintro e w6 ⟨rfl, hb6⟩
  have X3f := hid (RowAt.nxS hb6 X3e.out)
  have B6 := hid (B5.out.trans (hb6.mono B5.out.size))
  clear hb6 KS X3e B5
  obtain ⟨W7, hW7⟩ : ∃ W, W = w6.alloc (.cells #[.int .i64 RR.1, .string RR.2] 35) := ⟨_, rfl⟩
  have b67 : Below w6.heap.size w6 W7 := by rw [hW7]; exact (Below.refl _ _).alloc (Nat.le_refl _) _
  obtain ⟨Y8, hY8⟩ : ∃ X, X = w6.heap.size := ⟨_, rfl⟩
  have X8g : Hid (RowAt W7 Y8 35 #[.int .i64 RR.1, .string RR.2]) := by rw [hW7, hY8]; exact RowAt.new _ _ _
  have X3g := hid (RowAt.nxS b67 X3f.out)
  have B7 := hid (B6.out.trans (b67.mono B6.out.size))
  have HW7 := hid hW7
  have HY8 := hid hY8
  clear hW7 hY8 b67 X3f
  go_upto_region 9 with ((refine wpList_store_row rfl 35 (.tmp 8) (.tmp 27) rfl w6.heap.size #[.int .i64 RR.1, .string RR.2] rfl rfl _ _ (RowAt.new w6 _ _) (by kernel_rfl) rfl (by simp [Value.oneCell']) ?_); rw [World.setRow_alloc_new])
  rw [← HW7.out, ← HY8.out]
  clear HW7 HY8 B6
  have x0 := X3g.out.cell 0
  have x1 := X3g.out.cell 1
  have x2 := X3g.out.cell 2
  have x3 := X3g.out.cell 3
  have x4 := X3g.out.cell 4
  go_wp2_with fail
  refine (HT HB.out _ B7.out).out.mono ?_
  rintro e w8 ⟨⟨r5, rfl, hq5, hm5⟩, hb8⟩
  have X3h := hid (RowAt.nxS hb8 X3g.out)
  have X8h := hid (RowAt.nxS hb8 X8g.out)
  have B8 := hid (B7.out.trans (hb8.mono B7.out.size))
  have M5 := hid hm5
  have Q5 := hid hq5
  clear hb8 hm5 hq5 x0 x1 x2 x3 x4 X3g X8g B7
  obtain ⟨W9, hW9⟩ : ∃ W, W = w8.alloc (.cells #[.string r5.mt, .string r5.pt, .slice r5.qs.ad r5.qs.n r5.qs.cap, .slice r5.hs.ad r5.hs.n r5.hs.cap, .string r5.bd] 25) := ⟨_, rfl⟩
  have b89 : Below w8.heap.size w8 W9 := by rw [hW9]; exact (Below.refl _ _).alloc (Nat.le_refl _) _
  obtain ⟨X, hX⟩ : ∃ X, X = w8.heap.size := ⟨_, rfl⟩
  have X9i : Hid (RowAt W9 X 25 #[.string r5.mt, .string r5.pt, .slice r5.qs.ad r5.qs.n r5.qs.cap, .slice r5.hs.ad r5.hs.n r5.hs.cap, .string r5.bd]) := by rw [hW9, hX]; exact RowAt.new _ _ _
  have X3i := hid (RowAt.nxS b89 X3h.out)
  have X8i := hid (RowAt.nxS b89 X8h.out)
  have B9 := hid (B8.out.trans (b89.mono B8.out.size))
  have M6 := hid (M5.out.below b89)
  have HW9 := hid hW9
  have HX := hid hX
  clear hW9 hX b89 X3h X8h M5
  go_upto_region 10 with ((refine wpList_store_row rfl 25 (.tmp 9) (.tmp 29) rfl w8.heap.size #[.string r5.mt, .string r5.pt, .slice r5.qs.ad r5.qs.n r5.qs.cap, .slice r5.hs.ad r5.hs.n r5.hs.cap, .string r5.bd] rfl rfl _ _ (RowAt.new w8 _ _) (by kernel_rfl) rfl (by simp [Value.oneCell']) ?_); rw [World.setRow_alloc_new])
  rw [← HW9.out, ← HX.out]
  clear HW9 HX B8
  have KA9 := KA hn W9 B9.out
  go_wp2_with fail
  refine KA9.out.mono ?_
  rintro e w10 ⟨rfl, hf10, hb10⟩
  have X3j := hid (RowAt.nxS hb10 X3i.out)
  have X8j := hid (RowAt.nxS hb10 X8i.out)
  have X9j := hid (RowAt.nxS hb10 X9i.out)
  have B10 := hid (B9.out.trans (hb10.mono B9.out.size))
  have M7 := hid (M6.out.below hb10)
  have A10 := hid (Aks.of_row hf10)
  obtain ⟨XK, hXK⟩ : ∃ X, X = W9.heap.size := ⟨_, rfl⟩
  rw [← hXK] at A10 ⊢
  clear hf10 hb10 KA9 X3i X8i X9i B9 M6 hXK
  have KI := hid (iCheck r5.mt r5.pt r5.qs.ad r5.qs.n r5.qs.cap r5.qs.o r5.hs.ad r5.hs.n r5.hs.cap r5.hs.o r5.bd (some ⟨XK, 0, none⟩) n n ks now (Q5.out.B HB.out) hn w10 (HV.out.below B10.out) M7.out.in A10.out)
  rw [← show ckR ⟨mt, pt, ⟨a1, n1, c1, o1⟩, ⟨a2, n2, c2, o2⟩, bd⟩ n ks now = ckR ⟨r5.mt, r5.pt, ⟨r5.qs.ad, r5.qs.n, r5.qs.cap, r5.qs.o⟩, ⟨r5.hs.ad, r5.hs.n, r5.hs.cap, r5.hs.o⟩, r5.bd⟩ n ks now from ckR_eq Q5.out n ks now, ← HRR.out] at KI
  have y0 := X9j.out.cell 0
  have y1 := X9j.out.cell 1
  have y2 := X9j.out.cell 2
  have y3 := X9j.out.cell 3
  have y4 := X9j.out.cell 4
  go_wp2_with fail
  refine KI.out.mono ?_
  rintro e w11 ⟨rfl, hb11⟩
  have X3k := hid (RowAt.nxS hb11 X3j.out)
  have X8k := hid (RowAt.nxS hb11 X8j.out)
  have X9k := hid (RowAt.nxS hb11 X9j.out)
  have B11 := hid (B10.out.trans (hb11.mono B10.out.size))
  have M8 := hid (M7.out.below hb11)
  have A11 := hid (A10.out.below hb11)
  clear hb11 KI y0 y1 y2 y3 y4 X3j X8j X9j B10 M7 A10
  obtain ⟨W12, hW12⟩ : ∃ W, W = w11.alloc (.cells #[.int .i64 RR.1, .string RR.2] 35) := ⟨_, rfl⟩
  have b12 : Below w11.heap.size w11 W12 := by rw [hW12]; exact (Below.refl _ _).alloc (Nat.le_refl _) _
  obtain ⟨Y11, hY11⟩ : ∃ X, X = w11.heap.size := ⟨_, rfl⟩
  have X11l : Hid (RowAt W12 Y11 35 #[.int .i64 RR.1, .string RR.2]) := by rw [hW12, hY11]; exact RowAt.new _ _ _
  have X3l := hid (RowAt.nxS b12 X3k.out)
  have X8l := hid (RowAt.nxS b12 X8k.out)
  have X9l := hid (RowAt.nxS b12 X9k.out)
  have B12 := hid (B11.out.trans (b12.mono B11.out.size))
  have M9 := hid (M8.out.below b12)
  have A12 := hid (A11.out.below b12)
  have HW12 := hid hW12
  have HY11 := hid hY11
  clear hW12 hY11 b12 X3k X8k X9k M8 A11
  go_upto_region 12 with ((refine wpList_store_row rfl 35 (.tmp 11) (.tmp 35) rfl w11.heap.size #[.int .i64 RR.1, .string RR.2] rfl rfl _ _ (RowAt.new w11 _ _) (by kernel_rfl) rfl (by simp [Value.oneCell']) ?_); rw [World.setRow_alloc_new])
  rw [← HW12.out, ← HY11.out]
  clear HW12 HY11 B11
  have u0 := X8l.out.cell 0
  have u1 := X8l.out.cell 1
  have v0 := X11l.out.cell 0
  have v1 := X11l.out.cell 1
  have KQ := hid (eqSC RR.1 RR.2 W12)
  go_wp2_with fail
  refine KQ.out.mono ?_
  rintro e w13 ⟨rfl, hb13⟩
  have X3m := hid (RowAt.nxS hb13 X3l.out)
  have X7 := hid (RowAt.nxS hb13 X9l.out)
  have B13 := hid (B12.out.trans (hb13.mono B12.out.size))
  have M13 := hid (M9.out.below hb13)
  have A13 := hid (A12.out.below hb13)
  clear hb13 KQ u0 u1 v0 v1 X3l X8l X9l X11l B12 M9 A12
  have Jb : Hid (Jn w w13 w.heap.size 44 #[.string mt, .string pt, .slice a1 n1 c1, .slice a2 n2 c2, .string bd]) := ⟨X3m.out, B13.out⟩
  have y0 := X7.out.cell 0
  have y1 := X7.out.cell 1
  have y2 := X7.out.cell 2
  have y3 := X7.out.cell 3
  have y4 := X7.out.cell 4
  have x0 := X3m.out.cell 0
  have x1 := X3m.out.cell 1
  have x2 := X3m.out.cell 2
  have x3 := X3m.out.cell 3
  have x4 := X3m.out.cell 4
  have KE := fun r8 hq wx hm hbx => hid (eqRq r5 r8 hq (Q5.out.B HB.out) wx (M13.out.in.below hbx) hm)
  have KT := fun wx hbx => HT HB.out wx hbx
  clear HT HN
  go_upto_region 14 with fail
  clear X3m B13
  go_region_held3 (fun wx => wx.cell? ⟨w.heap.size, 0, none⟩ = some (.string mt) ∧ wx.cell? ⟨w.heap.size, 1, none⟩ = some (.string pt) ∧ wx.cell? ⟨w.heap.size, 2, none⟩ = some (.slice a1 n1 c1) ∧ wx.cell? ⟨w.heap.size, 3, none⟩ = some (.slice a2 n2 c2) ∧ wx.cell? ⟨w.heap.size, 4, none⟩ = some (.string bd) ∧ wx.cell? ⟨X, 0, none⟩ = some (.string r5.mt) ∧ wx.cell? ⟨X, 1, none⟩ = some (.string r5.pt) ∧ wx.cell? ⟨X, 2, none⟩ = some (.slice r5.qs.ad r5.qs.n r5.qs.cap) ∧ wx.cell? ⟨X, 3, none⟩ = some (.slice r5.hs.ad r5.hs.n r5.hs.cap) ∧ wx.cell? ⟨X, 4, none⟩ = some (.string r5.bd))
    (first | with_reducible exact ⟨x0, x1, x2, x3, x4, y0, y1, y2, y3, y4⟩ | exact ⟨Jb.out.1.cell 0, Jb.out.1.cell 1, Jb.out.1.cell 2, Jb.out.1.cell 3, Jb.out.1.cell 4, X7.out.cell 0, X7.out.cell 1, X7.out.cell 2, X7.out.cell 3, X7.out.cell 4⟩)
    (first
      | (go_at_call 19; (first | refine (KT _ Jb.out.2).out.mono ?_ | refine (KT _ (Jn.drew Jb).out.2).out.mono ?_); rintro e w8 ⟨⟨r8, rfl, hq8, hm8⟩, hb8⟩; (first | replace Jb := Jn.next hb8 Jb | replace Jb := Jn.next hb8 (Jn.drew Jb)); (first | have X8 := hid (X7.out.below hb8 X7.out.lt) | have X8 := hid (X7.out.drew.below hb8 X7.out.lt)); have M8 : Hid (Below w13.heap.size w13 w8) := (by first | exact hb8 | exact (Below.refl _ w13).drew.trans hb8); have Q8 := hid (Q5.out.symm.trans hq8); have N8 := hid hm8.in; clear hb8 hq8 hm8 X7; have X7 := X8; clear X8)
      | (go_at_call 22; refine (KE _ Q8.out _ N8.out M8.out).out.mono ?_; rintro e w9 ⟨rfl, hb9⟩; replace Jb := Jn.next hb9 Jb; replace X7 := hid (X7.out.below hb9 X7.out.lt); have M14 := hid (M8.out.trans (hb9.mono M8.out.size)); clear hb9))
  all_goals (have KA14 := KA hn _ Jb.out.2)
  all_goals go_wp2_with fail
  all_goals refine KA14.out.mono ?_
  all_goals rintro e w15 ⟨rfl, hf15, hb15⟩
  all_goals (have B15 := hid (Jb.out.2.trans (hb15.mono Jb.out.2.size)))
  all_goals (have KE15 := hid (eqAks _ n n _ n ks hn w15 ((A13.out.below M14.out).below hb15) (Aks.of_row hf15)))
  all_goals clear hf15 hb15 KA14
  all_goals go_wp2_with fail
  all_goals refine KE15.out.mono ?_
  all_goals rintro e w16 ⟨rfl, hb16⟩
  all_goals (have B16 := hid (B15.out.trans (hb16.mono B15.out.size)))
  all_goals clear hb16 KE15
  all_goals go_wp2
  all_goals go_ret
  all_goals exact ⟨rfl, B16.out⟩
end Go.Proofs.YtkppgjndmbbobaaGreatDoor
namespace Go.Proofs.YtkppgjndmbbobaaGreatDoor
open Go.RowKit
/-! Requests, and pairs of texts, as a row hands them in. -/
instance : Inhabited Hp := ⟨hp0⟩
theorem arr5 {α : Type} {cs : Array α} (h : cs.size = 5) : ∃ a b c d e, cs = #[a, b, c, d, e] := by
  match cs with
  | ⟨[a, b, c, d, e]⟩ => exact ⟨a, b, c, d, e, rfl⟩
section
variable {H : Type} {enc : TypeId × Value → H} {P : Program} {w : World} {base : Nat} {spare : Nat → Bool} {held : Bool}
structure HpTy (P : Program) (e : TypeId) : Prop where
  st : ∃ f0 f1 : Field, P.underlying e = some (.struct #[f0, f1]) ∧ (f0.offset = 0 ∧ f1.offset = 1) ∧ (P.cellsOf f0.type = 1 ∧ P.cellsOf f1.type = 1) ∧ P.underlying f0.type = some .string ∧ P.underlying f1.type = some .string
  ce : P.cellsOf e = 2
structure RqTy (P : Program) (e : TypeId) : Prop where
  st : ∃ f0 f1 f2 f3 f4 : Field, P.underlying e = some (.struct #[f0, f1, f2, f3, f4]) ∧ (f0.offset = 0 ∧ f1.offset = 1 ∧ f2.offset = 2 ∧ f3.offset = 3 ∧ f4.offset = 4) ∧ (P.cellsOf f0.type = 1 ∧ P.cellsOf f1.type = 1 ∧ P.cellsOf f2.type = 1 ∧ P.cellsOf f3.type = 1 ∧ P.cellsOf f4.type = 1) ∧ P.underlying f0.type = some .string ∧ P.underlying f1.type = some .string ∧ (∃ c, P.underlying f2.type = some (.slice c) ∧ HpTy P c) ∧ (∃ c, P.underlying f3.type = some (.slice c) ∧ HpTy P c) ∧ P.underlying f4.type = some .string
theorem addH (b off : Nat) (i : Nat) : (⟨b, off, none⟩ : Addr).add i = ⟨b, off + i, none⟩ := by unfold Addr.add; split <;> simp_all
theorem open_hps {t e : TypeId} {fuel : Nat} {cs : List Value} {x : DataW H × List MemPlace} (ht : P.underlying t = some (.slice e)) (hE : HpTy P e) (h : DataW.trod enc P w base spare held fuel t cs = some x) :
    ∃ s : PS, cs = [.slice s.ad s.n s.cap] ∧ Hps w s.ad s.n s.cap s.o ∧ PSB s maxLen := by
  obtain ⟨⟨f0, f1, he, ⟨o0, o1⟩, ⟨c0, c1⟩, u0, u1⟩, ce⟩ := hE
  rcases Go.Deep.open_slice ht h with ⟨h0, _⟩ | ⟨a, len, cap, m, n, D, Pl, rfl, hb, hl, hm, hmm, rfl, hx⟩
  · exact ⟨⟨none, 0, 0, fun _ => hp0⟩, h0, ⟨Nat.le_refl _, .inl rfl⟩, Nat.zero_le _, fun i hi => absurd hi (by simp)⟩
  have hlm : len ≤ m := by rw [hmm]; split <;> omega
  have each : ∀ i, i < len → ∃ q : Hp, (w.cell? (a.add (i * 2)) = some (.string q.nm) ∧ w.cell? (a.add (i * 2 + 1)) = some (.string q.vl)) ∧ q.nm.size ≤ maxLen ∧ q.vl.size ≤ maxLen := by
    intro i hi
    obtain ⟨cs', h1, h2⟩ := hx i (by omega)
    rw [ce] at h1
    obtain ⟨_, hlen, hcell⟩ := World.cells?_some h1
    obtain ⟨xs, n', _, _, _, hxs, hf⟩ := DataW.trod_struct he h2
    match xs, hxs with
    | [y0, y1], _ =>
      have g0 := hf 0 f0 rfl
      have g1 := hf 1 f1 rfl
      match cs', hlen with
      | [v0, v1], _ =>
        simp [o0, o1, c0, c1] at g0 g1
        obtain ⟨nm, e0, _, l0⟩ := DataW.trod_string u0 g0
        obtain ⟨vl, e1, _, l1⟩ := DataW.trod_string u1 g1
        simp at e0 e1
        have z0 := hcell 0 (by omega)
        have z1 := hcell 1 (by omega)
        rw [Go.Deep.add_add] at z0 z1
        exact ⟨⟨nm, vl⟩, ⟨by simpa [e0] using z0, by simpa [e1] using z1⟩, l0, l1⟩
  obtain ⟨o, ho⟩ := Go.Deep.choose_lt each
  refine ⟨⟨some a, len, cap, o⟩, rfl, ⟨hl, ?_⟩, by show len ≤ maxLen; omega, fun i hi => (ho i hi).2⟩
  by_cases h0 : len = 0
  · exact .inl h0
  · right
    obtain ⟨b, off, spot⟩ := a
    have hc := (ho 0 (by omega)).1.1
    have hspot : spot = none := by simpa [Addr.add] using World.cell?_spot hc
    subst hspot
    refine ⟨b, off, rfl, ?_, fun i hi => ?_⟩
    · have := World.block_lt_of_cell? w _ hc; rw [addH] at this; exact this
    · obtain ⟨q0, q1⟩ := (ho i hi).1
      rw [addH] at q0 q1
      exact ⟨q0, by rw [Nat.add_assoc]; exact q1⟩
theorem open_rq {t : TypeId} {fuel : Nat} {v0 v1 v2 v3 v4 : Value} {x : DataW H × List MemPlace} (hE : RqTy P t) (h : DataW.trod enc P w base spare held fuel t [v0, v1, v2, v3, v4] = some x) :
    ∃ r : Rq, (v0 = .string r.mt ∧ v1 = .string r.pt ∧ v2 = .slice r.qs.ad r.qs.n r.qs.cap ∧ v3 = .slice r.hs.ad r.hs.n r.hs.cap ∧ v4 = .string r.bd) ∧ RqIn w r ∧ RqB r 9223372036854775807 := by
  obtain ⟨f0, f1, f2, f3, f4, he, ⟨o0, o1, o2, o3, o4⟩, ⟨c0, c1, c2, c3, c4⟩, u0, u1, ⟨ca, u2, ua⟩, ⟨cb, u3, ub⟩, u4⟩ := hE.st
  obtain ⟨xs, n', _, _, _, hxs, hf⟩ := DataW.trod_struct he h
  match xs, hxs with
  | [y0, y1, y2, y3, y4], _ =>
    have g0 := hf 0 f0 rfl
    have g1 := hf 1 f1 rfl
    have g2 := hf 2 f2 rfl
    have g3 := hf 3 f3 rfl
    have g4 := hf 4 f4 rfl
    simp [o0, o1, o2, o3, o4, c0, c1, c2, c3, c4] at g0 g1 g2 g3 g4
    obtain ⟨mt, e0, _, l0⟩ := DataW.trod_string u0 g0
    obtain ⟨pt, e1, _, l1⟩ := DataW.trod_string u1 g1
    obtain ⟨s2, e2, i2, b2⟩ := open_hps u2 ua g2
    obtain ⟨s3, e3, i3, b3⟩ := open_hps u3 ub g3
    obtain ⟨bd, e4, _, l4⟩ := DataW.trod_string u4 g4
    simp at e0 e1 e2 e3 e4
    have hM : maxLen = 9223372036854775807 := rfl
    rw [hM] at l0 l1 l4 b2 b3
    exact ⟨⟨mt, pt, s2, s3, bd⟩, ⟨e0, e1, e2, e3, e4⟩, ⟨i2, i3⟩, ⟨l0, l1, b2, b3, l4⟩⟩
end
end Go.Proofs.YtkppgjndmbbobaaGreatDoor
namespace Go.Proofs.YtkppgjndmbbobaaGreatDoor
open Go.RowKit
theorem aks_of {w : World} {s : PS} (h : Hps w s.ad s.n s.cap s.o) : Aks w s.ad s.n s.cap (fun k => ⟨(s.o k).nm, (s.o k).vl⟩) := h
theorem fnExactCheckSigned_walk {w : World} (hv : RdV w) (r : Rq) (h : RqIs w r) (s : PS) (hs : Hps w s.ad s.n s.cap s.o ∧ PSB s maxLen) (now : Int) (_wn : (Lit.int .i64 now).wf = true) :
    Calls Tryz.prog 6 #[.agg #[.string r.mt, .string r.pt, .slice r.qs.ad r.qs.n r.qs.cap, .slice r.hs.ad r.hs.n r.hs.cap, .string r.bd], .slice s.ad s.n s.cap, .int .i64 now] w fun e w' => e = .returned (.bool true) ∧ Below w.heap.size w w' :=
  fnExactCheckSigned_of r s.ad s.n s.cap _ now hv h (aks_of hs.1) hs.2.1 (fun k hk => hs.2.2 k hk)
end Go.Proofs.YtkppgjndmbbobaaGreatDoor
