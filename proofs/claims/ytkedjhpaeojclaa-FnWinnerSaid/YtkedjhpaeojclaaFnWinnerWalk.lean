import Derived.Test.YtkedjhpaeojclaaWnL3
namespace Go.Proofs.Ytkedjhpaeojclaa
open Go.RowKit
/-! FnWinner. -/
set_option maxRecDepth 20000 in
set_option maxHeartbeats 4000000 in
theorem fnWinner_core (w : World) (a0 : Option Addr) (len0 cap0 : Nat) (hc0 : CodeOk w a0 len0) (hl0 : len0 ≤ cap0) (a1 : Option Addr) (len1 cap1 : Nat) (hc1 : CodeOk w a1 len1) (hl1 : len1 ≤ cap1) :
    Calls Try.prog 3 #[.slice a0 len0 cap0, .slice a1 len1 cap1] w fun e w' => e = .returned (.bool true) ∧ Below w.heap.size w w' := by
  have b0 := hc0.1
  have b1 := hc1.1
  have d0 : decide ((1048576 : Int) < (len0 : Int)) = false := by simp; omega
  have d1 : decide ((1048576 : Int) < (len1 : Int)) = false := by simp; omega
  have K0 := hid (drawWn_all w a0 len0 cap0 hc0 hl0)
  have K1 := fun wx (hb : Below w.heap.size w wx) => hid (drawWn_all wx a1 len1 cap1 (hc1.below hb) hl1)
  clear hc0 hc1 b0 b1
  go_enter Try.func3, Try.ntmps3
  go_upto_region 3 with fail
  clear d0 d1
  go_wp2_with fail
  refine K0.out.mono ?_
  rintro e w1 ⟨⟨a, b, rfl, ha, hb⟩, hb1⟩
  clear K0
  obtain ⟨W2, hW2⟩ : ∃ W, W = (w1.alloc (.cells #[.string ⟨#[]⟩, .int .i64 0, .int .i64 0, .bool false, .string ⟨#[]⟩] 24)).alloc (.cells #[.string ⟨#[]⟩, .int .i64 0, .int .i64 0, .bool false, .string ⟨#[]⟩] 24) := ⟨_, rfl⟩
  have R5 : RowAt ((w1.alloc (.cells #[.string ⟨#[]⟩, .int .i64 0, .int .i64 0, .bool false, .string ⟨#[]⟩] 24)).alloc (.cells #[.string ⟨#[]⟩, .int .i64 0, .int .i64 0, .bool false, .string ⟨#[]⟩] 24)) w1.heap.size 24 #[.string ⟨#[]⟩, .int .i64 0, .int .i64 0, .bool false, .string ⟨#[]⟩] := (RowAt.new _ _ _).alloc _
  have R6 : RowAt ((w1.alloc (.cells #[.string ⟨#[]⟩, .int .i64 0, .int .i64 0, .bool false, .string ⟨#[]⟩] 24)).alloc (.cells #[.string ⟨#[]⟩, .int .i64 0, .int .i64 0, .bool false, .string ⟨#[]⟩] 24)) (w1.heap.size + 1) 24 #[.string ⟨#[]⟩, .int .i64 0, .int .i64 0, .bool false, .string ⟨#[]⟩] := RowAt.next _ _ _ (by simp only [World.size_alloc])
  have H5 := hid R5
  have H6 := hid R6
  obtain ⟨W3, hW3⟩ : ∃ W, W = (((w1.alloc (.cells #[.string ⟨#[]⟩, .int .i64 0, .int .i64 0, .bool false, .string ⟨#[]⟩] 24)).alloc (.cells #[.string ⟨#[]⟩, .int .i64 0, .int .i64 0, .bool false, .string ⟨#[]⟩] 24)).setRow w1.heap.size #[.string a.k, .int .i64 a.t, .int .i64 a.s, .bool a.g, .string a.d]).setRow (w1.heap.size + 1) #[.string b.k, .int .i64 b.t, .int .i64 b.s, .bool b.g, .string b.d] := ⟨_, rfl⟩
  have X5 : Hid (RowAt W3 w1.heap.size 24 #[.string a.k, .int .i64 a.t, .int .i64 a.s, .bool a.g, .string a.d]) := by rw [hW3]; exact (R5.setRow _).otherRow _ _ (by omega)
  have X6 : Hid (RowAt W3 (w1.heap.size + 1) 24 #[.string b.k, .int .i64 b.t, .int .i64 b.s, .bool b.g, .string b.d]) := by rw [hW3]; exact (R6.otherRow _ _ (by omega)).setRow _
  have s1 : w.heap.size ≤ w1.heap.size := hb1.size
  have B3 : Hid (Below w.heap.size w W3) := by
    rw [hW3]
    exact below_setRow (below_setRow ((hb1.alloc hb1.size _).alloc (by rw [World.size_alloc]; omega) _) _ _ s1) _ _ (by omega)
  have HW3 := hid hW3
  clear hW2 hW3 R5 R6 hb1 W2
  go_upto_region 4 with (first | (refine wpList_store_row rfl 24 (.tmp 5) (.tmp 21) rfl w1.heap.size #[.string a.k, .int .i64 a.t, .int .i64 a.s, .bool a.g, .string a.d] rfl rfl _ _ H5.out (by kernel_rfl) rfl (by simp [Value.oneCell']) ?_) | (refine wpList_store_row rfl 24 (.tmp 6) (.tmp 22) rfl (w1.heap.size + 1) #[.string b.k, .int .i64 b.t, .int .i64 b.s, .bool b.g, .string b.d] rfl rfl _ _ (H6.out.otherRow _ _ (by omega)) (by kernel_rfl) rfl (by simp [Value.oneCell']) ?_))
  rw [← HW3.out]
  clear HW3 H5 H6
  have K1' := K1 W3 B3.out
  clear K1
  go_wp2_with fail
  refine K1'.out.mono ?_
  rintro e w4 ⟨⟨c, c', rfl, hc, hc'⟩, hb4⟩
  clear K1'
  have R7 : RowAt ((w4.alloc (.cells #[.string ⟨#[]⟩, .int .i64 0, .int .i64 0, .bool false, .string ⟨#[]⟩] 24)).alloc (.cells #[.string ⟨#[]⟩, .int .i64 0, .int .i64 0, .bool false, .string ⟨#[]⟩] 24)) w4.heap.size 24 #[.string ⟨#[]⟩, .int .i64 0, .int .i64 0, .bool false, .string ⟨#[]⟩] := (RowAt.new _ _ _).alloc _
  have R8 : RowAt ((w4.alloc (.cells #[.string ⟨#[]⟩, .int .i64 0, .int .i64 0, .bool false, .string ⟨#[]⟩] 24)).alloc (.cells #[.string ⟨#[]⟩, .int .i64 0, .int .i64 0, .bool false, .string ⟨#[]⟩] 24)) (w4.heap.size + 1) 24 #[.string ⟨#[]⟩, .int .i64 0, .int .i64 0, .bool false, .string ⟨#[]⟩] := RowAt.next _ _ _ (by simp only [World.size_alloc])
  have H7 := hid R7
  have H8 := hid R8
  obtain ⟨W5, hW5⟩ : ∃ W, W = (((w4.alloc (.cells #[.string ⟨#[]⟩, .int .i64 0, .int .i64 0, .bool false, .string ⟨#[]⟩] 24)).alloc (.cells #[.string ⟨#[]⟩, .int .i64 0, .int .i64 0, .bool false, .string ⟨#[]⟩] 24)).setRow w4.heap.size #[.string c.k, .int .i64 c.t, .int .i64 c.s, .bool c.g, .string c.d]).setRow (w4.heap.size + 1) #[.string c'.k, .int .i64 c'.t, .int .i64 c'.s, .bool c'.g, .string c'.d] := ⟨_, rfl⟩
  have bl : Below W3.heap.size W3 W5 := by
    rw [hW5]
    have s4 := hb4.size
    exact below_setRow (below_setRow ((hb4.alloc hb4.size _).alloc (by rw [World.size_alloc]; omega) _) _ _ s4) _ _ (by omega)
  have Y5 := hid (RowAt.nxW bl X5.out)
  have Y6 := hid (RowAt.nxW bl X6.out)
  have Y7 : Hid (RowAt W5 w4.heap.size 24 #[.string c.k, .int .i64 c.t, .int .i64 c.s, .bool c.g, .string c.d]) := by rw [hW5]; exact (R7.setRow _).otherRow _ _ (by omega)
  have B5 := hid (B3.out.trans (bl.mono B3.out.size))
  have HW5 := hid hW5
  clear hW5 R7 R8 hb4 bl B3 X5 X6
  go_upto_region 5 with (first | (refine wpList_store_row rfl 24 (.tmp 7) (.tmp 26) rfl w4.heap.size #[.string c.k, .int .i64 c.t, .int .i64 c.s, .bool c.g, .string c.d] rfl rfl _ _ H7.out (by kernel_rfl) rfl (by simp [Value.oneCell']) ?_) | (refine wpList_store_row rfl 24 (.tmp 8) (.tmp 27) rfl (w4.heap.size + 1) #[.string c'.k, .int .i64 c'.t, .int .i64 c'.s, .bool c'.g, .string c'.d] rfl rfl _ _ (H8.out.otherRow _ _ (by omega)) (by kernel_rfl) rfl (by simp [Value.oneCell']) ?_))
  rw [← HW5.out]
  clear HW5 H7 H8
  generalize w1.heap.size = X5 at *
  generalize w4.heap.size = X7 at *
  have KW := fun (x y : Se) (hx : seOk x) (hy : seOk y) (wx : World) => iWin x y hx hy wx
  have KAB := hid (iWin a b ha hb W5)
  have x0 := Y5.out.cell 0
  have y0 := Y6.out.cell 0
  have x1 := Y5.out.cell 1
  have y1 := Y6.out.cell 1
  have x2 := Y5.out.cell 2
  have y2 := Y6.out.cell 2
  have x3 := Y5.out.cell 3
  have y3 := Y6.out.cell 3
  have x4 := Y5.out.cell 4
  have y4 := Y6.out.cell 4
  go_wp2_with fail
  refine KAB.out.mono ?_
  rintro e w6 ⟨rfl, hb6⟩
  clear KAB x0 y0 x1 y1 x2 y2 x3 y3 x4 y4
  obtain ⟨u, hu⟩ : ∃ u, u = wnE a b := ⟨_, rfl⟩
  rw [← hu]
  have R9 : RowAt (w6.alloc (.cells #[.string ⟨#[]⟩, .int .i64 0, .int .i64 0, .bool false, .string ⟨#[]⟩] 24)) w6.heap.size 24 #[.string ⟨#[]⟩, .int .i64 0, .int .i64 0, .bool false, .string ⟨#[]⟩] := RowAt.new _ _ _
  have H9 := hid R9
  obtain ⟨W7, hW7⟩ : ∃ W, W = (w6.alloc (.cells #[.string ⟨#[]⟩, .int .i64 0, .int .i64 0, .bool false, .string ⟨#[]⟩] 24)).setRow w6.heap.size #[.string u.k, .int .i64 u.t, .int .i64 u.s, .bool u.g, .string u.d] := ⟨_, rfl⟩
  have bl : Below W5.heap.size W5 W7 := by rw [hW7]; exact below_setRow (hb6.alloc hb6.size _) _ _ hb6.size
  have Z5 := hid (RowAt.nxW bl Y5.out)
  have Z6 := hid (RowAt.nxW bl Y6.out)
  have Z7 := hid (RowAt.nxW bl Y7.out)
  have Z9 : Hid (RowAt W7 w6.heap.size 24 #[.string u.k, .int .i64 u.t, .int .i64 u.s, .bool u.g, .string u.d]) := by rw [hW7]; exact R9.setRow _
  have B7 := hid (B5.out.trans (bl.mono B5.out.size))
  have HW7 := hid hW7
  have HU := hid hu
  have HA := hid ha
  have HB := hid hb
  have HC := hid hc
  clear hW7 R9 hb6 bl B5 Y5 Y6 Y7 hu ha hb hc hc'
  go_upto_region 6 with (refine wpList_store_row rfl 24 (.tmp 9) (.tmp 30) rfl w6.heap.size #[.string u.k, .int .i64 u.t, .int .i64 u.s, .bool u.g, .string u.d] rfl rfl _ _ H9.out (by kernel_rfl) rfl (by simp [Value.oneCell']) ?_)
  rw [← HW7.out]
  clear HW7 H9
  generalize w6.heap.size = X9 at *
  have uok : seOk u := by rw [HU.out]; unfold wnE; split; exact HB.out; exact HA.out
  have UOK := hid uok
  clear uok
  obtain ⟨x, hx⟩ : ∃ x, x = wnE b c := ⟨_, rfl⟩
  obtain ⟨z, hz⟩ : ∃ z, z = wnE u c := ⟨_, rfl⟩
  have XOK : Hid (seOk x) := by show seOk x; rw [hx]; unfold wnE; split; exact HC.out; exact HB.out
  have HX := hid hx
  have HZ := hid hz
  have HZ2 : Hid (z = wnE a x) := by show z = wnE a x; rw [hz, HU.out, wnE_assoc, ← hx]
  clear hx hz
  have KS : Hid (∀ wx, Below W7.heap.size W7 wx → Calls Try.prog 7 #[.agg #[.string a.k, .int .i64 a.t, .int .i64 a.s, .bool a.g, .string a.d], .agg #[.string b.k, .int .i64 b.t, .int .i64 b.s, .bool b.g, .string b.d]] wx fun e w' => e = .returned (.agg #[.string u.k, .int .i64 u.t, .int .i64 u.s, .bool u.g, .string u.d]) ∧ Below wx.heap.size wx w') := fun wx _ => by rw [HU.out]; exact sWin a b wx
  have KE : Hid (∀ wx, Below W7.heap.size W7 wx → RowAt wx X5 24 #[.string a.k, .int .i64 a.t, .int .i64 a.s, .bool a.g, .string a.d] ∧ RowAt wx (X5 + 1) 24 #[.string b.k, .int .i64 b.t, .int .i64 b.s, .bool b.g, .string b.d] ∧ RowAt wx X7 24 #[.string c.k, .int .i64 c.t, .int .i64 c.s, .bool c.g, .string c.d] ∧ RowAt wx X9 24 #[.string u.k, .int .i64 u.t, .int .i64 u.s, .bool u.g, .string u.d] ∧ Below w.heap.size w wx) := fun wx h => ⟨RowAt.nxW h Z5.out, RowAt.nxW h Z6.out, RowAt.nxW h Z7.out, RowAt.nxW h Z9.out, B7.out.trans (h.mono B7.out.size)⟩
  have KI1 : Hid (∀ (w0 wx : World), Below w0.heap.size w0 wx → Calls Try.prog 6 #[.agg #[.string a.k, .int .i64 a.t, .int .i64 a.s, .bool a.g, .string a.d], .agg #[.string b.k, .int .i64 b.t, .int .i64 b.s, .bool b.g, .string b.d]] wx fun e w' => e = .returned (.agg #[.string u.k, .int .i64 u.t, .int .i64 u.s, .bool u.g, .string u.d]) ∧ Below wx.heap.size wx w') := fun _ wx _ => by rw [HU.out]; exact iWin a b HA.out HB.out wx
  have KI2 : Hid (∀ (w0 wx : World), Below w0.heap.size w0 wx → Calls Try.prog 6 #[.agg #[.string u.k, .int .i64 u.t, .int .i64 u.s, .bool u.g, .string u.d], .agg #[.string c.k, .int .i64 c.t, .int .i64 c.s, .bool c.g, .string c.d]] wx fun e w' => e = .returned (.agg #[.string z.k, .int .i64 z.t, .int .i64 z.s, .bool z.g, .string z.d]) ∧ Below wx.heap.size wx w') := fun _ wx _ => by rw [HZ.out]; exact iWin u c UOK.out HC.out wx
  have KI3 : Hid (∀ (w0 wx : World), Below w0.heap.size w0 wx → Calls Try.prog 6 #[.agg #[.string b.k, .int .i64 b.t, .int .i64 b.s, .bool b.g, .string b.d], .agg #[.string c.k, .int .i64 c.t, .int .i64 c.s, .bool c.g, .string c.d]] wx fun e w' => e = .returned (.agg #[.string x.k, .int .i64 x.t, .int .i64 x.s, .bool x.g, .string x.d]) ∧ Below wx.heap.size wx w') := fun _ wx _ => by rw [HX.out]; exact iWin b c HB.out HC.out wx
  have KI4 : Hid (∀ (w0 wx : World), Below w0.heap.size w0 wx → Calls Try.prog 6 #[.agg #[.string a.k, .int .i64 a.t, .int .i64 a.s, .bool a.g, .string a.d], .agg #[.string x.k, .int .i64 x.t, .int .i64 x.s, .bool x.g, .string x.d]] wx fun e w' => e = .returned (.agg #[.string z.k, .int .i64 z.t, .int .i64 z.s, .bool z.g, .string z.d]) ∧ Below wx.heap.size wx w') := fun _ wx _ => by rw [HZ2.out]; exact iWin a x HA.out XOK.out wx
  go_upto_region 6 with fail
  by_cases hbt : btP a b
  · have eu : u = b := HU.out.trans (wnE_t hbt)
    have EU := hid eu
    have HBT := hid hbt
    have nba : ¬ btP b a := by unfold btP at *; omega
    have KI0 : Hid (∀ (w0 wx : World), Below w0.heap.size w0 wx → Calls Try.prog 6 #[.agg #[.string b.k, .int .i64 b.t, .int .i64 b.s, .bool b.g, .string b.d], .agg #[.string a.k, .int .i64 a.t, .int .i64 a.s, .bool a.g, .string a.d]] wx fun e w' => e = .returned (.agg #[.string u.k, .int .i64 u.t, .int .i64 u.s, .bool u.g, .string u.d]) ∧ Below wx.heap.size wx w') := fun _ wx _ => by
      have q := iWin b a HB.out HA.out wx
      rw [wnE_f nba] at q
      rw [eu]
      exact q
    by_cases ht : a.t = b.t
    · have f1 : (a.t != b.t) = false := by simp [ht]
      have f2 : (a.s != b.s) = true := by simp; unfold btP at hbt; omega
      replace ht := hid ht
      clear eu hbt
      refine v6_wp W7 X5 (X5 + 1) X9 a b u W7 (Below.refl _ _) Z5.out Z6.out Z9.out KS.out (seEq_self u) (by rw [EU.out]; exact seEq_no HBT.out) (by rw [EU.out]; exact seEq_self b) ?_
      intro dm w8 hb8 _ _ _ _ _ _ _
      have HB8 := hid hb8
      clear hb8
      obtain ⟨p5, p6, p7, p9, pB⟩ := KE.out w8 HB8.out
      clear pB
      go_upto_region 8 with fail
      refine v8_wp w8 X5 (X5 + 1) X9 a b u w8 (Below.refl _ _) p5 p6 p9 (KI0.out _) f1 f2 (seEq_self u) ?_
      intro dm3 w9 hb8 _ _ _ _ _ _ _
      have hb9 := HB8.out.trans (hb8.mono HB8.out.size)
      clear p5 p6 p7 p9 hb8
      obtain ⟨p5, p6, p7, p9, pB⟩ := KE.out w9 hb9
      have PB := hid pB
      clear pB
      go_upto_region 10 with fail
      refine u10_wp w9 X5 (X5 + 1) X7 a b c u z x w9 (Below.refl _ _) p5 p6 p7 (KI1.out _) (KI2.out _) (KI3.out _) (KI4.out _) (seEq_self z) ?_
      intro dm2 w10 hb10 _ _ _ _ _ _ _ _
      have FB := hid (PB.out.trans (hb10.mono PB.out.size))
      clear hb10
      go_wp2
      go_ret
      exact ⟨rfl, FB.out⟩
    · have f1 : (a.t != b.t) = true := by simp [ht]
      clear eu hbt
      refine v6_wp W7 X5 (X5 + 1) X9 a b u W7 (Below.refl _ _) Z5.out Z6.out Z9.out KS.out (seEq_self u) (by rw [EU.out]; exact seEq_no HBT.out) (by rw [EU.out]; exact seEq_self b) ?_
      intro dm w8 hb8 _ _ _ _ _ _ _
      have HB8 := hid hb8
      clear hb8
      obtain ⟨p5, p6, p7, p9, pB⟩ := KE.out w8 HB8.out
      clear pB
      go_upto_region 8 with fail
      refine u8_wp w8 X5 (X5 + 1) X9 a b u w8 (Below.refl _ _) p5 p6 p9 (KI0.out _) f1 (seEq_self u) ?_
      intro dm3 w9 hb8 _ _ _ _ _ _
      have hb9 := HB8.out.trans (hb8.mono HB8.out.size)
      clear p5 p6 p7 p9 hb8
      obtain ⟨p5, p6, p7, p9, pB⟩ := KE.out w9 hb9
      have PB := hid pB
      clear pB
      go_upto_region 10 with fail
      refine u10_wp w9 X5 (X5 + 1) X7 a b c u z x w9 (Below.refl _ _) p5 p6 p7 (KI1.out _) (KI2.out _) (KI3.out _) (KI4.out _) (seEq_self z) ?_
      intro dm2 w10 hb10 _ _ _ _ _ _ _ _
      have FB := hid (PB.out.trans (hb10.mono PB.out.size))
      clear hb10
      go_wp2
      go_ret
      exact ⟨rfl, FB.out⟩
  · have eu : u = a := HU.out.trans (wnE_f hbt)
    have EU := hid eu
    by_cases ht : a.t = b.t
    · have f1 : (a.t != b.t) = false := by simp [ht]
      by_cases hs : a.s = b.s
      · have f2 : (a.s != b.s) = false := by simp [hs]
        replace ht := hid ht
        replace hs := hid hs
        clear eu hbt
        refine u6_wp W7 X5 (X5 + 1) X9 a b u W7 (Below.refl _ _) Z5.out Z6.out Z9.out KS.out (seEq_self u) (by rw [EU.out]; exact seEq_self a) ?_
        intro dm w8 hb8 _ _ _ _ _ _
        have HB8 := hid hb8
        clear hb8
        obtain ⟨p5, p6, p7, p9, pB⟩ := KE.out w8 HB8.out
        clear pB
        go_upto_region 8 with fail
        refine w8_wp w8 X5 (X5 + 1) X9 a b u w8 (Below.refl _ _) p5 p6 p9 f1 f2 ?_
        intro dm3 w9 hb8 _ _ _ _ _
        have hb9 := HB8.out.trans (hb8.mono HB8.out.size)
        clear p5 p6 p7 p9 hb8
        obtain ⟨p5, p6, p7, p9, pB⟩ := KE.out w9 hb9
        have PB := hid pB
        clear pB
        go_upto_region 10 with fail
        refine u10_wp w9 X5 (X5 + 1) X7 a b c u z x w9 (Below.refl _ _) p5 p6 p7 (KI1.out _) (KI2.out _) (KI3.out _) (KI4.out _) (seEq_self z) ?_
        intro dm2 w10 hb10 _ _ _ _ _ _ _ _
        have FB := hid (PB.out.trans (hb10.mono PB.out.size))
        clear hb10
        go_wp2
        go_ret
        exact ⟨rfl, FB.out⟩
      · have f2 : (a.s != b.s) = true := by simp [hs]
        have tba : btP b a := by unfold btP at *; omega
        have KI0 : Hid (∀ (w0 wx : World), Below w0.heap.size w0 wx → Calls Try.prog 6 #[.agg #[.string b.k, .int .i64 b.t, .int .i64 b.s, .bool b.g, .string b.d], .agg #[.string a.k, .int .i64 a.t, .int .i64 a.s, .bool a.g, .string a.d]] wx fun e w' => e = .returned (.agg #[.string u.k, .int .i64 u.t, .int .i64 u.s, .bool u.g, .string u.d]) ∧ Below wx.heap.size wx w') := fun _ wx _ => by
          have q := iWin b a HB.out HA.out wx
          rw [wnE_t tba] at q
          rw [eu]
          exact q
        replace ht := hid ht
        clear eu hbt
        refine u6_wp W7 X5 (X5 + 1) X9 a b u W7 (Below.refl _ _) Z5.out Z6.out Z9.out KS.out (seEq_self u) (by rw [EU.out]; exact seEq_self a) ?_
        intro dm w8 hb8 _ _ _ _ _ _
        have HB8 := hid hb8
        clear hb8
        obtain ⟨p5, p6, p7, p9, pB⟩ := KE.out w8 HB8.out
        clear pB
        go_upto_region 8 with fail
        refine v8_wp w8 X5 (X5 + 1) X9 a b u w8 (Below.refl _ _) p5 p6 p9 (KI0.out _) f1 f2 (seEq_self u) ?_
        intro dm3 w9 hb8 _ _ _ _ _ _ _
        have hb9 := HB8.out.trans (hb8.mono HB8.out.size)
        clear p5 p6 p7 p9 hb8
        obtain ⟨p5, p6, p7, p9, pB⟩ := KE.out w9 hb9
        have PB := hid pB
        clear pB
        go_upto_region 10 with fail
        refine u10_wp w9 X5 (X5 + 1) X7 a b c u z x w9 (Below.refl _ _) p5 p6 p7 (KI1.out _) (KI2.out _) (KI3.out _) (KI4.out _) (seEq_self z) ?_
        intro dm2 w10 hb10 _ _ _ _ _ _ _ _
        have FB := hid (PB.out.trans (hb10.mono PB.out.size))
        clear hb10
        go_wp2
        go_ret
        exact ⟨rfl, FB.out⟩
    · have f1 : (a.t != b.t) = true := by simp [ht]
      have tba : btP b a := by unfold btP at *; omega
      have KI0 : Hid (∀ (w0 wx : World), Below w0.heap.size w0 wx → Calls Try.prog 6 #[.agg #[.string b.k, .int .i64 b.t, .int .i64 b.s, .bool b.g, .string b.d], .agg #[.string a.k, .int .i64 a.t, .int .i64 a.s, .bool a.g, .string a.d]] wx fun e w' => e = .returned (.agg #[.string u.k, .int .i64 u.t, .int .i64 u.s, .bool u.g, .string u.d]) ∧ Below wx.heap.size wx w') := fun _ wx _ => by
          have q := iWin b a HB.out HA.out wx
          rw [wnE_t tba] at q
          rw [eu]
          exact q
      clear eu hbt
      refine u6_wp W7 X5 (X5 + 1) X9 a b u W7 (Below.refl _ _) Z5.out Z6.out Z9.out KS.out (seEq_self u) (by rw [EU.out]; exact seEq_self a) ?_
      intro dm w8 hb8 _ _ _ _ _ _
      have HB8 := hid hb8
      clear hb8
      obtain ⟨p5, p6, p7, p9, pB⟩ := KE.out w8 HB8.out
      clear pB
      go_upto_region 8 with fail
      refine u8_wp w8 X5 (X5 + 1) X9 a b u w8 (Below.refl _ _) p5 p6 p9 (KI0.out _) f1 (seEq_self u) ?_
      intro dm3 w9 hb8 _ _ _ _ _ _
      have hb9 := HB8.out.trans (hb8.mono HB8.out.size)
      clear p5 p6 p7 p9 hb8
      obtain ⟨p5, p6, p7, p9, pB⟩ := KE.out w9 hb9
      have PB := hid pB
      clear pB
      go_upto_region 10 with fail
      refine u10_wp w9 X5 (X5 + 1) X7 a b c u z x w9 (Below.refl _ _) p5 p6 p7 (KI1.out _) (KI2.out _) (KI3.out _) (KI4.out _) (seEq_self z) ?_
      intro dm2 w10 hb10 _ _ _ _ _ _ _ _
      have FB := hid (PB.out.trans (hb10.mono PB.out.size))
      clear hb10
      go_wp2
      go_ret
      exact ⟨rfl, FB.out⟩
theorem fnWinner_walk {w : World} (a0 : Option Addr) (len0 cap0 : Nat) (z0 : List Int) (h0 : IsRow .u8 w a0 len0 cap0 z0) (a1 : Option Addr) (len1 cap1 : Nat) (z1 : List Int) (h1 : IsRow .u8 w a1 len1 cap1 z1) :
    Calls Try.prog 3 #[.slice a0 len0 cap0, .slice a1 len1 cap1] w fun e w' => e = .returned (.bool true) ∧ Below w.heap.size w w' := by
  have m0 := h0.le
  have m1 := h1.le
  unfold maxLen at m0 m1
  by_cases hl0 : len0 ≤ 1048576
  · by_cases hl1 : len1 ≤ 1048576
    · exact fnWinner_core w a0 len0 cap0 (codeOk_of w a0 len0 cap0 z0 h0 hl0) m0.1 a1 len1 cap1 (codeOk_of w a1 len1 cap1 z1 h1 hl1) m1.1
    · have d0 : decide ((1048576 : Int) < (len0 : Int)) = false := by simp; omega
      have d1 : decide ((1048576 : Int) < (len1 : Int)) = true := by simp; omega
      go_enter Try.func3, Try.ntmps3
      go_wp2
      go_ret
      exact ⟨rfl, Below.refl _ _⟩
  · have d0 : decide ((1048576 : Int) < (len0 : Int)) = true := by simp; omega
    go_enter Try.func3, Try.ntmps3
    go_wp2
    go_ret
    exact ⟨rfl, Below.refl _ _⟩
end Go.Proofs.Ytkedjhpaeojclaa
