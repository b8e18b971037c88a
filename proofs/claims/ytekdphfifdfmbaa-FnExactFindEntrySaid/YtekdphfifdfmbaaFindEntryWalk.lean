import Derived.Test.YtekdphfifdfmbaaOpenTab
import Derived.Test.YtekdphfifdfmbaaFndI
import Derived.Test.YtekdphfifdfmbaaFndS
namespace Go.Proofs.Ytekdphfifdfmbaa
open Go.RowKit
set_option linter.unusedVariables false
/-! FnExactFindEntry. -/
theorem allE_mk (R : Nat → Rn) (G : Nat → Nat) : ∀ m, allE (mkR R G) m = allE R m
  | 0 => rfl
  | m + 1 => by show allE (mkR R G) m ++ _ = allE R m ++ _; rw [allE_mk R G m]; rfl
theorem FnR_mk {s f : Int} {n0 : Nat} {o0 : Nat → En} {m : Nat} {R : Nat → Rn} {G : Nat → Nat} {key : ByteArray} {seq : Int} {x : En} : FnR s f n0 o0 m (mkR R G) key seq x ↔ FnR s f n0 o0 m R key seq x := by
  have : tabOk s f n0 o0 m (mkR R G) ↔ tabOk s f n0 o0 m R := by
    unfold tabOk tabTo
    rw [cntR_mk, sqA_mk]
    exact Iff.rfl
  unfold FnR allTb
  rw [this, allE_mk]
theorem i64_wf {q : Int} (h : (Lit.int .i64 q).wf = true) : q ≤ 9223372036854775807 := by
  have a : IntKind.i64.min = -9223372036854775808 := rfl
  have b : IntKind.i64.max = 9223372036854775807 := rfl
  have h2 : (decide (IntKind.i64.min ≤ q) && decide (q ≤ IntKind.i64.max)) = true := h
  rw [a, b] at h2
  simp at h2
  exact h2.2
set_option maxRecDepth 20000 in
set_option maxHeartbeats 8000000 in
theorem fnExactFindEntry_walk {w : World} (s f : Int) (a0 : Option Addr) (n0 c0 : Nat) (o0 : Nat → En) (h0 : IsEns w a0 n0 c0 o0) (a : Option Addr) (m cap : Nat) (R : Nat → Rn) (h : IsRns w a m cap R) (key : ByteArray) (hkey : key.size ≤ maxLen) (seq : Int) (wf : (Lit.int .i64 seq).wf = true) :
    Calls Try.prog 5 #[.agg #[.int .i64 s, .int .i64 f, .slice a0 n0 c0, .slice a m cap], .string key, .int .i64 seq] w fun e w' => e = .returned (.bool true) ∧ Below w.heap.size w w' := by
  have hq := i64_wf wf
  obtain ⟨hE, hcap0, hsz0⟩ := h0
  obtain ⟨hN, hcap, hIn⟩ := h
  have hn : n0 ≤ 9223372036854775807 := by have := hE.1; unfold maxLen at hcap0; omega
  have hm : m ≤ 9223372036854775807 := by have := hN.1; unfold maxLen at hcap; omega
  have hs : ∀ k, k < n0 → (o0 k).ky.size ≤ 9223372036854775807 ∧ (o0 k).tx.size ≤ 9223372036854775807 := fun k hk => by have := hsz0 k hk; unfold maxLen at this; omega
  have hRI : RnIn R m := fun k hk => by
    obtain ⟨x1, x2, x3⟩ := hIn k hk
    refine ⟨by have := x1.1; unfold maxLen at x2; omega, fun i hi => by have := x3 i hi; unfold maxLen at this; omega⟩
  obtain ⟨W1, hW1⟩ : ∃ W, W = w.alloc (.cells #[.int .i64 s, .int .i64 f, .slice a0 n0 c0, .slice a m cap] 49) := ⟨_, rfl⟩
  have R1 : Hid (RowAt W1 w.heap.size 49 #[.int .i64 s, .int .i64 f, .slice a0 n0 c0, .slice a m cap]) := by rw [hW1]; exact RowAt.new _ _ _
  have B1 : Hid (Below w.heap.size w W1) := by rw [hW1]; exact balEn (Below.refl _ _) _
  have HE := hid hE
  have HN := hid hN
  have K0 := hid (szTb s f a0 n0 c0 o0 a m cap R 1048576 (Nat.le_refl _) hn hs hm hRI W1 (hE.below B1.out) (hN.below B1.out))
  have r0 := R1.out.cell 0
  have r1 := R1.out.cell 1
  have r2 := R1.out.cell 2
  have r3 := R1.out.cell 3
  have HW1 := hid hW1
  have hkm : key.size ≤ 9223372036854775807 := hkey
  clear hE hN hcap0 hsz0 hcap hIn hn hm hs hRI hW1 wf hkey
  by_cases hkl : key.size ≤ 1048576
  case neg =>
    have dk : (1048576 : Int) < (key.size : Int) := by omega
    go_enter Try.func5, Try.ntmps5
    go_upto_region 1 with fail
    rw [← HW1.out]
    go_wp2
    go_ret
    exact ⟨rfl, B1.out⟩
  have dk : ¬ (1048576 : Int) < (key.size : Int) := by omega
  by_cases hf : n0 + szEn o0 n0 + m + szR R m ≤ 1048576
  case neg =>
    rw [if_neg hf] at K0
    have d0 : (-1 : Int) < 0 := by omega
    go_enter Try.func5, Try.ntmps5
    go_upto_region 1 with fail
    rw [← HW1.out]
    go_wp2_with fail
    refine K0.out.mono ?_
    rintro e w2 ⟨rfl, hb2⟩
    have B2 := hid (B1.out.trans (hb2.mono B1.out.size))
    clear hb2 hf
    go_wp2
    go_ret
    exact ⟨rfl, B2.out⟩
  rw [if_pos hf] at K0
  obtain ⟨l, hl⟩ : ∃ l : Nat, l = 1048576 - n0 - szEn o0 n0 - m - szR R m := ⟨_, rfl⟩
  rw [← hl] at K0
  have d0 : ¬ (l : Int) < 0 := by omega
  have hn1 : n0 ≤ 1048576 := by omega
  have hm1 : m ≤ 1048576 := by omega
  have hs1 : Hid (∀ k, k < n0 → (o0 k).ky.size ≤ 1048576 ∧ (o0 k).tx.size ≤ 1048576) := fun k hk => by have := szEn_at o0 hk; omega
  have hR1 : Hid (∀ k, k < m → (R k).n ≤ 1048576) := fun k hk => by have := szR_at R hk; omega
  have hZ1 : Hid (∀ G, RnSz (mkR R G) m) := fun G k hk => by
    have x1 := szR_at R hk
    refine ⟨by show (R k).n ≤ _; omega, fun i hi => ?_⟩
    have x2 := szEn_at (R k).o (show i < (R k).n from hi)
    show ((R k).o i).ky.size ≤ _ ∧ ((R k).o i).tx.size ≤ _
    omega
  have hC1 : Hid (∀ G, cntR (mkR R G) m + n0 ≤ 1048576) := fun G => by rw [cntR_mk]; have := szR_ge R m; omega
  clear hl hf
  go_enter Try.func5, Try.ntmps5
  go_upto_region 1 with fail
  rw [← HW1.out]
  go_wp2_with fail
  refine K0.out.mono ?_
  rintro e w2 ⟨rfl, hb2⟩
  have R2 := hid (RowAt.nx hb2 R1.out)
  have B2 := hid (B1.out.trans (hb2.mono B1.out.size))
  have K1 := hid (toTb s f a0 n0 c0 o0 a m cap R hn1 hm1 hR1.out w2 (HE.out.below B2.out) (HN.out.below B2.out))
  clear hb2 K0 r0 r1 r2 r3 R1 B1
  have r0 := R2.out.cell 0
  have r1 := R2.out.cell 1
  have r2 := R2.out.cell 2
  have r3 := R2.out.cell 3
  go_wp2_with fail
  refine K1.out.mono ?_
  rintro e w3 ⟨g3, gr3, G3, rfl, hM3, hb3⟩
  have R3 := hid (RowAt.nx hb3 R2.out)
  have B3 := hid (B2.out.trans (hb3.mono B2.out.size))
  have K2 := hid (sFindE s f (some ⟨g3, 0, none⟩) n0 n0 o0 (some ⟨gr3, 0, none⟩) m m (mkR R G3) hn1 hm1 (by have := hC1.out G3; omega) (fun e => by cases e) (fun k hk e => by cases e) hs1.out (hZ1.out G3) key hkl seq w3 hM3.ens hM3.rns)
  clear hb3 K1 r0 r1 r2 r3 R2 B2 hM3
  go_wp2_with fail
  refine K2.out.mono ?_
  rintro e w4 ⟨⟨x, rfl, hx⟩, hb4⟩
  have HX : Hid (FnR s f n0 o0 m R key seq x) := FnR_mk.1 hx
  have R4 := hid (RowAt.nx hb4 R3.out)
  have B4 := hid (B3.out.trans (hb4.mono B3.out.size))
  clear hb4 hx K2 R3 B3
  obtain ⟨X0, X1, X2, X3⟩ := x
  dsimp only
  obtain ⟨W4, hW4⟩ : ∃ W, W = w4.alloc (.cells #[.string X0, .int .i64 X1, .bool X2, .string X3] 34) := ⟨_, rfl⟩
  have b44 : Below w4.heap.size w4 W4 := by rw [hW4]; exact (Below.refl _ _).alloc (Nat.le_refl _) _
  have P4 : Hid (RowAt W4 w4.heap.size 34 #[.string X0, .int .i64 X1, .bool X2, .string X3]) := by rw [hW4]; exact RowAt.new _ _ _
  have R5 := hid (RowAt.nx b44 R4.out)
  have B5 := hid (B4.out.trans (b44.mono B4.out.size))
  clear b44 R4 B4
  go_upto_region 8 with ((refine wpList_store_row rfl 34 (.tmp 8) (.tmp 23) rfl w4.heap.size #[.string X0, .int .i64 X1, .bool X2, .string X3] rfl rfl _ _ (RowAt.new w4 _ _) (by kernel_rfl) rfl (oneEn4 _ _ _ _) ?_); rw [World.setRow_alloc_new])
  rw [← hW4]
  clear hW4
  obtain ⟨Y0, hY0⟩ : ∃ y, y = w4.heap.size := ⟨_, rfl⟩
  rw [← hY0] at P4 ⊢
  clear hY0
  have r0 := R5.out.cell 0
  have r1 := R5.out.cell 1
  have r2 := R5.out.cell 2
  have r3 := R5.out.cell 3
  have K3 := hid (toTb s f a0 n0 c0 o0 a m cap R hn1 hm1 hR1.out W4 (HE.out.below B5.out) (HN.out.below B5.out))
  go_wp2_with fail
  refine K3.out.mono ?_
  rintro e w5 ⟨g5, gr5, G5, rfl, hM5, hb5⟩
  have R6 := hid (RowAt.nx hb5 R5.out)
  have P6 := hid (RowAt.nx hb5 P4.out)
  have B6 := hid (B5.out.trans (hb5.mono B5.out.size))
  clear hb5 K3 r0 r1 r2 r3 R5 P4 B5
  obtain ⟨W6, hW6⟩ : ∃ W, W = w5.alloc (.cells #[.int .i64 s, .int .i64 f, .slice (some ⟨g5, 0, none⟩) n0 n0, .slice (some ⟨gr5, 0, none⟩) m m] 53) := ⟨_, rfl⟩
  have X6 : Hid (RowAt W6 w5.heap.size 53 #[.int .i64 s, .int .i64 f, .slice (some ⟨g5, 0, none⟩) n0 n0, .slice (some ⟨gr5, 0, none⟩) m m]) := by rw [hW6]; exact RowAt.new _ _ _
  have b56 : Below w5.heap.size w5 W6 := by rw [hW6]; exact (Below.refl _ _).alloc (Nat.le_refl _) _
  have R7 := hid (RowAt.nx b56 R6.out)
  have P7 := hid (RowAt.nx b56 P6.out)
  have B7 := hid (B6.out.trans (b56.mono B6.out.size))
  have M7 := hid (hM5.below b56)
  have HW6 := hid hW6
  clear hW6 b56 R6 P6 B6 hM5
  go_upto_region 9 with ((refine wpList_store_row rfl 53 (.tmp 9) (.tmp 25) rfl w5.heap.size #[.int .i64 s, .int .i64 f, .slice (some ⟨g5, 0, none⟩) n0 n0, .slice (some ⟨gr5, 0, none⟩) m m] rfl rfl _ _ (RowAt.new w5 _ _) (by kernel_rfl) rfl (oneTb _ _ _ _ _ _ _ _) ?_); rw [World.setRow_alloc_new])
  rw [← HW6.out]
  obtain ⟨Y1, hY1⟩ : ∃ y, y = w5.heap.size := ⟨_, rfl⟩
  rw [← hY1] at X6 ⊢
  have y0 := X6.out.cell 0
  have y1 := X6.out.cell 1
  have y2 := X6.out.cell 2
  have y3 := X6.out.cell 3
  have K4 := hid (iFindE s f (some ⟨g5, 0, none⟩) n0 n0 o0 gr5 m m (mkR R G5) hn1 hm1 (hC1.out G5) hs1.out (hZ1.out G5) key hkl seq hq W6 M7.out.ens M7.out.rns M7.out.2.1.lt M7.out.cells)
  clear HW6 hY1
  go_wp2_with fail
  refine K4.out.mono ?_
  rintro e w7 ⟨⟨x', rfl, hx'⟩, hb7⟩
  have EX : Hid (x' = ⟨X0, X1, X2, X3⟩) := (FnR_mk.1 hx').uniq HX.out
  have ex := EX.out
  subst ex
  dsimp only
  have R8 := hid (RowAt.nx hb7 R7.out)
  have P8 := hid (RowAt.nx hb7 P7.out)
  have X8 := hid (RowAt.nx hb7 X6.out)
  have B8 := hid (B7.out.trans (hb7.mono B7.out.size))
  have M8 := hid (M7.out.below hb7)
  clear hb7 hx' K4 y0 y1 y2 y3 R7 P7 X6 B7 M7 EX HX
  obtain ⟨W8, hW8⟩ : ∃ W, W = w7.alloc (.cells #[.string X0, .int .i64 X1, .bool X2, .string X3] 34) := ⟨_, rfl⟩
  have b78 : Below w7.heap.size w7 W8 := by rw [hW8]; exact (Below.refl _ _).alloc (Nat.le_refl _) _
  have Q9 : Hid (RowAt W8 w7.heap.size 34 #[.string X0, .int .i64 X1, .bool X2, .string X3]) := by rw [hW8]; exact RowAt.new _ _ _
  have R9 := hid (RowAt.nx b78 R8.out)
  have P9 := hid (RowAt.nx b78 P8.out)
  have X9 := hid (RowAt.nx b78 X8.out)
  have B9 := hid (B8.out.trans (b78.mono B8.out.size))
  have M9 := hid (M8.out.below b78)
  clear b78 R8 P8 X8 B8 M8
  go_upto_region 10 with ((refine wpList_store_row rfl 34 (.tmp 10) (.tmp 29) rfl w7.heap.size #[.string X0, .int .i64 X1, .bool X2, .string X3] rfl rfl _ _ (RowAt.new w7 _ _) (by kernel_rfl) rfl (oneEn4 _ _ _ _) ?_); rw [World.setRow_alloc_new])
  rw [← hW8]
  clear hW8
  obtain ⟨Y2, hY2⟩ : ∃ y, y = w7.heap.size := ⟨_, rfl⟩
  rw [← hY2] at Q9 ⊢
  clear hY2
  have q0 := Q9.out.cell 0
  have q1 := Q9.out.cell 1
  have q2 := Q9.out.cell 2
  have q3 := Q9.out.cell 3
  have p0 := P9.out.cell 0
  have p1 := P9.out.cell 1
  have p2 := P9.out.cell 2
  have p3 := P9.out.cell 3
  have K5 := hid (eqEn X0 X1 X2 X3 W8)
  go_wp2_with fail
  refine K5.out.mono ?_
  rintro e w8 ⟨rfl, hb8⟩
  have hJ := RowAt.nx hb8 R9.out
  have hX := RowAt.nx hb8 X9.out
  have hW := hid (B9.out.trans (hb8.mono B9.out.size))
  have MA := hid (M9.out.below hb8)
  clear hb8 K5 q0 q1 q2 q3 p0 p1 p2 p3 R9 P9 X9 B9 M9 Q9
  have KT := fun wx (hb : Below w.heap.size w wx) => hid (toTb s f a0 n0 c0 o0 a m cap R hn1 hm1 hR1.out wx (HE.out.below hb) (HN.out.below hb))
  have KQ := fun wx g gr G (hb : Below w8.heap.size w8 wx) (hM : MkT wx n0 o0 m R g gr G) => hid (eqTb s f (some ⟨g5, 0, none⟩) n0 n0 o0 (some ⟨gr5, 0, none⟩) m m (mkR R G5) (some ⟨g, 0, none⟩) n0 (some ⟨gr, 0, none⟩) m (mkR R G) hn1 hm1 (fun k hk => ⟨rfl, rfl, hR1.out k hk⟩) wx (MA.out.below hb).ens (MA.out.below hb).rns hM.ens hM.rns)
  go_wp2_with fail
  go_region_held3 (fun wx => (wx.cell? ⟨w.heap.size, 0, none⟩ = some (.int .i64 s) ∧ wx.cell? ⟨w.heap.size, 1, none⟩ = some (.int .i64 f) ∧ wx.cell? ⟨w.heap.size, 2, none⟩ = some (.slice a0 n0 c0) ∧ wx.cell? ⟨w.heap.size, 3, none⟩ = some (.slice a m cap)) ∧ wx.cell? ⟨Y1, 0, none⟩ = some (.int .i64 s) ∧ wx.cell? ⟨Y1, 1, none⟩ = some (.int .i64 f) ∧ wx.cell? ⟨Y1, 2, none⟩ = some (.slice (some ⟨g5, 0, none⟩) n0 n0) ∧ wx.cell? ⟨Y1, 3, none⟩ = some (.slice (some ⟨gr5, 0, none⟩) m m))
    ((first | exact ⟨⟨hJ.cell 0, hJ.cell 1, hJ.cell 2, hJ.cell 3⟩, hX.cell 0, hX.cell 1, hX.cell 2, hX.cell 3⟩))
    ((first
      | (go_at_call 21; refine (KT _ hW.out.drew).out.mono ?_; rintro e w9 ⟨g8, gr8, G8, rfl, hM8, hb9⟩; replace hJ := RowAt.nx hb9 hJ; replace hX := RowAt.nx hb9 hX)
      | (go_at_call 24; refine (KQ _ _ _ _ ((Below.refl _ w8).drew.trans hb9) hM8).out.mono ?_; rintro e w10 ⟨rfl, hb10⟩; replace hJ := RowAt.nx hb10 hJ; replace hX := RowAt.nx hb10 hX)))
  all_goals go_wp2
  all_goals go_ret
  all_goals exact ⟨rfl, (hW.out.drew.trans (hb9.mono hW.out.size)).trans (hb10.mono (Nat.le_trans hW.out.size hb9.size))⟩
end Go.Proofs.Ytekdphfifdfmbaa
