import Derived.Test.YtlobnmcjnaibaajDoorAnsKit
import Derived.Test.YtlobnmcjnaibaajDoorIMult
namespace Go.Proofs.YtlobnmcjnaibaajDoor
open Go.RowKit
theorem Wr.ints2 {k : IntKind} {w : World} {b off len : Nat} {xs : List Int} (h : Wr k w b off xs) (e : xs.length = len) : Ints k w (some ⟨b, off, none⟩) len len xs := by subst e; exact h.ints (Nat.le_refl _)
theorem Wr.own' {w : World} {b lo len : Nat} {xs : List Int} (h : Wr .i64 w b 0 xs) (e : xs.length = len) (hb : lo ≤ b) : Own w lo w.heap.size (some ⟨b, 0, none⟩) len len xs := by
  subst e; exact ⟨rfl, Nat.le_refl _, Or.inr ⟨b, 0, rfl, hb, h.lt, h⟩⟩
theorem belowAl {w w' : World} {o : Obj} (h : Below (w.alloc o).heap.size (w.alloc o) w') : Below w.heap.size w w' := ((Below.refl _ _).alloc (Nat.le_refl _) o).trans (h.mono (by rw [size_al]; omega))
theorem belowAlD {w w' : World} {o : Obj} (h : Below (w.alloc o).drew.heap.size (w.alloc o).drew w') : Below w.heap.size w w' := ((Below.refl _ _).alloc (Nat.le_refl _) o).drew.trans (h.mono (by show w.heap.size ≤ (w.alloc o).heap.size; rw [size_al]; omega))
theorem six {w : World} {b b' : Nat} {t t' : TypeId} {x0 x1 x2 y0 y1 y2 : Value} (h : RowAt w b t #[x0, x1, x2]) (h' : RowAt w b' t' #[y0, y1, y2]) :
    w.cell? ⟨b, 0, none⟩ = some x0 ∧ w.cell? ⟨b, 1, none⟩ = some x1 ∧ w.cell? ⟨b, 2, none⟩ = some x2 ∧ w.cell? ⟨b', 0, none⟩ = some y0 ∧ w.cell? ⟨b', 1, none⟩ = some y1 ∧ w.cell? ⟨b', 2, none⟩ = some y2 :=
  ⟨h.cell 0, h.cell 1, h.cell 2, h'.cell 0, h'.cell 1, h'.cell 2⟩
theorem size4 (w : World) {g : Nat} (v0 v1 v2 v3 : Value) : ((((w.setCell ⟨g, 0, none⟩ v0).setCell ⟨g, 1, none⟩ v1).setCell ⟨g, 2, none⟩ v2).setCell ⟨g, 3, none⟩ v3).heap.size = w.heap.size := by simp [World.setCell]
theorem own4 {w : World} {lo hi g : Nat} {a : Option Addr} {len cap : Nat} {xs : List Int} (h : Own w lo hi a len cap xs) (v0 v1 v2 v3 : Value) (hg : g < lo ∨ hi ≤ g) : Own ((((w.setCell ⟨g, 0, none⟩ v0).setCell ⟨g, 1, none⟩ v1).setCell ⟨g, 2, none⟩ v2).setCell ⟨g, 3, none⟩ v3) lo hi a len cap xs := by
  refine ⟨h.1, h.2.1, ?_⟩
  rcases h.2.2 with h0 | ⟨b, off, rfl, h1, h2, hw⟩
  · exact Or.inl h0
  · exact Or.inr ⟨b, off, rfl, h1, h2, (((hw.other _ _ (by dsimp only; omega)).other _ _ (by dsimp only; omega)).other _ _ (by dsimp only; omega)).other _ _ (by dsimp only; omega)⟩
theorem markMx1 (r c : Int) (lo hi : Nat) (a : Option Addr) (len cap : Nat) (xs : List Int) (M : Nat) (hM : M = 1 + len) (w : World) (h : Own w lo hi a len cap xs) (hl : len ≤ 1048576) :
    Calls Tryd.prog 12 #[mxv r c a len cap, .int .i64 1] w fun e w' => e = .returned (.int .i64 (M : Nat)) ∧ Own w' lo hi a len cap (marks 1 len) ∧ Turned lo hi w w' := by
  subst hM; exact markMxT r c lo hi a len cap xs 1 w h hl (by decide)
theorem markMxK (r c : Int) (lo hi : Nat) (a : Option Addr) (len cap : Nat) (xs : List Int) (K M : Nat) (hM : M = K + len) (w : World) (h : Own w lo hi a len cap xs) (hl : len ≤ 1048576) (hK : K ≤ 1073741824) :
    Calls Tryd.prog 12 #[mxv r c a len cap, .int .i64 K] w fun e w' => e = .returned (.int .i64 (M : Nat)) ∧ Own w' lo hi a len cap (marks K len) ∧ Turned lo hi w w' := by
  subst hM; exact markMxT r c lo hi a len cap xs K w h hl hK
set_option maxRecDepth 20000 in
set_option maxHeartbeats 8000000 in
theorem fnExactMatInv_core (k R C : Int) (ys : List Int) (hyl : ys.length ≤ 1048576) (r c : Int) (a : Option Addr) (len cap : Nat) (xs : List Int) (w : World) (hT : Tab w) (h : Ints .i64 w a len cap xs) (hle : len ≤ 1048576)
    (HS : ∀ b w, Wr .i64 w b 0 xs → Calls Tryd.prog 15 #[mxv r c (some ⟨b, 0, none⟩) len len] w fun e w' => Ans k R C ys w e w')
    (HI : ∀ b w, Tab w → Wr .i64 w b 0 xs → Calls Tryd.prog 16 #[mxv r c (some ⟨b, 0, none⟩) len len] w fun e w' => Ans k R C ys w e w') :
    Calls Tryd.prog 4 #[.agg #[.int .i64 r, .int .i64 c, .slice a len cap]] w fun e w' => e = .returned (.bool true) ∧ Below w.heap.size w w' := by
  have HH_P : Hid (Ints .i64 w a len cap xs) := h
  have hxl : Hid (xs.length = len) := h.1
  have HS' := hid HS
  have HI' := hid HI
  have HT := hid hT
  clear HS HI h hT
  have hle' : (len : Int) ≤ 1048576 := by omega
  have dL : decide ((1048576 : Int) - (len : Int) < 0) = false := by simp; omega
  go_enter Tryd.func4, Tryd.ntmps4
  have L_w : Hid (Below w.heap.size w w) := Below.refl _ _
  obtain ⟨v1, hv1⟩ : ∃ v, v = w.alloc (.cells #[.int .i64 r, .int .i64 c, .slice a len cap] 24) := ⟨_, rfl⟩
  have sz_v1 : v1.heap.size = w.heap.size + 1 := by rw [hv1, size_al]
  have L_v1 : Hid (Below w.heap.size w v1) := by rw [hv1]; exact L_w.out.alloc L_w.out.size _
  have P_v1 : Hid (RowAt v1 w.heap.size 24 #[.int .i64 r, .int .i64 c, .slice a len cap]) := by rw [hv1]; exact RowAt.next w _ _ (by omega)
  have ld0 := P_v1.out
  go_wp2_with (first
    | (rw [← hv1])
    | refine wpList_load_row rfl 24 (.tmp 1) rfl w.heap.size rfl _ _ _ _ ld0 Tryd.underlying24 rfl (by kernel_rfl) ?_)
  try rw [← hv1]
  clear ld0
  clear hv1 L_w
  refine (szMx r c a len cap 1048576 (by decide) (by decide) (by omega) _).mono ?_
  rintro e v2 ⟨rfl, hb⟩
  have sz_v2 : v1.heap.size ≤ v2.heap.size := hb.size
  have P_v2 : Hid (RowAt v2 w.heap.size 24 #[.int .i64 r, .int .i64 c, .slice a len cap]) := P_v1.out.below hb P_v1.out.lt
  have L_v2 : Hid (Below w.heap.size w v2) := L_v1.out.trans (hb.mono L_v1.out.size)
  rw [if_pos hle']
  clear hb P_v1 L_v1
  have ld0 := P_v2.out
  go_wp2_with (refine wpList_load_row rfl 24 (.tmp 1) rfl w.heap.size rfl _ _ _ _ ld0 Tryd.underlying24 rfl (by kernel_rfl) ?_)
  clear ld0
  refine (toMx r c a len cap xs _ (HH_P.out.below L_v2.out) hle).mono ?_
  rintro e v3 ⟨b2, rfl, gb2, hw2, hb⟩
  have sz_v3 : v2.heap.size ≤ v3.heap.size := hb.size
  have P_v3 : Hid (RowAt v3 w.heap.size 24 #[.int .i64 r, .int .i64 c, .slice a len cap]) := P_v2.out.below hb P_v2.out.lt
  have L_v3 : Hid (Below w.heap.size w v3) := L_v2.out.trans (hb.mono L_v2.out.size)
  clear hb dL P_v2 L_v2
  go_wp2_with (fail)
  refine (HS'.out b2 _ hw2).mono ?_
  rintro e v4 ⟨a0, l0, c0, rfl, ho0, hb⟩
  have sz_v4 : v3.heap.size ≤ v4.heap.size := hb.size
  have P_v4 : Hid (RowAt v4 w.heap.size 24 #[.int .i64 r, .int .i64 c, .slice a len cap]) := P_v3.out.below hb P_v3.out.lt
  have L_v4 : Hid (Below w.heap.size w v4) := L_v3.out.trans (hb.mono L_v3.out.size)
  have hl0 := ho0.1
  have O0_v4 := hid (Own.of ho0)
  clear hb ho0 hw2 P_v3 L_v3
  obtain ⟨v5, hv5⟩ : ∃ v, v = v4.alloc (.cells #[.int .i64 k, .int .i64 R, .int .i64 C, .slice a0 l0 c0] 28) := ⟨_, rfl⟩
  have sz_v5 : v5.heap.size = v4.heap.size + 1 := by rw [hv5, size_al]
  have P_v5 : Hid (RowAt v5 w.heap.size 24 #[.int .i64 r, .int .i64 c, .slice a len cap]) := by rw [hv5]; exact P_v4.out.alloc _
  have O0_v5 : Hid (Own v5 v3.heap.size v4.heap.size a0 l0 c0 ys) := by rw [hv5]; exact O0_v4.out.alloc _
  have L_v5 : Hid (Below w.heap.size w v5) := by rw [hv5]; exact L_v4.out.alloc L_v4.out.size _
  have G0_v5 : Hid (RowAt v5 v4.heap.size 28 #[.int .i64 k, .int .i64 R, .int .i64 C, .slice a0 l0 c0]) := by rw [hv5]; exact RowAt.next v4 _ _ (by omega)
  have ld0 := P_v5.out
  go_wp2_with (first
    | (rw [← hv5])
    | refine wpList_load_row rfl 24 (.tmp 1) rfl w.heap.size rfl _ _ _ _ ld0 Tryd.underlying24 rfl (by kernel_rfl) ?_)
  try rw [← hv5]
  clear ld0
  clear hv5 P_v4 O0_v4 L_v4
  refine (toMx r c a len cap xs _ (HH_P.out.below L_v5.out) hle).mono ?_
  rintro e v6 ⟨b4, rfl, gb4, hw4, hb⟩
  have sz_v6 : v5.heap.size ≤ v6.heap.size := hb.size
  have P_v6 : Hid (RowAt v6 w.heap.size 24 #[.int .i64 r, .int .i64 c, .slice a len cap]) := P_v5.out.below hb P_v5.out.lt
  have G0_v6 : Hid (RowAt v6 v4.heap.size 28 #[.int .i64 k, .int .i64 R, .int .i64 C, .slice a0 l0 c0]) := G0_v5.out.below hb G0_v5.out.lt
  have O0_v6 : Hid (Own v6 v3.heap.size v4.heap.size a0 l0 c0 ys) := O0_v5.out.below hb (by omega)
  have L_v6 : Hid (Below w.heap.size w v6) := L_v5.out.trans (hb.mono L_v5.out.size)
  have OX_v6 := hid (hw4.own' hxl.out gb4)
  clear hb P_v5 G0_v5 O0_v5 L_v5
  obtain ⟨v7, hv7⟩ : ∃ v, v = v6.alloc (.cells #[.int .i64 r, .int .i64 c, .slice (some ⟨b4, 0, none⟩) len len] 26) := ⟨_, rfl⟩
  have sz_v7 : v7.heap.size = v6.heap.size + 1 := by rw [hv7, size_al]
  have P_v7 : Hid (RowAt v7 w.heap.size 24 #[.int .i64 r, .int .i64 c, .slice a len cap]) := by rw [hv7]; exact P_v6.out.alloc _
  have G0_v7 : Hid (RowAt v7 v4.heap.size 28 #[.int .i64 k, .int .i64 R, .int .i64 C, .slice a0 l0 c0]) := by rw [hv7]; exact G0_v6.out.alloc _
  have O0_v7 : Hid (Own v7 v3.heap.size v4.heap.size a0 l0 c0 ys) := by rw [hv7]; exact O0_v6.out.alloc _
  have OX_v7 : Hid (Own v7 v5.heap.size v6.heap.size (some ⟨b4, 0, none⟩) len len xs) := by rw [hv7]; exact OX_v6.out.alloc _
  have L_v7 : Hid (Below w.heap.size w v7) := by rw [hv7]; exact L_v6.out.alloc L_v6.out.size _
  have X0_v7 : Hid (RowAt v7 v6.heap.size 26 #[.int .i64 r, .int .i64 c, .slice (some ⟨b4, 0, none⟩) len len]) := by rw [hv7]; exact RowAt.next v6 _ _ (by omega)
  have hw4a : Hid (Wr .i64 v7 b4 0 xs) := by rw [hv7]; exact hw4.alloc _
  clear hw4
  have ld0 := X0_v7.out
  go_wp2_with (first
    | (rw [← hv7])
    | refine wpList_load_row rfl 26 (.tmp 5) rfl v6.heap.size rfl _ _ _ _ ld0 Tryd.underlying26 rfl (by kernel_rfl) ?_)
  try rw [← hv7]
  clear ld0
  clear hv7 P_v6 G0_v6 O0_v6 OX_v6 L_v6
  refine (HI'.out b4 _ (HT.out.belowS L_v7.out) hw4a.out).mono ?_
  rintro e v8 ⟨a1, l1, c1, rfl, ho1, hb⟩
  have sz_v8 : v7.heap.size ≤ v8.heap.size := hb.size
  have P_v8 : Hid (RowAt v8 w.heap.size 24 #[.int .i64 r, .int .i64 c, .slice a len cap]) := P_v7.out.below hb P_v7.out.lt
  have G0_v8 : Hid (RowAt v8 v4.heap.size 28 #[.int .i64 k, .int .i64 R, .int .i64 C, .slice a0 l0 c0]) := G0_v7.out.below hb G0_v7.out.lt
  have X0_v8 : Hid (RowAt v8 v6.heap.size 26 #[.int .i64 r, .int .i64 c, .slice (some ⟨b4, 0, none⟩) len len]) := X0_v7.out.below hb X0_v7.out.lt
  have O0_v8 : Hid (Own v8 v3.heap.size v4.heap.size a0 l0 c0 ys) := O0_v7.out.below hb (by omega)
  have OX_v8 : Hid (Own v8 v5.heap.size v6.heap.size (some ⟨b4, 0, none⟩) len len xs) := OX_v7.out.below hb (by omega)
  have L_v8 : Hid (Below w.heap.size w v8) := L_v7.out.trans (hb.mono L_v7.out.size)
  have hl1 := ho1.1
  have O1_v8 := hid (Own.of ho1)
  clear hb ho1 hw4a P_v7 G0_v7 X0_v7 O0_v7 OX_v7 L_v7
  obtain ⟨v9, hv9⟩ : ∃ v, v = v8.alloc (.cells #[.int .i64 k, .int .i64 R, .int .i64 C, .slice a1 l1 c1] 28) := ⟨_, rfl⟩
  have sz_v9 : v9.heap.size = v8.heap.size + 1 := by rw [hv9, size_al]
  have P_v9 : Hid (RowAt v9 w.heap.size 24 #[.int .i64 r, .int .i64 c, .slice a len cap]) := by rw [hv9]; exact P_v8.out.alloc _
  have G0_v9 : Hid (RowAt v9 v4.heap.size 28 #[.int .i64 k, .int .i64 R, .int .i64 C, .slice a0 l0 c0]) := by rw [hv9]; exact G0_v8.out.alloc _
  have X0_v9 : Hid (RowAt v9 v6.heap.size 26 #[.int .i64 r, .int .i64 c, .slice (some ⟨b4, 0, none⟩) len len]) := by rw [hv9]; exact X0_v8.out.alloc _
  have O0_v9 : Hid (Own v9 v3.heap.size v4.heap.size a0 l0 c0 ys) := by rw [hv9]; exact O0_v8.out.alloc _
  have OX_v9 : Hid (Own v9 v5.heap.size v6.heap.size (some ⟨b4, 0, none⟩) len len xs) := by rw [hv9]; exact OX_v8.out.alloc _
  have O1_v9 : Hid (Own v9 v7.heap.size v8.heap.size a1 l1 c1 ys) := by rw [hv9]; exact O1_v8.out.alloc _
  have L_v9 : Hid (Below w.heap.size w v9) := by rw [hv9]; exact L_v8.out.alloc L_v8.out.size _
  have G1_v9 : Hid (RowAt v9 v8.heap.size 28 #[.int .i64 k, .int .i64 R, .int .i64 C, .slice a1 l1 c1]) := by rw [hv9]; exact RowAt.next v8 _ _ (by omega)
  have ld0 := G1_v9.out
  have ld1 := G0_v9.out
  go_wp2_with (first
    | (rw [← hv9])
    | refine wpList_load_row rfl 28 (.tmp 6) rfl v8.heap.size rfl _ _ _ _ ld0 Tryd.underlying28 rfl (by kernel_rfl) ?_
    | refine wpList_load_row rfl 28 (.tmp 4) rfl v4.heap.size rfl _ _ _ _ ld1 Tryd.underlying28 rfl (by kernel_rfl) ?_)
  try rw [← hv9]
  clear ld0 ld1
  clear hv9 P_v8 G0_v8 X0_v8 O0_v8 OX_v8 O1_v8 L_v8
  refine (eqMr k R C a1 l1 c1 a0 l0 c0 ys _ O1_v9.out.ints O0_v9.out.ints hyl).mono ?_
  rintro e v10 ⟨rfl, hb⟩
  have sz_v10 : v9.heap.size ≤ v10.heap.size := hb.size
  have P_v10 : Hid (RowAt v10 w.heap.size 24 #[.int .i64 r, .int .i64 c, .slice a len cap]) := P_v9.out.below hb P_v9.out.lt
  have G0_v10 : Hid (RowAt v10 v4.heap.size 28 #[.int .i64 k, .int .i64 R, .int .i64 C, .slice a0 l0 c0]) := G0_v9.out.below hb G0_v9.out.lt
  have X0_v10 : Hid (RowAt v10 v6.heap.size 26 #[.int .i64 r, .int .i64 c, .slice (some ⟨b4, 0, none⟩) len len]) := X0_v9.out.below hb X0_v9.out.lt
  have G1_v10 : Hid (RowAt v10 v8.heap.size 28 #[.int .i64 k, .int .i64 R, .int .i64 C, .slice a1 l1 c1]) := G1_v9.out.below hb G1_v9.out.lt
  have O0_v10 : Hid (Own v10 v3.heap.size v4.heap.size a0 l0 c0 ys) := O0_v9.out.below hb (by omega)
  have OX_v10 : Hid (Own v10 v5.heap.size v6.heap.size (some ⟨b4, 0, none⟩) len len xs) := OX_v9.out.below hb (by omega)
  have O1_v10 : Hid (Own v10 v7.heap.size v8.heap.size a1 l1 c1 ys) := O1_v9.out.below hb (by omega)
  have L_v10 : Hid (Below w.heap.size w v10) := L_v9.out.trans (hb.mono L_v9.out.size)
  clear hb P_v9 G0_v9 X0_v9 G1_v9 O0_v9 OX_v9 O1_v9 L_v9
  have xx0 := X0_v10.out.cell 0
  have pp0 := P_v10.out.cell 0
  have xx1 := X0_v10.out.cell 1
  have pp1 := P_v10.out.cell 1
  have xx2 := X0_v10.out.cell 2
  have pp2 := P_v10.out.cell 2
  go_wp2_with fail
  go_region_held3 (fun wx => wx.cell? ⟨w.heap.size, 0, none⟩ = some (.int .i64 r) ∧ wx.cell? ⟨w.heap.size, 1, none⟩ = some (.int .i64 c) ∧ wx.cell? ⟨w.heap.size, 2, none⟩ = some (.slice a len cap) ∧ wx.cell? ⟨v6.heap.size, 0, none⟩ = some (.int .i64 r) ∧ wx.cell? ⟨v6.heap.size, 1, none⟩ = some (.int .i64 c) ∧ wx.cell? ⟨v6.heap.size, 2, none⟩ = some (.slice (some ⟨b4, 0, none⟩) len len))
    ((first | (go_keep; done) | exact ⟨pB2.cell 0, pB2.cell 1, pB2.cell 2, pX2.cell 0, pX2.cell 1, pX2.cell 2⟩ | exact ⟨pB1.cell 0, pB1.cell 1, pB1.cell 2, pX1.cell 0, pX1.cell 1, pX1.cell 2⟩))
    ((first
      | (go_at_call 8; refine (toMx r c a len cap xs _ (HH_P.out.below L_v10.out.drew) hle).mono ?_; rintro e v11 ⟨bb, rfl, gg, hww, hb1⟩; have pB1 := P_v10.out.drew.below hb1 P_v10.out.lt; have pX1 := X0_v10.out.drew.below hb1 X0_v10.out.lt; have oX1 := OX_v10.out.drew.below hb1 (by show _ ≤ v10.heap.size; omega))
      | (go_at_call 11; refine (eqMx r c (some ⟨b4, 0, none⟩) len len (some ⟨bb, 0, none⟩) len len xs _ oX1.ints (hww.ints2 hxl.out) (by rw [hxl.out]; exact hle)).mono ?_; rintro e v12 ⟨rfl, hb2⟩; have pB2 := pB1.below hb2 pB1.lt; have pX2 := pX1.below hb2 pX1.lt; have hb3 := ((Below.refl v10.heap.size v10).drew.trans hb1).trans (hb2.mono hb1.size))))
  have sz_v12 : v10.heap.size ≤ v12.heap.size := hb3.size
  clear pB1 pX1 pB2 pX2 oX1 hww hb1 hb2 xx0 xx1 xx2 pp0 pp1 pp2
  have P_v12 : Hid (RowAt v12 w.heap.size 24 #[.int .i64 r, .int .i64 c, .slice a len cap]) := P_v10.out.below hb3 P_v10.out.lt
  have G0_v12 : Hid (RowAt v12 v4.heap.size 28 #[.int .i64 k, .int .i64 R, .int .i64 C, .slice a0 l0 c0]) := G0_v10.out.below hb3 G0_v10.out.lt
  have X0_v12 : Hid (RowAt v12 v6.heap.size 26 #[.int .i64 r, .int .i64 c, .slice (some ⟨b4, 0, none⟩) len len]) := X0_v10.out.below hb3 X0_v10.out.lt
  have G1_v12 : Hid (RowAt v12 v8.heap.size 28 #[.int .i64 k, .int .i64 R, .int .i64 C, .slice a1 l1 c1]) := G1_v10.out.below hb3 G1_v10.out.lt
  have O0_v12 : Hid (Own v12 v3.heap.size v4.heap.size a0 l0 c0 ys) := O0_v10.out.below hb3 (by omega)
  have OX_v12 : Hid (Own v12 v5.heap.size v6.heap.size (some ⟨b4, 0, none⟩) len len xs) := OX_v10.out.below hb3 (by omega)
  have O1_v12 : Hid (Own v12 v7.heap.size v8.heap.size a1 l1 c1 ys) := O1_v10.out.below hb3 (by omega)
  have L_v12 : Hid (Below w.heap.size w v12) := L_v10.out.trans (hb3.mono L_v10.out.size)
  clear hb3 P_v10 G0_v10 X0_v10 G1_v10 O0_v10 OX_v10 O1_v10 L_v10
  obtain ⟨Mx1, hMx1⟩ : ∃ M, M = 1 + len := ⟨_, rfl⟩
  obtain ⟨M, hM⟩ : ∃ M, M = 1 + l1 := ⟨_, rfl⟩
  have dX : decide ((Mx1 : Int) < 0) = false := by first | (simp; done) | (simp; omega)
  have dM : decide ((M : Int) < 0) = false := by first | (simp; done) | (simp; omega)
  have dE : ((M : Int) != (M : Int)) = false := by simp
  have ld0 := X0_v12.out
  go_wp2_with (refine wpList_load_row rfl 26 (.tmp 5) rfl v6.heap.size rfl _ _ _ _ ld0 Tryd.underlying26 rfl (by kernel_rfl) ?_)
  clear ld0
  refine (markMx1 r c v5.heap.size v6.heap.size (some ⟨b4, 0, none⟩) len len xs Mx1 hMx1 _ OX_v12.out hle).mono ?_
  rintro e v13 ⟨rfl, hoX, hb⟩
  have sz_v13 : v12.heap.size ≤ v13.heap.size := hb.size
  have P_v13 : Hid (RowAt v13 w.heap.size 24 #[.int .i64 r, .int .i64 c, .slice a len cap]) := P_v12.out.turned hb (by omega)
  have G0_v13 : Hid (RowAt v13 v4.heap.size 28 #[.int .i64 k, .int .i64 R, .int .i64 C, .slice a0 l0 c0]) := G0_v12.out.turned hb (by omega)
  have X0_v13 : Hid (RowAt v13 v6.heap.size 26 #[.int .i64 r, .int .i64 c, .slice (some ⟨b4, 0, none⟩) len len]) := X0_v12.out.turned hb (by omega)
  have G1_v13 : Hid (RowAt v13 v8.heap.size 28 #[.int .i64 k, .int .i64 R, .int .i64 C, .slice a1 l1 c1]) := G1_v12.out.turned hb (by omega)
  have O0_v13 : Hid (Own v13 v3.heap.size v4.heap.size a0 l0 c0 ys) := O0_v12.out.turned hb (by omega)
  have O1_v13 : Hid (Own v13 v7.heap.size v8.heap.size a1 l1 c1 ys) := O1_v12.out.turned hb (by omega)
  have L_v13 : Hid (Below w.heap.size w v13) := hb.below L_v12.out (by omega) (by omega)
  clear hb hoX OX_v12 P_v12 G0_v12 X0_v12 G1_v12 O0_v12 O1_v12 L_v12
  have gg0 := G1_v13.out.cell 0
  have gh0 := G0_v13.out.cell 0
  have gg1 := G1_v13.out.cell 1
  have gh1 := G0_v13.out.cell 1
  have gg2 := G1_v13.out.cell 2
  have gh2 := G0_v13.out.cell 2
  have gg3 := G1_v13.out.cell 3
  have gh3 := G0_v13.out.cell 3
  go_wp2_with (fail)
  clear gg0 gh0 gg1 gh1 gg2 gh2 gg3 gh3
  refine (eqMr k R C a1 l1 c1 a0 l0 c0 ys _ O1_v13.out.ints O0_v13.out.ints hyl).mono ?_
  rintro e v14 ⟨rfl, hb⟩
  have sz_v14 : v13.heap.size ≤ v14.heap.size := hb.size
  have P_v14 : Hid (RowAt v14 w.heap.size 24 #[.int .i64 r, .int .i64 c, .slice a len cap]) := P_v13.out.below hb P_v13.out.lt
  have G0_v14 : Hid (RowAt v14 v4.heap.size 28 #[.int .i64 k, .int .i64 R, .int .i64 C, .slice a0 l0 c0]) := G0_v13.out.below hb G0_v13.out.lt
  have X0_v14 : Hid (RowAt v14 v6.heap.size 26 #[.int .i64 r, .int .i64 c, .slice (some ⟨b4, 0, none⟩) len len]) := X0_v13.out.below hb X0_v13.out.lt
  have G1_v14 : Hid (RowAt v14 v8.heap.size 28 #[.int .i64 k, .int .i64 R, .int .i64 C, .slice a1 l1 c1]) := G1_v13.out.below hb G1_v13.out.lt
  have O0_v14 : Hid (Own v14 v3.heap.size v4.heap.size a0 l0 c0 ys) := O0_v13.out.below hb (by omega)
  have O1_v14 : Hid (Own v14 v7.heap.size v8.heap.size a1 l1 c1 ys) := O1_v13.out.below hb (by omega)
  have L_v14 : Hid (Below w.heap.size w v14) := L_v13.out.trans (hb.mono L_v13.out.size)
  clear hb P_v13 G0_v13 X0_v13 G1_v13 O0_v13 O1_v13 L_v13
  have ld0 := G1_v14.out
  go_wp2_with (refine wpList_load_row rfl 28 (.tmp 6) rfl v8.heap.size rfl _ _ _ _ ld0 Tryd.underlying28 rfl (by kernel_rfl) ?_)
  clear ld0
  refine (markMr1 k R C v7.heap.size v8.heap.size a1 l1 c1 ys M hM _ O1_v14.out (by omega)).mono ?_
  rintro e v15 ⟨rfl, ho9, hb⟩
  have sz_v15 : v14.heap.size ≤ v15.heap.size := hb.size
  have P_v15 : Hid (RowAt v15 w.heap.size 24 #[.int .i64 r, .int .i64 c, .slice a len cap]) := P_v14.out.turned hb (by omega)
  have G0_v15 : Hid (RowAt v15 v4.heap.size 28 #[.int .i64 k, .int .i64 R, .int .i64 C, .slice a0 l0 c0]) := G0_v14.out.turned hb (by omega)
  have X0_v15 : Hid (RowAt v15 v6.heap.size 26 #[.int .i64 r, .int .i64 c, .slice (some ⟨b4, 0, none⟩) len len]) := X0_v14.out.turned hb (by omega)
  have G1_v15 : Hid (RowAt v15 v8.heap.size 28 #[.int .i64 k, .int .i64 R, .int .i64 C, .slice a1 l1 c1]) := G1_v14.out.turned hb (by omega)
  have O0_v15 : Hid (Own v15 v3.heap.size v4.heap.size a0 l0 c0 ys) := O0_v14.out.turned hb (by omega)
  have L_v15 : Hid (Below w.heap.size w v15) := hb.below L_v14.out (by omega) (by omega)
  have O1_v15 := hid ho9
  clear hb ho9 O1_v14 P_v14 G0_v14 X0_v14 G1_v14 O0_v14 L_v14
  have ld0 := G1_v15.out
  go_wp2_with (refine wpList_load_row rfl 28 (.tmp 6) rfl v8.heap.size rfl _ _ _ _ ld0 Tryd.underlying28 rfl (by kernel_rfl) ?_)
  clear ld0
  refine (heldMr1 k R C v7.heap.size v8.heap.size a1 l1 c1 M hM _ O1_v15.out (by omega)).mono ?_
  rintro e v16 ⟨rfl, hb⟩
  have sz_v16 : v15.heap.size ≤ v16.heap.size := hb.size
  have P_v16 : Hid (RowAt v16 w.heap.size 24 #[.int .i64 r, .int .i64 c, .slice a len cap]) := P_v15.out.below hb P_v15.out.lt
  have G0_v16 : Hid (RowAt v16 v4.heap.size 28 #[.int .i64 k, .int .i64 R, .int .i64 C, .slice a0 l0 c0]) := G0_v15.out.below hb G0_v15.out.lt
  have X0_v16 : Hid (RowAt v16 v6.heap.size 26 #[.int .i64 r, .int .i64 c, .slice (some ⟨b4, 0, none⟩) len len]) := X0_v15.out.below hb X0_v15.out.lt
  have G1_v16 : Hid (RowAt v16 v8.heap.size 28 #[.int .i64 k, .int .i64 R, .int .i64 C, .slice a1 l1 c1]) := G1_v15.out.below hb G1_v15.out.lt
  have O0_v16 : Hid (Own v16 v3.heap.size v4.heap.size a0 l0 c0 ys) := O0_v15.out.below hb (by omega)
  have O1_v16 : Hid (Own v16 v7.heap.size v8.heap.size a1 l1 c1 (marks 1 l1)) := O1_v15.out.below hb (by omega)
  have L_v16 : Hid (Below w.heap.size w v16) := L_v15.out.trans (hb.mono L_v15.out.size)
  clear hb P_v15 G0_v15 X0_v15 G1_v15 O0_v15 O1_v15 L_v15
  have ld0 := P_v16.out
  go_wp2_with (refine wpList_load_row rfl 24 (.tmp 1) rfl w.heap.size rfl _ _ _ _ ld0 Tryd.underlying24 rfl (by kernel_rfl) ?_)
  clear ld0
  refine (toMx r c a len cap xs _ (HH_P.out.below L_v16.out) hle).mono ?_
  rintro e v17 ⟨b7, rfl, gb7, hw7, hb⟩
  have sz_v17 : v16.heap.size ≤ v17.heap.size := hb.size
  have P_v17 : Hid (RowAt v17 w.heap.size 24 #[.int .i64 r, .int .i64 c, .slice a len cap]) := P_v16.out.below hb P_v16.out.lt
  have G0_v17 : Hid (RowAt v17 v4.heap.size 28 #[.int .i64 k, .int .i64 R, .int .i64 C, .slice a0 l0 c0]) := G0_v16.out.below hb G0_v16.out.lt
  have X0_v17 : Hid (RowAt v17 v6.heap.size 26 #[.int .i64 r, .int .i64 c, .slice (some ⟨b4, 0, none⟩) len len]) := X0_v16.out.below hb X0_v16.out.lt
  have G1_v17 : Hid (RowAt v17 v8.heap.size 28 #[.int .i64 k, .int .i64 R, .int .i64 C, .slice a1 l1 c1]) := G1_v16.out.below hb G1_v16.out.lt
  have O0_v17 : Hid (Own v17 v3.heap.size v4.heap.size a0 l0 c0 ys) := O0_v16.out.below hb (by omega)
  have O1_v17 : Hid (Own v17 v7.heap.size v8.heap.size a1 l1 c1 (marks 1 l1)) := O1_v16.out.below hb (by omega)
  have L_v17 : Hid (Below w.heap.size w v17) := L_v16.out.trans (hb.mono L_v16.out.size)
  clear hb P_v16 G0_v16 X0_v16 G1_v16 O0_v16 O1_v16 L_v16
  go_wp2_with (fail)
  refine (HI'.out b7 _ (HT.out.belowS L_v17.out) hw7).mono ?_
  rintro e v18 ⟨a2, l2, c2, rfl, ho2, hb⟩
  have sz_v18 : v17.heap.size ≤ v18.heap.size := hb.size
  have P_v18 : Hid (RowAt v18 w.heap.size 24 #[.int .i64 r, .int .i64 c, .slice a len cap]) := P_v17.out.below hb P_v17.out.lt
  have G0_v18 : Hid (RowAt v18 v4.heap.size 28 #[.int .i64 k, .int .i64 R, .int .i64 C, .slice a0 l0 c0]) := G0_v17.out.below hb G0_v17.out.lt
  have X0_v18 : Hid (RowAt v18 v6.heap.size 26 #[.int .i64 r, .int .i64 c, .slice (some ⟨b4, 0, none⟩) len len]) := X0_v17.out.below hb X0_v17.out.lt
  have G1_v18 : Hid (RowAt v18 v8.heap.size 28 #[.int .i64 k, .int .i64 R, .int .i64 C, .slice a1 l1 c1]) := G1_v17.out.below hb G1_v17.out.lt
  have O0_v18 : Hid (Own v18 v3.heap.size v4.heap.size a0 l0 c0 ys) := O0_v17.out.below hb (by omega)
  have O1_v18 : Hid (Own v18 v7.heap.size v8.heap.size a1 l1 c1 (marks 1 l1)) := O1_v17.out.below hb (by omega)
  have L_v18 : Hid (Below w.heap.size w v18) := L_v17.out.trans (hb.mono L_v17.out.size)
  have hl2 := ho2.1
  have O2_v18 := hid (Own.of ho2)
  clear hb ho2 hw7 P_v17 G0_v17 X0_v17 G1_v17 O0_v17 O1_v17 L_v17
  obtain ⟨v19, hv19⟩ : ∃ v, v = v18.alloc (.cells #[.int .i64 k, .int .i64 R, .int .i64 C, .slice a2 l2 c2] 28) := ⟨_, rfl⟩
  have sz_v19 : v19.heap.size = v18.heap.size + 1 := by rw [hv19, size_al]
  have P_v19 : Hid (RowAt v19 w.heap.size 24 #[.int .i64 r, .int .i64 c, .slice a len cap]) := by rw [hv19]; exact P_v18.out.alloc _
  have G0_v19 : Hid (RowAt v19 v4.heap.size 28 #[.int .i64 k, .int .i64 R, .int .i64 C, .slice a0 l0 c0]) := by rw [hv19]; exact G0_v18.out.alloc _
  have X0_v19 : Hid (RowAt v19 v6.heap.size 26 #[.int .i64 r, .int .i64 c, .slice (some ⟨b4, 0, none⟩) len len]) := by rw [hv19]; exact X0_v18.out.alloc _
  have G1_v19 : Hid (RowAt v19 v8.heap.size 28 #[.int .i64 k, .int .i64 R, .int .i64 C, .slice a1 l1 c1]) := by rw [hv19]; exact G1_v18.out.alloc _
  have O0_v19 : Hid (Own v19 v3.heap.size v4.heap.size a0 l0 c0 ys) := by rw [hv19]; exact O0_v18.out.alloc _
  have O1_v19 : Hid (Own v19 v7.heap.size v8.heap.size a1 l1 c1 (marks 1 l1)) := by rw [hv19]; exact O1_v18.out.alloc _
  have O2_v19 : Hid (Own v19 v17.heap.size v18.heap.size a2 l2 c2 ys) := by rw [hv19]; exact O2_v18.out.alloc _
  have L_v19 : Hid (Below w.heap.size w v19) := by rw [hv19]; exact L_v18.out.alloc L_v18.out.size _
  have G2_v19 : Hid (RowAt v19 v18.heap.size 28 #[.int .i64 k, .int .i64 R, .int .i64 C, .slice a2 l2 c2]) := by rw [hv19]; exact RowAt.next v18 _ _ (by omega)
  have ld0 := G2_v19.out
  have ld1 := G0_v19.out
  go_wp2_with (first
    | (rw [← hv19])
    | refine wpList_load_row rfl 28 (.tmp 10) rfl v18.heap.size rfl _ _ _ _ ld0 Tryd.underlying28 rfl (by kernel_rfl) ?_
    | refine wpList_load_row rfl 28 (.tmp 4) rfl v4.heap.size rfl _ _ _ _ ld1 Tryd.underlying28 rfl (by kernel_rfl) ?_)
  try rw [← hv19]
  clear ld0 ld1
  clear hv19 P_v18 G0_v18 X0_v18 G1_v18 O0_v18 O1_v18 O2_v18 L_v18
  refine (eqMr k R C a2 l2 c2 a0 l0 c0 ys _ O2_v19.out.ints O0_v19.out.ints hyl).mono ?_
  rintro e v20 ⟨rfl, hb⟩
  have sz_v20 : v19.heap.size ≤ v20.heap.size := hb.size
  have P_v20 : Hid (RowAt v20 w.heap.size 24 #[.int .i64 r, .int .i64 c, .slice a len cap]) := P_v19.out.below hb P_v19.out.lt
  have G0_v20 : Hid (RowAt v20 v4.heap.size 28 #[.int .i64 k, .int .i64 R, .int .i64 C, .slice a0 l0 c0]) := G0_v19.out.below hb G0_v19.out.lt
  have X0_v20 : Hid (RowAt v20 v6.heap.size 26 #[.int .i64 r, .int .i64 c, .slice (some ⟨b4, 0, none⟩) len len]) := X0_v19.out.below hb X0_v19.out.lt
  have G1_v20 : Hid (RowAt v20 v8.heap.size 28 #[.int .i64 k, .int .i64 R, .int .i64 C, .slice a1 l1 c1]) := G1_v19.out.below hb G1_v19.out.lt
  have G2_v20 : Hid (RowAt v20 v18.heap.size 28 #[.int .i64 k, .int .i64 R, .int .i64 C, .slice a2 l2 c2]) := G2_v19.out.below hb G2_v19.out.lt
  have O0_v20 : Hid (Own v20 v3.heap.size v4.heap.size a0 l0 c0 ys) := O0_v19.out.below hb (by omega)
  have O1_v20 : Hid (Own v20 v7.heap.size v8.heap.size a1 l1 c1 (marks 1 l1)) := O1_v19.out.below hb (by omega)
  have O2_v20 : Hid (Own v20 v17.heap.size v18.heap.size a2 l2 c2 ys) := O2_v19.out.below hb (by omega)
  have L_v20 : Hid (Below w.heap.size w v20) := L_v19.out.trans (hb.mono L_v19.out.size)
  clear hb P_v19 G0_v19 X0_v19 G1_v19 G2_v19 O0_v19 O1_v19 O2_v19 L_v19
  have ld0 := G1_v20.out
  go_wp2_with (refine wpList_load_row rfl 28 (.tmp 6) rfl v8.heap.size rfl _ _ _ _ ld0 Tryd.underlying28 rfl (by kernel_rfl) ?_)
  clear ld0
  refine (heldMr1 k R C v7.heap.size v8.heap.size a1 l1 c1 M hM _ O1_v20.out (by omega)).mono ?_
  rintro e v21 ⟨rfl, hb⟩
  have sz_v21 : v20.heap.size ≤ v21.heap.size := hb.size
  have P_v21 : Hid (RowAt v21 w.heap.size 24 #[.int .i64 r, .int .i64 c, .slice a len cap]) := P_v20.out.below hb P_v20.out.lt
  have G0_v21 : Hid (RowAt v21 v4.heap.size 28 #[.int .i64 k, .int .i64 R, .int .i64 C, .slice a0 l0 c0]) := G0_v20.out.below hb G0_v20.out.lt
  have X0_v21 : Hid (RowAt v21 v6.heap.size 26 #[.int .i64 r, .int .i64 c, .slice (some ⟨b4, 0, none⟩) len len]) := X0_v20.out.below hb X0_v20.out.lt
  have G1_v21 : Hid (RowAt v21 v8.heap.size 28 #[.int .i64 k, .int .i64 R, .int .i64 C, .slice a1 l1 c1]) := G1_v20.out.below hb G1_v20.out.lt
  have G2_v21 : Hid (RowAt v21 v18.heap.size 28 #[.int .i64 k, .int .i64 R, .int .i64 C, .slice a2 l2 c2]) := G2_v20.out.below hb G2_v20.out.lt
  have O0_v21 : Hid (Own v21 v3.heap.size v4.heap.size a0 l0 c0 ys) := O0_v20.out.below hb (by omega)
  have O1_v21 : Hid (Own v21 v7.heap.size v8.heap.size a1 l1 c1 (marks 1 l1)) := O1_v20.out.below hb (by omega)
  have O2_v21 : Hid (Own v21 v17.heap.size v18.heap.size a2 l2 c2 ys) := O2_v20.out.below hb (by omega)
  have L_v21 : Hid (Below w.heap.size w v21) := L_v20.out.trans (hb.mono L_v20.out.size)
  clear hb P_v20 G0_v20 X0_v20 G1_v20 G2_v20 O0_v20 O1_v20 O2_v20 L_v20
  go_wp2
  go_ret
  exact ⟨rfl, L_v21.out⟩
end Go.Proofs.YtlobnmcjnaibaajDoor
