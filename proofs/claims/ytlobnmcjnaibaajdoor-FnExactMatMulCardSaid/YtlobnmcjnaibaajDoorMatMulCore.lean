import Derived.Test.YtlobnmcjnaibaajDoorAnsKit
import Derived.Test.YtlobnmcjnaibaajDoorIMult
import Derived.Test.YtlobnmcjnaibaajDoorIMat
import Derived.Deep.RegionHeld3
import Derived.Deep.CutRange
namespace Go.Proofs.YtlobnmcjnaibaajDoor
open Go.RowKit
theorem Wr.ints2 {k : IntKind} {w : World} {b off len : Nat} {xs : List Int} (h : Wr k w b off xs) (e : xs.length = len) : Ints k w (some ⟨b, off, none⟩) len len xs := by subst e; exact h.ints (Nat.le_refl _)
theorem Wr.own' {w : World} {b lo len : Nat} {xs : List Int} (h : Wr .i64 w b 0 xs) (e : xs.length = len) (hb : lo ≤ b) : Own w lo w.heap.size (some ⟨b, 0, none⟩) len len xs := by
  subst e; exact ⟨rfl, Nat.le_refl _, Or.inr ⟨b, 0, rfl, hb, h.lt, h⟩⟩
theorem belowAl {w w' : World} {o : Obj} (h : Below (w.alloc o).heap.size (w.alloc o) w') : Below w.heap.size w w' := ((Below.refl _ _).alloc (Nat.le_refl _) o).trans (h.mono (by rw [size_al]; omega))
theorem belowAlD {w w' : World} {o : Obj} (h : Below (w.alloc o).drew.heap.size (w.alloc o).drew w') : Below w.heap.size w w' := ((Below.refl _ _).alloc (Nat.le_refl _) o).drew.trans (h.mono (by show w.heap.size ≤ (w.alloc o).heap.size; rw [size_al]; omega))
theorem six {w : World} {b b' : Nat} {t t' : TypeId} {x0 x1 x2 y0 y1 y2 : Value} (h : RowAt w b t #[x0, x1, x2]) (h' : RowAt w b' t' #[y0, y1, y2]) :
    w.cell? ⟨b, 0, none⟩ = some x0 ∧ w.cell? ⟨b, 1, none⟩ = some x1 ∧ w.cell? ⟨b, 2, none⟩ = some x2 ∧ w.cell? ⟨b', 0, none⟩ = some y0 ∧ w.cell? ⟨b', 1, none⟩ = some y1 ∧ w.cell? ⟨b', 2, none⟩ = some y2 :=
  ⟨h.cell 0, h.cell 1, h.cell 2, h'.cell 0, h'.cell 1, h'.cell 2⟩
theorem size4 (w : World) {g : Nat} (v0 v1 v2 v3 : Value) : ((((w.setCell ⟨g, 0, none⟩ v0).setCell ⟨g, 1, none⟩ v1).setCell ⟨g, 2, none⟩ v2).setCell ⟨g, 3, none⟩ v3).heap.size = w.heap.size := by simp [World.setCell]
theorem own4 {w : World} {lo hi g : Nat} {a : Option Addr} {len cap : Nat} {xs : List Int} (h : Own w lo hi a len cap xs) (v0 v1 v2 v3 : Value) (hg : g < lo ∨ hi ≤ g) : Own ((((w.setCell ⟨g, 0, none⟩ v0).setCell ⟨g, 1, none⟩ v1).setCell ⟨g, 2, none⟩ v2).setCell ⟨g, 3, none⟩ v3) lo hi a len cap xs := by
  refine ⟨h.1, h.2.1, ?_⟩
  rcases h.2.2 with h0 | ⟨b, off, rfl, h1, h2, hw⟩
  · exact Or.inl h0
  · exact Or.inr ⟨b, off, rfl, h1, h2, (((hw.other _ _ (by dsimp only; omega)).other _ _ (by dsimp only; omega)).other _ _ (by dsimp only; omega)).other _ _ (by dsimp only; omega)⟩
theorem markMx1 (r c : Int) (lo hi : Nat) (a : Option Addr) (len cap : Nat) (xs : List Int) (M : Nat) (hM : M = 1 + len) (w : World) (h : Own w lo hi a len cap xs) (hl : len ≤ 1048576) :
    Calls Tryd.prog 12 #[mxv r c a len cap, .int .i64 1] w fun e w' => e = .returned (.int .i64 (M : Nat)) ∧ Own w' lo hi a len cap (marks 1 len) ∧ Turned lo hi w w' := by
  subst hM; exact markMxT r c lo hi a len cap xs 1 w h hl (by decide)
theorem markMxK (r c : Int) (lo hi : Nat) (a : Option Addr) (len cap : Nat) (xs : List Int) (K M : Nat) (hM : M = K + len) (w : World) (h : Own w lo hi a len cap xs) (hl : len ≤ 1048576) (hK : K ≤ 1073741824) :
    Calls Tryd.prog 12 #[mxv r c a len cap, .int .i64 K] w fun e w' => e = .returned (.int .i64 (M : Nat)) ∧ Own w' lo hi a len cap (marks K len) ∧ Turned lo hi w w' := by
  subst hM; exact markMxT r c lo hi a len cap xs K w h hl hK
set_option maxRecDepth 20000 in
set_option maxHeartbeats 8000000 in
theorem fnExactMatMul_core (k R C : Int) (us : List Int) (hyl : us.length ≤ 1048576) (r c : Int) (a : Option Addr) (len cap : Nat) (xs : List Int) (r' c' : Int) (a' : Option Addr) (len' cap' : Nat) (ys : List Int) (w : World) (hT : Tab w) (h : Ints .i64 w a len cap xs) (h' : Ints .i64 w a' len' cap' ys) (hsum : len + len' ≤ 1048576)
    (HS : ∀ b b' w, Wr .i64 w b 0 xs → Wr .i64 w b' 0 ys → Calls Tryd.prog 7 #[mxv r c (some ⟨b, 0, none⟩) len len, mxv r' c' (some ⟨b', 0, none⟩) len' len'] w fun e w' => Ans k R C us w e w')
    (HI : ∀ b b' w, Tab w → Wr .i64 w b 0 xs → Wr .i64 w b' 0 ys → Calls Tryd.prog 9 #[mxv r c (some ⟨b, 0, none⟩) len len, mxv r' c' (some ⟨b', 0, none⟩) len' len'] w fun e w' => Ans k R C us w e w') :
    Calls Tryd.prog 3 #[.agg #[.int .i64 r, .int .i64 c, .slice a len cap], .agg #[.int .i64 r', .int .i64 c', .slice a' len' cap']] w fun e w' => e = .returned (.bool true) ∧ Below w.heap.size w w' := by
  have HH_P : Hid (Ints .i64 w a len cap xs) := h
  have HH_Q : Hid (Ints .i64 w a' len' cap' ys) := h'
  have hxl : Hid (xs.length = len) := h.1
  have hyl2 : Hid (ys.length = len') := h'.1
  have HS' := hid HS
  have HI' := hid HI
  have HT := hid hT
  clear HS HI h h' hT
  have hle : len ≤ 1048576 := by omega
  have hle2 : len' ≤ 1048576 := by omega
  have hle' : (len : Int) ≤ 1048576 := by omega
  have hle2' : (len' : Int) ≤ 1048576 - (len : Int) := by omega
  have dL : decide ((1048576 : Int) - (len : Int) < 0) = false := by simp; omega
  have dL2 : decide ((1048576 : Int) - (len : Int) - (len' : Int) < 0) = false := by simp; omega
  go_enter Tryd.func3, Tryd.ntmps3
  have L_w : Hid (Below w.heap.size w w) := Below.refl _ _
  obtain ⟨v1, hv1⟩ : ∃ v, v = w.alloc (.cells #[.int .i64 r, .int .i64 c, .slice a len cap] 24) := ⟨_, rfl⟩
  have sz_v1 : v1.heap.size = w.heap.size + 1 := by rw [hv1, size_al]
  have L_v1 : Hid (Below w.heap.size w v1) := by rw [hv1]; exact L_w.out.alloc L_w.out.size _
  have P_v1 : Hid (RowAt v1 w.heap.size 24 #[.int .i64 r, .int .i64 c, .slice a len cap]) := by rw [hv1]; exact RowAt.next w _ _ (by omega)
  obtain ⟨v2, hv2⟩ : ∃ v, v = v1.alloc (.cells #[.int .i64 r', .int .i64 c', .slice a' len' cap'] 24) := ⟨_, rfl⟩
  have sz_v2 : v2.heap.size = v1.heap.size + 1 := by rw [hv2, size_al]
  have P_v2 : Hid (RowAt v2 w.heap.size 24 #[.int .i64 r, .int .i64 c, .slice a len cap]) := by rw [hv2]; exact P_v1.out.alloc _
  have L_v2 : Hid (Below w.heap.size w v2) := by rw [hv2]; exact L_v1.out.alloc L_v1.out.size _
  have Q_v2 : Hid (RowAt v2 (w.heap.size + 1) 24 #[.int .i64 r', .int .i64 c', .slice a' len' cap']) := by rw [hv2]; exact RowAt.next v1 _ _ (by omega)
  have ld0 := P_v2.out
  go_wp2_with (first
    | (rw [← hv1, ← hv2])
    | refine wpList_load_row rfl 24 (.tmp 2) rfl w.heap.size rfl _ _ _ _ ld0 Tryd.underlying24 rfl (by kernel_rfl) ?_)
  try rw [← hv1]
  try rw [← hv2]
  clear ld0
  clear hv1 hv2 L_w P_v1 L_v1
  refine (szMx r c a len cap 1048576 (by decide) (by decide) (by omega) _).mono ?_
  rintro e v3 ⟨rfl, hb⟩
  have sz_v3 : v2.heap.size ≤ v3.heap.size := hb.size
  have P_v3 : Hid (RowAt v3 w.heap.size 24 #[.int .i64 r, .int .i64 c, .slice a len cap]) := P_v2.out.below hb P_v2.out.lt
  have Q_v3 : Hid (RowAt v3 (w.heap.size + 1) 24 #[.int .i64 r', .int .i64 c', .slice a' len' cap']) := Q_v2.out.below hb Q_v2.out.lt
  have L_v3 : Hid (Below w.heap.size w v3) := L_v2.out.trans (hb.mono L_v2.out.size)
  rw [if_pos hle']
  clear hb P_v2 Q_v2 L_v2
  have ld0 := Q_v3.out
  go_wp2_with (refine wpList_load_row rfl 24 (.tmp 3) rfl (w.heap.size + 1) rfl _ _ _ _ ld0 Tryd.underlying24 rfl (by kernel_rfl) ?_)
  clear ld0
  refine (szMx r' c' a' len' cap' (1048576 - (len : Int)) (by omega) (by omega) (by omega) _).mono ?_
  rintro e v4 ⟨rfl, hb⟩
  have sz_v4 : v3.heap.size ≤ v4.heap.size := hb.size
  have P_v4 : Hid (RowAt v4 w.heap.size 24 #[.int .i64 r, .int .i64 c, .slice a len cap]) := P_v3.out.below hb P_v3.out.lt
  have Q_v4 : Hid (RowAt v4 (w.heap.size + 1) 24 #[.int .i64 r', .int .i64 c', .slice a' len' cap']) := Q_v3.out.below hb Q_v3.out.lt
  have L_v4 : Hid (Below w.heap.size w v4) := L_v3.out.trans (hb.mono L_v3.out.size)
  rw [if_pos hle2']
  clear hb P_v3 Q_v3 L_v3
  have xx0 := P_v4.out.cell 0
  have pp0 := Q_v4.out.cell 0
  have xx1 := P_v4.out.cell 1
  have pp1 := Q_v4.out.cell 1
  have xx2 := P_v4.out.cell 2
  have pp2 := Q_v4.out.cell 2
  go_upto_region 8 with fail
  go_cut [6] from 24 to 28 (fun p wx => ∃ m a0 l0 c0 lo hi, p = .pointer (some ⟨m, 0, none⟩) ∧ RowAt wx m 28 #[.int .i64 k, .int .i64 R, .int .i64 C, .slice a0 l0 c0] ∧ us.length = l0 ∧ Own wx lo hi a0 l0 c0 us ∧ v4.heap.size ≤ lo ∧ hi ≤ wx.heap.size ∧ v4.heap.size ≤ m ∧ (m < lo ∨ hi ≤ m) ∧ Below v4.heap.size v4 wx)
  case first =>
    go_region_held3 (fun wx => wx.cell? ⟨w.heap.size, 0, none⟩ = some (.int .i64 r) ∧ wx.cell? ⟨w.heap.size, 1, none⟩ = some (.int .i64 c) ∧ wx.cell? ⟨w.heap.size, 2, none⟩ = some (.slice a len cap) ∧ wx.cell? ⟨(w.heap.size + 1), 0, none⟩ = some (.int .i64 r') ∧ wx.cell? ⟨(w.heap.size + 1), 1, none⟩ = some (.int .i64 c') ∧ wx.cell? ⟨(w.heap.size + 1), 2, none⟩ = some (.slice a' len' cap'))
      ((first | (go_keep; done) | (with_reducible exact six (pA3.alloc _) (pB3.alloc _)) | (with_reducible exact six (other4 pA3 _ _ _ _ (by omega)) (other4 pB3 _ _ _ _ (by omega))) | (with_reducible exact six (pA2.alloc _) (pB2.alloc _)) | (with_reducible exact six (pA1.alloc _) (pB1.alloc _)) | exact six (P_v4.out.alloc _).drew (Q_v4.out.alloc _).drew))
      ((first
        | (go_at_call 8; (fail_if_success have hh := hb1); refine (toMx r c a len cap xs _ ?_ hle).mono ?_; (first | exact HH_P.out.below L_v4.out.drew | exact HH_P.out.below (L_v4.out.alloc L_v4.out.size _).drew); rintro e v5 ⟨b1, rfl, gb1, hw1, hb1⟩; (first | have hB1 : Below v4.heap.size v4 v5 := (Below.refl _ _).drew.trans hb1 | have hB1 : Below v4.heap.size v4 v5 := belowAlD hb1); (first | have pR1 : RowAt v5 v4.heap.size 28 #[.int .i64 0, .int .i64 0, .int .i64 0, .slice none 0 0] := (RowAt.new v4 _ _).drew.below hb1 (by show _ < (v4.alloc _).heap.size; rw [size_al]; omega) | skip); have pA1 := P_v4.out.below hB1 P_v4.out.lt; have pB1 := Q_v4.out.below hB1 Q_v4.out.lt; have LL1 := L_v4.out.trans (hB1.mono L_v4.out.size); have u10 := pA1.cell 0; have t10 := pB1.cell 0; have u11 := pA1.cell 1; have t11 := pB1.cell 1; have u12 := pA1.cell 2; have t12 := pB1.cell 2)
        | (go_at_call 8; refine (toMx r' c' a' len' cap' ys _ ?_ hle2).mono ?_; (first | exact HH_Q.out.below LL1 | exact HH_Q.out.below (LL1.alloc LL1.size _)); rintro e v6 ⟨b2, rfl, gb2, hw2, hb2⟩; (first | have hB2 : Below v5.heap.size v5 v6 := hb2 | have hB2 : Below v5.heap.size v5 v6 := belowAl hb2); (first | have pR2 : RowAt v6 v5.heap.size 28 #[.int .i64 0, .int .i64 0, .int .i64 0, .slice none 0 0] := (RowAt.new v5 _ _).below hb2 (by rw [size_al]; omega) | have pR2 := pR1.below hB2 pR1.lt | skip); have pA2 := pA1.below hB2 pA1.lt; have pB2 := pB1.below hB2 pB1.lt; have LL2 := LL1.trans (hB2.mono LL1.size); have hw12 := hw1.below hB2 hw1.lt; have u20 := pA2.cell 0; have t20 := pB2.cell 0; have u21 := pA2.cell 1; have t21 := pB2.cell 1; have u22 := pA2.cell 2; have t22 := pB2.cell 2)
        | (go_at_call 7; refine (HS'.out b1 b2 _ ?_ ?_).mono ?_; (first | exact hw12 | exact hw12.alloc _); (first | exact hw2 | exact hw2.alloc _); rintro e v7 ⟨a0, l0, c0, rfl, ho3, hb3⟩; (first | have hB3 : Below v6.heap.size v6 v7 := hb3 | have hB3 : Below v6.heap.size v6 v7 := belowAl hb3); (first | have pR3 : RowAt v7 v6.heap.size 28 #[.int .i64 0, .int .i64 0, .int .i64 0, .slice none 0 0] := (RowAt.new v6 _ _).below hb3 (by rw [size_al]; omega) | have pR3 := pR2.below hB3 pR2.lt | skip); have pA3 := pA2.below hB3 pA2.lt; have pB3 := pB2.below hB3 pB2.lt; have LW := (hB1.trans (hB2.mono hB1.size)).trans (hB3.mono (Nat.le_trans hB1.size hB2.size)); have zz1 := hB1.size; have zz2 := hB2.size; have zz3 := hB3.size; have qA := pA3.lt; have qB := pB3.lt; (try have mR := pR2.lt); (try have k0 := pR3.cell 0); (try have k1 := pR3.cell 1); (try have k2 := pR3.cell 2); (try have k3 := pR3.cell 3); (try have f0 := pR3.free 0); (try have f1 := pR3.free 1); (try have f2 := pR3.free 2); (try have f3 := pR3.free 3); have u30 := pA3.cell 0; have t30 := pB3.cell 0; have u31 := pA3.cell 1; have t31 := pB3.cell 1; have u32 := pA3.cell 2; have t32 := pB3.cell 2)))
    all_goals (try clear k0 k1 k2 k3 f0 f1 f2 f3)
    all_goals clear u10 t10 u11 t11 u12 t12 u20 t20 u21 t21 u22 t22 u30 t30 u31 t31 u32 t32 xx0 xx1 xx2 pp0 pp1 pp2
    all_goals go_wp2_with fail
    all_goals go_meet
    all_goals first
      | (have hR := pR3; exact ⟨_, a0, l0, c0, _, v7.heap.size, rfl, set4 hR _ _ _ _, ho3.1, own4 (Own.of ho3) _ _ _ _ (Or.inl (by first | omega | (simp only [size_al]; omega))), (by first | omega | (simp only [size_al]; omega)), (Nat.le_of_eq (size4 _ _ _ _ _).symm), (by first | omega | (simp only [size_al]; omega)), Or.inl (by first | omega | (simp only [size_al]; omega)), below4 LW _ _ _ _ (by first | omega | (simp only [size_al]; omega))⟩)
      | exact ⟨v7.heap.size, a0, l0, c0, v6.heap.size, v7.heap.size, rfl, RowAt.new v7 _ _, ho3.1, (Own.of ho3).alloc _, (by first | omega | (simp only [size_al]; omega)), (by rw [size_al]; omega), (by first | omega | (simp only [size_al]; omega)), Or.inr (Nat.le_refl _), LW.alloc LW.size _⟩
  case rest =>
    obtain ⟨m0, a0, l0, c0, lo0, hi0, rfl, rG, hl0, oO, i10, i20, i30, i40, hbc⟩ := hcut
    obtain ⟨v8, rfl⟩ : ∃ v, v = wc := ⟨_, rfl⟩
    clear xx0 pp0 xx1 pp1 xx2 pp2
    have sz_v8 : v4.heap.size ≤ v8.heap.size := hbc.size
    have G0_v8 : Hid (RowAt v8 m0 28 #[.int .i64 k, .int .i64 R, .int .i64 C, .slice a0 l0 c0]) := rG
    have O0_v8 := hid oO
    have bm0 := rG.lt
    clear rG oO
    have P_v8 : Hid (RowAt v8 w.heap.size 24 #[.int .i64 r, .int .i64 c, .slice a len cap]) := P_v4.out.below hbc P_v4.out.lt
    have Q_v8 : Hid (RowAt v8 (w.heap.size + 1) 24 #[.int .i64 r', .int .i64 c', .slice a' len' cap']) := Q_v4.out.below hbc Q_v4.out.lt
    have L_v8 : Hid (Below w.heap.size w v8) := L_v4.out.trans (hbc.mono L_v4.out.size)
    clear hbc P_v4 Q_v4 L_v4
    have ld0 := P_v8.out
    go_wp2_with (refine wpList_load_row rfl 24 (.tmp 2) rfl w.heap.size rfl _ _ _ _ ld0 Tryd.underlying24 rfl (by kernel_rfl) ?_)
    clear ld0
    refine (toMx r c a len cap xs _ (HH_P.out.below L_v8.out) hle).mono ?_
    rintro e v9 ⟨b4, rfl, gb4, hw4, hb⟩
    have sz_v9 : v8.heap.size ≤ v9.heap.size := hb.size
    have P_v9 : Hid (RowAt v9 w.heap.size 24 #[.int .i64 r, .int .i64 c, .slice a len cap]) := P_v8.out.below hb P_v8.out.lt
    have Q_v9 : Hid (RowAt v9 (w.heap.size + 1) 24 #[.int .i64 r', .int .i64 c', .slice a' len' cap']) := Q_v8.out.below hb Q_v8.out.lt
    have G0_v9 : Hid (RowAt v9 m0 28 #[.int .i64 k, .int .i64 R, .int .i64 C, .slice a0 l0 c0]) := G0_v8.out.below hb G0_v8.out.lt
    have O0_v9 : Hid (Own v9 lo0 hi0 a0 l0 c0 us) := O0_v8.out.below hb (by omega)
    have L_v9 : Hid (Below w.heap.size w v9) := L_v8.out.trans (hb.mono L_v8.out.size)
    have OX_v9 := hid (hw4.own' hxl.out gb4)
    have W4_v9 := hid hw4
    clear hb hw4 P_v8 Q_v8 G0_v8 O0_v8 L_v8
    obtain ⟨v10, hv10⟩ : ∃ v, v = v9.alloc (.cells #[.int .i64 r, .int .i64 c, .slice (some ⟨b4, 0, none⟩) len len] 26) := ⟨_, rfl⟩
    have sz_v10 : v10.heap.size = v9.heap.size + 1 := by rw [hv10, size_al]
    have P_v10 : Hid (RowAt v10 w.heap.size 24 #[.int .i64 r, .int .i64 c, .slice a len cap]) := by rw [hv10]; exact P_v9.out.alloc _
    have Q_v10 : Hid (RowAt v10 (w.heap.size + 1) 24 #[.int .i64 r', .int .i64 c', .slice a' len' cap']) := by rw [hv10]; exact Q_v9.out.alloc _
    have G0_v10 : Hid (RowAt v10 m0 28 #[.int .i64 k, .int .i64 R, .int .i64 C, .slice a0 l0 c0]) := by rw [hv10]; exact G0_v9.out.alloc _
    have W4_v10 : Hid (Wr .i64 v10 b4 0 xs) := by rw [hv10]; exact W4_v9.out.alloc _
    have O0_v10 : Hid (Own v10 lo0 hi0 a0 l0 c0 us) := by rw [hv10]; exact O0_v9.out.alloc _
    have OX_v10 : Hid (Own v10 v8.heap.size v9.heap.size (some ⟨b4, 0, none⟩) len len xs) := by rw [hv10]; exact OX_v9.out.alloc _
    have L_v10 : Hid (Below w.heap.size w v10) := by rw [hv10]; exact L_v9.out.alloc L_v9.out.size _
    have X0_v10 : Hid (RowAt v10 v9.heap.size 26 #[.int .i64 r, .int .i64 c, .slice (some ⟨b4, 0, none⟩) len len]) := by rw [hv10]; exact RowAt.next v9 _ _ (by omega)
    have ld0 := Q_v10.out
    go_wp2_with (first
      | (rw [← hv10])
      | refine wpList_load_row rfl 24 (.tmp 3) rfl (w.heap.size + 1) rfl _ _ _ _ ld0 Tryd.underlying24 rfl (by kernel_rfl) ?_)
    try rw [← hv10]
    clear ld0
    clear hv10 P_v9 Q_v9 G0_v9 W4_v9 O0_v9 OX_v9 L_v9
    refine (toMx r' c' a' len' cap' ys _ (HH_Q.out.below L_v10.out) hle2).mono ?_
    rintro e v11 ⟨b5, rfl, gb5, hw5, hb⟩
    have sz_v11 : v10.heap.size ≤ v11.heap.size := hb.size
    have P_v11 : Hid (RowAt v11 w.heap.size 24 #[.int .i64 r, .int .i64 c, .slice a len cap]) := P_v10.out.below hb P_v10.out.lt
    have Q_v11 : Hid (RowAt v11 (w.heap.size + 1) 24 #[.int .i64 r', .int .i64 c', .slice a' len' cap']) := Q_v10.out.below hb Q_v10.out.lt
    have G0_v11 : Hid (RowAt v11 m0 28 #[.int .i64 k, .int .i64 R, .int .i64 C, .slice a0 l0 c0]) := G0_v10.out.below hb G0_v10.out.lt
    have W4_v11 : Hid (Wr .i64 v11 b4 0 xs) := W4_v10.out.below hb W4_v10.out.lt
    have X0_v11 : Hid (RowAt v11 v9.heap.size 26 #[.int .i64 r, .int .i64 c, .slice (some ⟨b4, 0, none⟩) len len]) := X0_v10.out.below hb X0_v10.out.lt
    have O0_v11 : Hid (Own v11 lo0 hi0 a0 l0 c0 us) := O0_v10.out.below hb (by omega)
    have OX_v11 : Hid (Own v11 v8.heap.size v9.heap.size (some ⟨b4, 0, none⟩) len len xs) := OX_v10.out.below hb (by omega)
    have L_v11 : Hid (Below w.heap.size w v11) := L_v10.out.trans (hb.mono L_v10.out.size)
    have OY_v11 := hid (hw5.own' hyl2.out gb5)
    have W5_v11 := hid hw5
    clear hb hw5 P_v10 Q_v10 G0_v10 W4_v10 X0_v10 O0_v10 OX_v10 L_v10
    obtain ⟨v12, hv12⟩ : ∃ v, v = v11.alloc (.cells #[.int .i64 r', .int .i64 c', .slice (some ⟨b5, 0, none⟩) len' len'] 26) := ⟨_, rfl⟩
    have sz_v12 : v12.heap.size = v11.heap.size + 1 := by rw [hv12, size_al]
    have P_v12 : Hid (RowAt v12 w.heap.size 24 #[.int .i64 r, .int .i64 c, .slice a len cap]) := by rw [hv12]; exact P_v11.out.alloc _
    have Q_v12 : Hid (RowAt v12 (w.heap.size + 1) 24 #[.int .i64 r', .int .i64 c', .slice a' len' cap']) := by rw [hv12]; exact Q_v11.out.alloc _
    have G0_v12 : Hid (RowAt v12 m0 28 #[.int .i64 k, .int .i64 R, .int .i64 C, .slice a0 l0 c0]) := by rw [hv12]; exact G0_v11.out.alloc _
    have W4_v12 : Hid (Wr .i64 v12 b4 0 xs) := by rw [hv12]; exact W4_v11.out.alloc _
    have X0_v12 : Hid (RowAt v12 v9.heap.size 26 #[.int .i64 r, .int .i64 c, .slice (some ⟨b4, 0, none⟩) len len]) := by rw [hv12]; exact X0_v11.out.alloc _
    have W5_v12 : Hid (Wr .i64 v12 b5 0 ys) := by rw [hv12]; exact W5_v11.out.alloc _
    have O0_v12 : Hid (Own v12 lo0 hi0 a0 l0 c0 us) := by rw [hv12]; exact O0_v11.out.alloc _
    have OX_v12 : Hid (Own v12 v8.heap.size v9.heap.size (some ⟨b4, 0, none⟩) len len xs) := by rw [hv12]; exact OX_v11.out.alloc _
    have OY_v12 : Hid (Own v12 v10.heap.size v11.heap.size (some ⟨b5, 0, none⟩) len' len' ys) := by rw [hv12]; exact OY_v11.out.alloc _
    have L_v12 : Hid (Below w.heap.size w v12) := by rw [hv12]; exact L_v11.out.alloc L_v11.out.size _
    have Y0_v12 : Hid (RowAt v12 v11.heap.size 26 #[.int .i64 r', .int .i64 c', .slice (some ⟨b5, 0, none⟩) len' len']) := by rw [hv12]; exact RowAt.next v11 _ _ (by omega)
    have ld0 := X0_v12.out
    have ld1 := Y0_v12.out
    go_wp2_with (first
      | (rw [← hv12])
      | refine wpList_load_row rfl 26 (.tmp 7) rfl v9.heap.size rfl _ _ _ _ ld0 Tryd.underlying26 rfl (by kernel_rfl) ?_
      | refine wpList_load_row rfl 26 (.tmp 8) rfl v11.heap.size rfl _ _ _ _ ld1 Tryd.underlying26 rfl (by kernel_rfl) ?_)
    try rw [← hv12]
    clear ld0 ld1
    clear hv12 P_v11 Q_v11 G0_v11 W4_v11 X0_v11 W5_v11 O0_v11 OX_v11 OY_v11 L_v11
    refine (HI'.out b4 b5 _ (HT.out.belowS L_v12.out) W4_v12.out W5_v12.out).mono ?_
    rintro e v13 ⟨a1, l1, c1, rfl, ho1, hb⟩
    have sz_v13 : v12.heap.size ≤ v13.heap.size := hb.size
    have P_v13 : Hid (RowAt v13 w.heap.size 24 #[.int .i64 r, .int .i64 c, .slice a len cap]) := P_v12.out.below hb P_v12.out.lt
    have Q_v13 : Hid (RowAt v13 (w.heap.size + 1) 24 #[.int .i64 r', .int .i64 c', .slice a' len' cap']) := Q_v12.out.below hb Q_v12.out.lt
    have G0_v13 : Hid (RowAt v13 m0 28 #[.int .i64 k, .int .i64 R, .int .i64 C, .slice a0 l0 c0]) := G0_v12.out.below hb G0_v12.out.lt
    have X0_v13 : Hid (RowAt v13 v9.heap.size 26 #[.int .i64 r, .int .i64 c, .slice (some ⟨b4, 0, none⟩) len len]) := X0_v12.out.below hb X0_v12.out.lt
    have Y0_v13 : Hid (RowAt v13 v11.heap.size 26 #[.int .i64 r', .int .i64 c', .slice (some ⟨b5, 0, none⟩) len' len']) := Y0_v12.out.below hb Y0_v12.out.lt
    have O0_v13 : Hid (Own v13 lo0 hi0 a0 l0 c0 us) := O0_v12.out.below hb (by omega)
    have OX_v13 : Hid (Own v13 v8.heap.size v9.heap.size (some ⟨b4, 0, none⟩) len len xs) := OX_v12.out.below hb (by omega)
    have OY_v13 : Hid (Own v13 v10.heap.size v11.heap.size (some ⟨b5, 0, none⟩) len' len' ys) := OY_v12.out.below hb (by omega)
    have L_v13 : Hid (Below w.heap.size w v13) := L_v12.out.trans (hb.mono L_v12.out.size)
    have hl1 := ho1.1
    have O1_v13 := hid (Own.of ho1)
    clear hb ho1 W4_v12 W5_v12 P_v12 Q_v12 G0_v12 X0_v12 Y0_v12 O0_v12 OX_v12 OY_v12 L_v12
    obtain ⟨v14, hv14⟩ : ∃ v, v = v13.alloc (.cells #[.int .i64 k, .int .i64 R, .int .i64 C, .slice a1 l1 c1] 28) := ⟨_, rfl⟩
    have sz_v14 : v14.heap.size = v13.heap.size + 1 := by rw [hv14, size_al]
    have P_v14 : Hid (RowAt v14 w.heap.size 24 #[.int .i64 r, .int .i64 c, .slice a len cap]) := by rw [hv14]; exact P_v13.out.alloc _
    have Q_v14 : Hid (RowAt v14 (w.heap.size + 1) 24 #[.int .i64 r', .int .i64 c', .slice a' len' cap']) := by rw [hv14]; exact Q_v13.out.alloc _
    have G0_v14 : Hid (RowAt v14 m0 28 #[.int .i64 k, .int .i64 R, .int .i64 C, .slice a0 l0 c0]) := by rw [hv14]; exact G0_v13.out.alloc _
    have X0_v14 : Hid (RowAt v14 v9.heap.size 26 #[.int .i64 r, .int .i64 c, .slice (some ⟨b4, 0, none⟩) len len]) := by rw [hv14]; exact X0_v13.out.alloc _
    have Y0_v14 : Hid (RowAt v14 v11.heap.size 26 #[.int .i64 r', .int .i64 c', .slice (some ⟨b5, 0, none⟩) len' len']) := by rw [hv14]; exact Y0_v13.out.alloc _
    have O0_v14 : Hid (Own v14 lo0 hi0 a0 l0 c0 us) := by rw [hv14]; exact O0_v13.out.alloc _
    have OX_v14 : Hid (Own v14 v8.heap.size v9.heap.size (some ⟨b4, 0, none⟩) len len xs) := by rw [hv14]; exact OX_v13.out.alloc _
    have OY_v14 : Hid (Own v14 v10.heap.size v11.heap.size (some ⟨b5, 0, none⟩) len' len' ys) := by rw [hv14]; exact OY_v13.out.alloc _
    have O1_v14 : Hid (Own v14 v12.heap.size v13.heap.size a1 l1 c1 us) := by rw [hv14]; exact O1_v13.out.alloc _
    have L_v14 : Hid (Below w.heap.size w v14) := by rw [hv14]; exact L_v13.out.alloc L_v13.out.size _
    have G1_v14 : Hid (RowAt v14 v13.heap.size 28 #[.int .i64 k, .int .i64 R, .int .i64 C, .slice a1 l1 c1]) := by rw [hv14]; exact RowAt.next v13 _ _ (by omega)
    have ld0 := G1_v14.out
    have ld1 := G0_v14.out
    go_wp2_with (first
      | (rw [← hv14])
      | refine wpList_load_row rfl 28 (.tmp 9) rfl v13.heap.size rfl _ _ _ _ ld0 Tryd.underlying28 rfl (by kernel_rfl) ?_
      | refine wpList_load_row rfl 28 (.tmp 6) rfl m0 rfl _ _ _ _ ld1 Tryd.underlying28 rfl (by kernel_rfl) ?_)
    try rw [← hv14]
    clear ld0 ld1
    clear hv14 P_v13 Q_v13 G0_v13 X0_v13 Y0_v13 O0_v13 OX_v13 OY_v13 O1_v13 L_v13
    refine (eqMr k R C a1 l1 c1 a0 l0 c0 us _ O1_v14.out.ints O0_v14.out.ints hyl).mono ?_
    rintro e v15 ⟨rfl, hb⟩
    have sz_v15 : v14.heap.size ≤ v15.heap.size := hb.size
    have P_v15 : Hid (RowAt v15 w.heap.size 24 #[.int .i64 r, .int .i64 c, .slice a len cap]) := P_v14.out.below hb P_v14.out.lt
    have Q_v15 : Hid (RowAt v15 (w.heap.size + 1) 24 #[.int .i64 r', .int .i64 c', .slice a' len' cap']) := Q_v14.out.below hb Q_v14.out.lt
    have G0_v15 : Hid (RowAt v15 m0 28 #[.int .i64 k, .int .i64 R, .int .i64 C, .slice a0 l0 c0]) := G0_v14.out.below hb G0_v14.out.lt
    have X0_v15 : Hid (RowAt v15 v9.heap.size 26 #[.int .i64 r, .int .i64 c, .slice (some ⟨b4, 0, none⟩) len len]) := X0_v14.out.below hb X0_v14.out.lt
    have Y0_v15 : Hid (RowAt v15 v11.heap.size 26 #[.int .i64 r', .int .i64 c', .slice (some ⟨b5, 0, none⟩) len' len']) := Y0_v14.out.below hb Y0_v14.out.lt
    have G1_v15 : Hid (RowAt v15 v13.heap.size 28 #[.int .i64 k, .int .i64 R, .int .i64 C, .slice a1 l1 c1]) := G1_v14.out.below hb G1_v14.out.lt
    have O0_v15 : Hid (Own v15 lo0 hi0 a0 l0 c0 us) := O0_v14.out.below hb (by omega)
    have OX_v15 : Hid (Own v15 v8.heap.size v9.heap.size (some ⟨b4, 0, none⟩) len len xs) := OX_v14.out.below hb (by omega)
    have OY_v15 : Hid (Own v15 v10.heap.size v11.heap.size (some ⟨b5, 0, none⟩) len' len' ys) := OY_v14.out.below hb (by omega)
    have O1_v15 : Hid (Own v15 v12.heap.size v13.heap.size a1 l1 c1 us) := O1_v14.out.below hb (by omega)
    have L_v15 : Hid (Below w.heap.size w v15) := L_v14.out.trans (hb.mono L_v14.out.size)
    clear hb P_v14 Q_v14 G0_v14 X0_v14 Y0_v14 G1_v14 O0_v14 OX_v14 OY_v14 O1_v14 L_v14
    have xx0 := X0_v15.out.cell 0
    have pp0 := P_v15.out.cell 0
    have xx1 := X0_v15.out.cell 1
    have pp1 := P_v15.out.cell 1
    have xx2 := X0_v15.out.cell 2
    have pp2 := P_v15.out.cell 2
    go_wp2_with fail
    go_region_held3 (fun wx => wx.cell? ⟨w.heap.size, 0, none⟩ = some (.int .i64 r) ∧ wx.cell? ⟨w.heap.size, 1, none⟩ = some (.int .i64 c) ∧ wx.cell? ⟨w.heap.size, 2, none⟩ = some (.slice a len cap) ∧ wx.cell? ⟨v9.heap.size, 0, none⟩ = some (.int .i64 r) ∧ wx.cell? ⟨v9.heap.size, 1, none⟩ = some (.int .i64 c) ∧ wx.cell? ⟨v9.heap.size, 2, none⟩ = some (.slice (some ⟨b4, 0, none⟩) len len))
      ((first | (go_keep; done) | exact ⟨pB2.cell 0, pB2.cell 1, pB2.cell 2, pX2.cell 0, pX2.cell 1, pX2.cell 2⟩ | exact ⟨pB1.cell 0, pB1.cell 1, pB1.cell 2, pX1.cell 0, pX1.cell 1, pX1.cell 2⟩))
      ((first
        | (go_at_call 8; refine (toMx r c a len cap xs _ (HH_P.out.below L_v15.out.drew) hle).mono ?_; rintro e v16 ⟨bb, rfl, gg, hww, hb1⟩; have pB1 := P_v15.out.drew.below hb1 P_v15.out.lt; have pX1 := X0_v15.out.drew.below hb1 X0_v15.out.lt; have oX1 := OX_v15.out.drew.below hb1 (by show _ ≤ v15.heap.size; omega))
        | (go_at_call 11; refine (eqMx r c (some ⟨b4, 0, none⟩) len len (some ⟨bb, 0, none⟩) len len xs _ oX1.ints (hww.ints2 hxl.out) (by rw [hxl.out]; exact hle)).mono ?_; rintro e v17 ⟨rfl, hb2⟩; have pB2 := pB1.below hb2 pB1.lt; have pX2 := pX1.below hb2 pX1.lt; have hb3 := ((Below.refl v15.heap.size v15).drew.trans hb1).trans (hb2.mono hb1.size))))
    have sz_v17 : v15.heap.size ≤ v17.heap.size := hb3.size
    clear pB1 pX1 pB2 pX2 oX1 hww hb1 hb2 xx0 xx1 xx2 pp0 pp1 pp2
    have P_v17 : Hid (RowAt v17 w.heap.size 24 #[.int .i64 r, .int .i64 c, .slice a len cap]) := P_v15.out.below hb3 P_v15.out.lt
    have Q_v17 : Hid (RowAt v17 (w.heap.size + 1) 24 #[.int .i64 r', .int .i64 c', .slice a' len' cap']) := Q_v15.out.below hb3 Q_v15.out.lt
    have G0_v17 : Hid (RowAt v17 m0 28 #[.int .i64 k, .int .i64 R, .int .i64 C, .slice a0 l0 c0]) := G0_v15.out.below hb3 G0_v15.out.lt
    have X0_v17 : Hid (RowAt v17 v9.heap.size 26 #[.int .i64 r, .int .i64 c, .slice (some ⟨b4, 0, none⟩) len len]) := X0_v15.out.below hb3 X0_v15.out.lt
    have Y0_v17 : Hid (RowAt v17 v11.heap.size 26 #[.int .i64 r', .int .i64 c', .slice (some ⟨b5, 0, none⟩) len' len']) := Y0_v15.out.below hb3 Y0_v15.out.lt
    have G1_v17 : Hid (RowAt v17 v13.heap.size 28 #[.int .i64 k, .int .i64 R, .int .i64 C, .slice a1 l1 c1]) := G1_v15.out.below hb3 G1_v15.out.lt
    have O0_v17 : Hid (Own v17 lo0 hi0 a0 l0 c0 us) := O0_v15.out.below hb3 (by omega)
    have OX_v17 : Hid (Own v17 v8.heap.size v9.heap.size (some ⟨b4, 0, none⟩) len len xs) := OX_v15.out.below hb3 (by omega)
    have OY_v17 : Hid (Own v17 v10.heap.size v11.heap.size (some ⟨b5, 0, none⟩) len' len' ys) := OY_v15.out.below hb3 (by omega)
    have O1_v17 : Hid (Own v17 v12.heap.size v13.heap.size a1 l1 c1 us) := O1_v15.out.below hb3 (by omega)
    have L_v17 : Hid (Below w.heap.size w v17) := L_v15.out.trans (hb3.mono L_v15.out.size)
    clear hb3 P_v15 Q_v15 G0_v15 X0_v15 Y0_v15 G1_v15 O0_v15 OX_v15 OY_v15 O1_v15 L_v15
    have xx0 := Y0_v17.out.cell 0
    have pp0 := Q_v17.out.cell 0
    have xx1 := Y0_v17.out.cell 1
    have pp1 := Q_v17.out.cell 1
    have xx2 := Y0_v17.out.cell 2
    have pp2 := Q_v17.out.cell 2
    go_wp2_with fail
    go_region_held3 (fun wx => wx.cell? ⟨(w.heap.size + 1), 0, none⟩ = some (.int .i64 r') ∧ wx.cell? ⟨(w.heap.size + 1), 1, none⟩ = some (.int .i64 c') ∧ wx.cell? ⟨(w.heap.size + 1), 2, none⟩ = some (.slice a' len' cap') ∧ wx.cell? ⟨v11.heap.size, 0, none⟩ = some (.int .i64 r') ∧ wx.cell? ⟨v11.heap.size, 1, none⟩ = some (.int .i64 c') ∧ wx.cell? ⟨v11.heap.size, 2, none⟩ = some (.slice (some ⟨b5, 0, none⟩) len' len'))
      ((first | (go_keep; done) | exact ⟨pB2.cell 0, pB2.cell 1, pB2.cell 2, pX2.cell 0, pX2.cell 1, pX2.cell 2⟩ | exact ⟨pB1.cell 0, pB1.cell 1, pB1.cell 2, pX1.cell 0, pX1.cell 1, pX1.cell 2⟩))
      ((first
        | (go_at_call 8; refine (toMx r' c' a' len' cap' ys _ (HH_Q.out.below L_v17.out.drew) hle2).mono ?_; rintro e v18 ⟨bb, rfl, gg, hww, hb1⟩; have pB1 := Q_v17.out.drew.below hb1 Q_v17.out.lt; have pX1 := Y0_v17.out.drew.below hb1 Y0_v17.out.lt; have oX1 := OY_v17.out.drew.below hb1 (by show _ ≤ v17.heap.size; omega))
        | (go_at_call 11; refine (eqMx r' c' (some ⟨b5, 0, none⟩) len' len' (some ⟨bb, 0, none⟩) len' len' ys _ oX1.ints (hww.ints2 hyl2.out) (by rw [hyl2.out]; exact hle2)).mono ?_; rintro e v19 ⟨rfl, hb2⟩; have pB2 := pB1.below hb2 pB1.lt; have pX2 := pX1.below hb2 pX1.lt; have hb3 := ((Below.refl v17.heap.size v17).drew.trans hb1).trans (hb2.mono hb1.size))))
    have sz_v19 : v17.heap.size ≤ v19.heap.size := hb3.size
    clear pB1 pX1 pB2 pX2 oX1 hww hb1 hb2 xx0 xx1 xx2 pp0 pp1 pp2
    have P_v19 : Hid (RowAt v19 w.heap.size 24 #[.int .i64 r, .int .i64 c, .slice a len cap]) := P_v17.out.below hb3 P_v17.out.lt
    have Q_v19 : Hid (RowAt v19 (w.heap.size + 1) 24 #[.int .i64 r', .int .i64 c', .slice a' len' cap']) := Q_v17.out.below hb3 Q_v17.out.lt
    have G0_v19 : Hid (RowAt v19 m0 28 #[.int .i64 k, .int .i64 R, .int .i64 C, .slice a0 l0 c0]) := G0_v17.out.below hb3 G0_v17.out.lt
    have X0_v19 : Hid (RowAt v19 v9.heap.size 26 #[.int .i64 r, .int .i64 c, .slice (some ⟨b4, 0, none⟩) len len]) := X0_v17.out.below hb3 X0_v17.out.lt
    have Y0_v19 : Hid (RowAt v19 v11.heap.size 26 #[.int .i64 r', .int .i64 c', .slice (some ⟨b5, 0, none⟩) len' len']) := Y0_v17.out.below hb3 Y0_v17.out.lt
    have G1_v19 : Hid (RowAt v19 v13.heap.size 28 #[.int .i64 k, .int .i64 R, .int .i64 C, .slice a1 l1 c1]) := G1_v17.out.below hb3 G1_v17.out.lt
    have O0_v19 : Hid (Own v19 lo0 hi0 a0 l0 c0 us) := O0_v17.out.below hb3 (by omega)
    have OX_v19 : Hid (Own v19 v8.heap.size v9.heap.size (some ⟨b4, 0, none⟩) len len xs) := OX_v17.out.below hb3 (by omega)
    have OY_v19 : Hid (Own v19 v10.heap.size v11.heap.size (some ⟨b5, 0, none⟩) len' len' ys) := OY_v17.out.below hb3 (by omega)
    have O1_v19 : Hid (Own v19 v12.heap.size v13.heap.size a1 l1 c1 us) := O1_v17.out.below hb3 (by omega)
    have L_v19 : Hid (Below w.heap.size w v19) := L_v17.out.trans (hb3.mono L_v17.out.size)
    clear hb3 P_v17 Q_v17 G0_v17 X0_v17 Y0_v17 G1_v17 O0_v17 OX_v17 OY_v17 O1_v17 L_v17
    obtain ⟨K1, hK1, bK1⟩ : ∃ M, Hid (M = 1 + len) ∧ M ≤ 1048577 := ⟨_, rfl, by omega⟩
    obtain ⟨K2, hK2⟩ : ∃ M, Hid (M = K1 + len') := ⟨_, rfl⟩
    obtain ⟨M, hM⟩ : ∃ M, Hid (M = 1 + l1) := ⟨_, rfl⟩
    have dX : decide ((K2 : Int) < 0) = false := by first | (simp; done) | (simp; omega)
    have dM : decide ((M : Int) < 0) = false := by first | (simp; done) | (simp; omega)
    have dE : ((M : Int) != (M : Int)) = false := by simp
    have ld0 := X0_v19.out
    go_wp2_with (refine wpList_load_row rfl 26 (.tmp 7) rfl v9.heap.size rfl _ _ _ _ ld0 Tryd.underlying26 rfl (by kernel_rfl) ?_)
    clear ld0
    refine (markMx1 r c v8.heap.size v9.heap.size (some ⟨b4, 0, none⟩) len len xs K1 hK1.out _ OX_v19.out hle).mono ?_
    rintro e v20 ⟨rfl, hoX, hb⟩
    have sz_v20 : v19.heap.size ≤ v20.heap.size := hb.size
    have P_v20 : Hid (RowAt v20 w.heap.size 24 #[.int .i64 r, .int .i64 c, .slice a len cap]) := P_v19.out.turned hb (by omega)
    have Q_v20 : Hid (RowAt v20 (w.heap.size + 1) 24 #[.int .i64 r', .int .i64 c', .slice a' len' cap']) := Q_v19.out.turned hb (by omega)
    have G0_v20 : Hid (RowAt v20 m0 28 #[.int .i64 k, .int .i64 R, .int .i64 C, .slice a0 l0 c0]) := G0_v19.out.turned hb (by omega)
    have X0_v20 : Hid (RowAt v20 v9.heap.size 26 #[.int .i64 r, .int .i64 c, .slice (some ⟨b4, 0, none⟩) len len]) := X0_v19.out.turned hb (by omega)
    have Y0_v20 : Hid (RowAt v20 v11.heap.size 26 #[.int .i64 r', .int .i64 c', .slice (some ⟨b5, 0, none⟩) len' len']) := Y0_v19.out.turned hb (by omega)
    have G1_v20 : Hid (RowAt v20 v13.heap.size 28 #[.int .i64 k, .int .i64 R, .int .i64 C, .slice a1 l1 c1]) := G1_v19.out.turned hb (by omega)
    have O0_v20 : Hid (Own v20 lo0 hi0 a0 l0 c0 us) := O0_v19.out.turned hb (by omega)
    have OY_v20 : Hid (Own v20 v10.heap.size v11.heap.size (some ⟨b5, 0, none⟩) len' len' ys) := OY_v19.out.turned hb (by omega)
    have O1_v20 : Hid (Own v20 v12.heap.size v13.heap.size a1 l1 c1 us) := O1_v19.out.turned hb (by omega)
    have L_v20 : Hid (Below w.heap.size w v20) := hb.below L_v19.out (by omega) (by omega)
    clear hb hoX OX_v19 P_v19 Q_v19 G0_v19 X0_v19 Y0_v19 G1_v19 O0_v19 OY_v19 O1_v19 L_v19
    have ld0 := Y0_v20.out
    go_wp2_with (refine wpList_load_row rfl 26 (.tmp 8) rfl v11.heap.size rfl _ _ _ _ ld0 Tryd.underlying26 rfl (by kernel_rfl) ?_)
    clear ld0
    refine (markMxK r' c' v10.heap.size v11.heap.size (some ⟨b5, 0, none⟩) len' len' ys K1 K2 hK2.out _ OY_v20.out hle2 (by omega)).mono ?_
    rintro e v21 ⟨rfl, hoX, hb⟩
    have sz_v21 : v20.heap.size ≤ v21.heap.size := hb.size
    have P_v21 : Hid (RowAt v21 w.heap.size 24 #[.int .i64 r, .int .i64 c, .slice a len cap]) := P_v20.out.turned hb (by omega)
    have Q_v21 : Hid (RowAt v21 (w.heap.size + 1) 24 #[.int .i64 r', .int .i64 c', .slice a' len' cap']) := Q_v20.out.turned hb (by omega)
    have G0_v21 : Hid (RowAt v21 m0 28 #[.int .i64 k, .int .i64 R, .int .i64 C, .slice a0 l0 c0]) := G0_v20.out.turned hb (by omega)
    have X0_v21 : Hid (RowAt v21 v9.heap.size 26 #[.int .i64 r, .int .i64 c, .slice (some ⟨b4, 0, none⟩) len len]) := X0_v20.out.turned hb (by omega)
    have Y0_v21 : Hid (RowAt v21 v11.heap.size 26 #[.int .i64 r', .int .i64 c', .slice (some ⟨b5, 0, none⟩) len' len']) := Y0_v20.out.turned hb (by omega)
    have G1_v21 : Hid (RowAt v21 v13.heap.size 28 #[.int .i64 k, .int .i64 R, .int .i64 C, .slice a1 l1 c1]) := G1_v20.out.turned hb (by omega)
    have O0_v21 : Hid (Own v21 lo0 hi0 a0 l0 c0 us) := O0_v20.out.turned hb (by omega)
    have O1_v21 : Hid (Own v21 v12.heap.size v13.heap.size a1 l1 c1 us) := O1_v20.out.turned hb (by omega)
    have L_v21 : Hid (Below w.heap.size w v21) := hb.below L_v20.out (by omega) (by omega)
    clear hb hoX OY_v20 P_v20 Q_v20 G0_v20 X0_v20 Y0_v20 G1_v20 O0_v20 O1_v20 L_v20
    have gg0 := G1_v21.out.cell 0
    have gh0 := G0_v21.out.cell 0
    have gg1 := G1_v21.out.cell 1
    have gh1 := G0_v21.out.cell 1
    have gg2 := G1_v21.out.cell 2
    have gh2 := G0_v21.out.cell 2
    have gg3 := G1_v21.out.cell 3
    have gh3 := G0_v21.out.cell 3
    go_wp2_with (fail)
    clear gg0 gh0 gg1 gh1 gg2 gh2 gg3 gh3
    refine (eqMr k R C a1 l1 c1 a0 l0 c0 us _ O1_v21.out.ints O0_v21.out.ints hyl).mono ?_
    rintro e v22 ⟨rfl, hb⟩
    have sz_v22 : v21.heap.size ≤ v22.heap.size := hb.size
    have P_v22 : Hid (RowAt v22 w.heap.size 24 #[.int .i64 r, .int .i64 c, .slice a len cap]) := P_v21.out.below hb P_v21.out.lt
    have Q_v22 : Hid (RowAt v22 (w.heap.size + 1) 24 #[.int .i64 r', .int .i64 c', .slice a' len' cap']) := Q_v21.out.below hb Q_v21.out.lt
    have G0_v22 : Hid (RowAt v22 m0 28 #[.int .i64 k, .int .i64 R, .int .i64 C, .slice a0 l0 c0]) := G0_v21.out.below hb G0_v21.out.lt
    have X0_v22 : Hid (RowAt v22 v9.heap.size 26 #[.int .i64 r, .int .i64 c, .slice (some ⟨b4, 0, none⟩) len len]) := X0_v21.out.below hb X0_v21.out.lt
    have Y0_v22 : Hid (RowAt v22 v11.heap.size 26 #[.int .i64 r', .int .i64 c', .slice (some ⟨b5, 0, none⟩) len' len']) := Y0_v21.out.below hb Y0_v21.out.lt
    have G1_v22 : Hid (RowAt v22 v13.heap.size 28 #[.int .i64 k, .int .i64 R, .int .i64 C, .slice a1 l1 c1]) := G1_v21.out.below hb G1_v21.out.lt
    have O0_v22 : Hid (Own v22 lo0 hi0 a0 l0 c0 us) := O0_v21.out.below hb (by omega)
    have O1_v22 : Hid (Own v22 v12.heap.size v13.heap.size a1 l1 c1 us) := O1_v21.out.below hb (by omega)
    have L_v22 : Hid (Below w.heap.size w v22) := L_v21.out.trans (hb.mono L_v21.out.size)
    clear hb P_v21 Q_v21 G0_v21 X0_v21 Y0_v21 G1_v21 O0_v21 O1_v21 L_v21
    have ld0 := G1_v22.out
    go_wp2_with (refine wpList_load_row rfl 28 (.tmp 9) rfl v13.heap.size rfl _ _ _ _ ld0 Tryd.underlying28 rfl (by kernel_rfl) ?_)
    clear ld0
    refine (markMr1 k R C v12.heap.size v13.heap.size a1 l1 c1 us M hM.out _ O1_v22.out (by omega)).mono ?_
    rintro e v23 ⟨rfl, ho9, hb⟩
    have sz_v23 : v22.heap.size ≤ v23.heap.size := hb.size
    have P_v23 : Hid (RowAt v23 w.heap.size 24 #[.int .i64 r, .int .i64 c, .slice a len cap]) := P_v22.out.turned hb (by omega)
    have Q_v23 : Hid (RowAt v23 (w.heap.size + 1) 24 #[.int .i64 r', .int .i64 c', .slice a' len' cap']) := Q_v22.out.turned hb (by omega)
    have G0_v23 : Hid (RowAt v23 m0 28 #[.int .i64 k, .int .i64 R, .int .i64 C, .slice a0 l0 c0]) := G0_v22.out.turned hb (by omega)
    have X0_v23 : Hid (RowAt v23 v9.heap.size 26 #[.int .i64 r, .int .i64 c, .slice (some ⟨b4, 0, none⟩) len len]) := X0_v22.out.turned hb (by omega)
    have Y0_v23 : Hid (RowAt v23 v11.heap.size 26 #[.int .i64 r', .int .i64 c', .slice (some ⟨b5, 0, none⟩) len' len']) := Y0_v22.out.turned hb (by omega)
    have G1_v23 : Hid (RowAt v23 v13.heap.size 28 #[.int .i64 k, .int .i64 R, .int .i64 C, .slice a1 l1 c1]) := G1_v22.out.turned hb (by omega)
    have O0_v23 : Hid (Own v23 lo0 hi0 a0 l0 c0 us) := O0_v22.out.turned hb (by omega)
    have L_v23 : Hid (Below w.heap.size w v23) := hb.below L_v22.out (by omega) (by omega)
    have O1_v23 := hid ho9
    clear hb ho9 O1_v22 P_v22 Q_v22 G0_v22 X0_v22 Y0_v22 G1_v22 O0_v22 L_v22
    have ld0 := G1_v23.out
    go_wp2_with (refine wpList_load_row rfl 28 (.tmp 9) rfl v13.heap.size rfl _ _ _ _ ld0 Tryd.underlying28 rfl (by kernel_rfl) ?_)
    clear ld0
    refine (heldMr1 k R C v12.heap.size v13.heap.size a1 l1 c1 M hM.out _ O1_v23.out (by omega)).mono ?_
    rintro e v24 ⟨rfl, hb⟩
    have sz_v24 : v23.heap.size ≤ v24.heap.size := hb.size
    have P_v24 : Hid (RowAt v24 w.heap.size 24 #[.int .i64 r, .int .i64 c, .slice a len cap]) := P_v23.out.below hb P_v23.out.lt
    have Q_v24 : Hid (RowAt v24 (w.heap.size + 1) 24 #[.int .i64 r', .int .i64 c', .slice a' len' cap']) := Q_v23.out.below hb Q_v23.out.lt
    have G0_v24 : Hid (RowAt v24 m0 28 #[.int .i64 k, .int .i64 R, .int .i64 C, .slice a0 l0 c0]) := G0_v23.out.below hb G0_v23.out.lt
    have X0_v24 : Hid (RowAt v24 v9.heap.size 26 #[.int .i64 r, .int .i64 c, .slice (some ⟨b4, 0, none⟩) len len]) := X0_v23.out.below hb X0_v23.out.lt
    have Y0_v24 : Hid (RowAt v24 v11.heap.size 26 #[.int .i64 r', .int .i64 c', .slice (some ⟨b5, 0, none⟩) len' len']) := Y0_v23.out.below hb Y0_v23.out.lt
    have G1_v24 : Hid (RowAt v24 v13.heap.size 28 #[.int .i64 k, .int .i64 R, .int .i64 C, .slice a1 l1 c1]) := G1_v23.out.below hb G1_v23.out.lt
    have O0_v24 : Hid (Own v24 lo0 hi0 a0 l0 c0 us) := O0_v23.out.below hb (by omega)
    have O1_v24 : Hid (Own v24 v12.heap.size v13.heap.size a1 l1 c1 (marks 1 l1)) := O1_v23.out.below hb (by omega)
    have L_v24 : Hid (Below w.heap.size w v24) := L_v23.out.trans (hb.mono L_v23.out.size)
    clear hb P_v23 Q_v23 G0_v23 X0_v23 Y0_v23 G1_v23 O0_v23 O1_v23 L_v23
    have xx0 := P_v24.out.cell 0
    have pp0 := Q_v24.out.cell 0
    have xx1 := P_v24.out.cell 1
    have pp1 := Q_v24.out.cell 1
    have xx2 := P_v24.out.cell 2
    have pp2 := Q_v24.out.cell 2
    go_upto_region 31 with fail
    go_cut [13] from 75 to 79 (fun p wx => ∃ m a2 l2 c2 lo hi, p = .pointer (some ⟨m, 0, none⟩) ∧ RowAt wx m 28 #[.int .i64 k, .int .i64 R, .int .i64 C, .slice a2 l2 c2] ∧ us.length = l2 ∧ Own wx lo hi a2 l2 c2 us ∧ v24.heap.size ≤ lo ∧ hi ≤ wx.heap.size ∧ v24.heap.size ≤ m ∧ (m < lo ∨ hi ≤ m) ∧ Below v24.heap.size v24 wx)
    case first =>
      go_region_held3 (fun wx => wx.cell? ⟨w.heap.size, 0, none⟩ = some (.int .i64 r) ∧ wx.cell? ⟨w.heap.size, 1, none⟩ = some (.int .i64 c) ∧ wx.cell? ⟨w.heap.size, 2, none⟩ = some (.slice a len cap) ∧ wx.cell? ⟨(w.heap.size + 1), 0, none⟩ = some (.int .i64 r') ∧ wx.cell? ⟨(w.heap.size + 1), 1, none⟩ = some (.int .i64 c') ∧ wx.cell? ⟨(w.heap.size + 1), 2, none⟩ = some (.slice a' len' cap'))
        ((first | (go_keep; done) | (with_reducible exact six (pA3.alloc _) (pB3.alloc _)) | (with_reducible exact six (other4 pA3 _ _ _ _ (by omega)) (other4 pB3 _ _ _ _ (by omega))) | (with_reducible exact six (pA2.alloc _) (pB2.alloc _)) | (with_reducible exact six (pA1.alloc _) (pB1.alloc _)) | exact six (P_v24.out.alloc _).drew (Q_v24.out.alloc _).drew))
        ((first
          | (go_at_call 8; (fail_if_success have hh := hb1); refine (toMx r c a len cap xs _ ?_ hle).mono ?_; (first | exact HH_P.out.below L_v24.out.drew | exact HH_P.out.below (L_v24.out.alloc L_v24.out.size _).drew); rintro e v25 ⟨b1, rfl, gb1, hw1, hb1⟩; (first | have hB1 : Below v24.heap.size v24 v25 := (Below.refl _ _).drew.trans hb1 | have hB1 : Below v24.heap.size v24 v25 := belowAlD hb1); (first | have pR1 : RowAt v25 v24.heap.size 28 #[.int .i64 0, .int .i64 0, .int .i64 0, .slice none 0 0] := (RowAt.new v24 _ _).drew.below hb1 (by show _ < (v24.alloc _).heap.size; rw [size_al]; omega) | skip); have pA1 := P_v24.out.below hB1 P_v24.out.lt; have pB1 := Q_v24.out.below hB1 Q_v24.out.lt; have LL1 := L_v24.out.trans (hB1.mono L_v24.out.size); have u10 := pA1.cell 0; have t10 := pB1.cell 0; have u11 := pA1.cell 1; have t11 := pB1.cell 1; have u12 := pA1.cell 2; have t12 := pB1.cell 2)
          | (go_at_call 8; refine (toMx r' c' a' len' cap' ys _ ?_ hle2).mono ?_; (first | exact HH_Q.out.below LL1 | exact HH_Q.out.below (LL1.alloc LL1.size _)); rintro e v26 ⟨b2, rfl, gb2, hw2, hb2⟩; (first | have hB2 : Below v25.heap.size v25 v26 := hb2 | have hB2 : Below v25.heap.size v25 v26 := belowAl hb2); (first | have pR2 : RowAt v26 v25.heap.size 28 #[.int .i64 0, .int .i64 0, .int .i64 0, .slice none 0 0] := (RowAt.new v25 _ _).below hb2 (by rw [size_al]; omega) | have pR2 := pR1.below hB2 pR1.lt | skip); have pA2 := pA1.below hB2 pA1.lt; have pB2 := pB1.below hB2 pB1.lt; have LL2 := LL1.trans (hB2.mono LL1.size); have hw12 := hw1.below hB2 hw1.lt; have u20 := pA2.cell 0; have t20 := pB2.cell 0; have u21 := pA2.cell 1; have t21 := pB2.cell 1; have u22 := pA2.cell 2; have t22 := pB2.cell 2)
          | (go_at_call 9; refine (HI'.out b1 b2 _ ?_ ?_ ?_).mono ?_; (first | exact HT.out.belowS LL2 | exact (HT.out.belowS LL2).alloc _); (first | exact hw12 | exact hw12.alloc _); (first | exact hw2 | exact hw2.alloc _); rintro e v27 ⟨a2, l2, c2, rfl, ho3, hb3⟩; (first | have hB3 : Below v26.heap.size v26 v27 := hb3 | have hB3 : Below v26.heap.size v26 v27 := belowAl hb3); (first | have pR3 : RowAt v27 v26.heap.size 28 #[.int .i64 0, .int .i64 0, .int .i64 0, .slice none 0 0] := (RowAt.new v26 _ _).below hb3 (by rw [size_al]; omega) | have pR3 := pR2.below hB3 pR2.lt | skip); have pA3 := pA2.below hB3 pA2.lt; have pB3 := pB2.below hB3 pB2.lt; have LW := (hB1.trans (hB2.mono hB1.size)).trans (hB3.mono (Nat.le_trans hB1.size hB2.size)); have zz1 := hB1.size; have zz2 := hB2.size; have zz3 := hB3.size; have qA := pA3.lt; have qB := pB3.lt; (try have mR := pR2.lt); (try have k0 := pR3.cell 0); (try have k1 := pR3.cell 1); (try have k2 := pR3.cell 2); (try have k3 := pR3.cell 3); (try have f0 := pR3.free 0); (try have f1 := pR3.free 1); (try have f2 := pR3.free 2); (try have f3 := pR3.free 3); have u30 := pA3.cell 0; have t30 := pB3.cell 0; have u31 := pA3.cell 1; have t31 := pB3.cell 1; have u32 := pA3.cell 2; have t32 := pB3.cell 2)))
      all_goals (try clear k0 k1 k2 k3 f0 f1 f2 f3)
      all_goals clear u10 t10 u11 t11 u12 t12 u20 t20 u21 t21 u22 t22 u30 t30 u31 t31 u32 t32 xx0 xx1 xx2 pp0 pp1 pp2
      all_goals go_wp2_with fail
      all_goals go_meet
      all_goals first
        | (have hR := pR3; exact ⟨_, a2, l2, c2, _, v27.heap.size, rfl, set4 hR _ _ _ _, ho3.1, own4 (Own.of ho3) _ _ _ _ (Or.inl (by first | omega | (simp only [size_al]; omega))), (by first | omega | (simp only [size_al]; omega)), (Nat.le_of_eq (size4 _ _ _ _ _).symm), (by first | omega | (simp only [size_al]; omega)), Or.inl (by first | omega | (simp only [size_al]; omega)), below4 LW _ _ _ _ (by first | omega | (simp only [size_al]; omega))⟩)
        | exact ⟨v27.heap.size, a2, l2, c2, v26.heap.size, v27.heap.size, rfl, RowAt.new v27 _ _, ho3.1, (Own.of ho3).alloc _, (by first | omega | (simp only [size_al]; omega)), (by rw [size_al]; omega), (by first | omega | (simp only [size_al]; omega)), Or.inr (Nat.le_refl _), LW.alloc LW.size _⟩
    case rest =>
      obtain ⟨m2, a2, l2, c2, lo2, hi2, rfl, rG, hl2, oO, i12, i22, i32, i42, hbc⟩ := hcut
      obtain ⟨v28, rfl⟩ : ∃ v, v = wc := ⟨_, rfl⟩
      clear xx0 pp0 xx1 pp1 xx2 pp2
      have sz_v28 : v24.heap.size ≤ v28.heap.size := hbc.size
      have G2_v28 : Hid (RowAt v28 m2 28 #[.int .i64 k, .int .i64 R, .int .i64 C, .slice a2 l2 c2]) := rG
      have O2_v28 := hid oO
      have bm2 := rG.lt
      clear rG oO
      have P_v28 : Hid (RowAt v28 w.heap.size 24 #[.int .i64 r, .int .i64 c, .slice a len cap]) := P_v24.out.below hbc P_v24.out.lt
      have Q_v28 : Hid (RowAt v28 (w.heap.size + 1) 24 #[.int .i64 r', .int .i64 c', .slice a' len' cap']) := Q_v24.out.below hbc Q_v24.out.lt
      have G0_v28 : Hid (RowAt v28 m0 28 #[.int .i64 k, .int .i64 R, .int .i64 C, .slice a0 l0 c0]) := G0_v24.out.below hbc G0_v24.out.lt
      have X0_v28 : Hid (RowAt v28 v9.heap.size 26 #[.int .i64 r, .int .i64 c, .slice (some ⟨b4, 0, none⟩) len len]) := X0_v24.out.below hbc X0_v24.out.lt
      have Y0_v28 : Hid (RowAt v28 v11.heap.size 26 #[.int .i64 r', .int .i64 c', .slice (some ⟨b5, 0, none⟩) len' len']) := Y0_v24.out.below hbc Y0_v24.out.lt
      have G1_v28 : Hid (RowAt v28 v13.heap.size 28 #[.int .i64 k, .int .i64 R, .int .i64 C, .slice a1 l1 c1]) := G1_v24.out.below hbc G1_v24.out.lt
      have O0_v28 : Hid (Own v28 lo0 hi0 a0 l0 c0 us) := O0_v24.out.below hbc (by omega)
      have O1_v28 : Hid (Own v28 v12.heap.size v13.heap.size a1 l1 c1 (marks 1 l1)) := O1_v24.out.below hbc (by omega)
      have L_v28 : Hid (Below w.heap.size w v28) := L_v24.out.trans (hbc.mono L_v24.out.size)
      clear hbc P_v24 Q_v24 G0_v24 X0_v24 Y0_v24 G1_v24 O0_v24 O1_v24 L_v24
      have ld0 := G2_v28.out
      have ld1 := G0_v28.out
      go_wp2_with (first
        | refine wpList_load_row rfl 28 (.tmp 13) rfl m2 rfl _ _ _ _ ld0 Tryd.underlying28 rfl (by kernel_rfl) ?_
        | refine wpList_load_row rfl 28 (.tmp 6) rfl m0 rfl _ _ _ _ ld1 Tryd.underlying28 rfl (by kernel_rfl) ?_)
      clear ld0 ld1
      refine (eqMr k R C a2 l2 c2 a0 l0 c0 us _ O2_v28.out.ints O0_v28.out.ints hyl).mono ?_
      rintro e v29 ⟨rfl, hb⟩
      have sz_v29 : v28.heap.size ≤ v29.heap.size := hb.size
      have P_v29 : Hid (RowAt v29 w.heap.size 24 #[.int .i64 r, .int .i64 c, .slice a len cap]) := P_v28.out.below hb P_v28.out.lt
      have Q_v29 : Hid (RowAt v29 (w.heap.size + 1) 24 #[.int .i64 r', .int .i64 c', .slice a' len' cap']) := Q_v28.out.below hb Q_v28.out.lt
      have G0_v29 : Hid (RowAt v29 m0 28 #[.int .i64 k, .int .i64 R, .int .i64 C, .slice a0 l0 c0]) := G0_v28.out.below hb G0_v28.out.lt
      have X0_v29 : Hid (RowAt v29 v9.heap.size 26 #[.int .i64 r, .int .i64 c, .slice (some ⟨b4, 0, none⟩) len len]) := X0_v28.out.below hb X0_v28.out.lt
      have Y0_v29 : Hid (RowAt v29 v11.heap.size 26 #[.int .i64 r', .int .i64 c', .slice (some ⟨b5, 0, none⟩) len' len']) := Y0_v28.out.below hb Y0_v28.out.lt
      have G1_v29 : Hid (RowAt v29 v13.heap.size 28 #[.int .i64 k, .int .i64 R, .int .i64 C, .slice a1 l1 c1]) := G1_v28.out.below hb G1_v28.out.lt
      have G2_v29 : Hid (RowAt v29 m2 28 #[.int .i64 k, .int .i64 R, .int .i64 C, .slice a2 l2 c2]) := G2_v28.out.below hb G2_v28.out.lt
      have O0_v29 : Hid (Own v29 lo0 hi0 a0 l0 c0 us) := O0_v28.out.below hb (by omega)
      have O1_v29 : Hid (Own v29 v12.heap.size v13.heap.size a1 l1 c1 (marks 1 l1)) := O1_v28.out.below hb (by omega)
      have O2_v29 : Hid (Own v29 lo2 hi2 a2 l2 c2 us) := O2_v28.out.below hb (by omega)
      have L_v29 : Hid (Below w.heap.size w v29) := L_v28.out.trans (hb.mono L_v28.out.size)
      clear hb P_v28 Q_v28 G0_v28 X0_v28 Y0_v28 G1_v28 G2_v28 O0_v28 O1_v28 O2_v28 L_v28
      have ld0 := G1_v29.out
      go_wp2_with (refine wpList_load_row rfl 28 (.tmp 9) rfl v13.heap.size rfl _ _ _ _ ld0 Tryd.underlying28 rfl (by kernel_rfl) ?_)
      clear ld0
      refine (heldMr1 k R C v12.heap.size v13.heap.size a1 l1 c1 M hM.out _ O1_v29.out (by omega)).mono ?_
      rintro e v30 ⟨rfl, hb⟩
      have sz_v30 : v29.heap.size ≤ v30.heap.size := hb.size
      have P_v30 : Hid (RowAt v30 w.heap.size 24 #[.int .i64 r, .int .i64 c, .slice a len cap]) := P_v29.out.below hb P_v29.out.lt
      have Q_v30 : Hid (RowAt v30 (w.heap.size + 1) 24 #[.int .i64 r', .int .i64 c', .slice a' len' cap']) := Q_v29.out.below hb Q_v29.out.lt
      have G0_v30 : Hid (RowAt v30 m0 28 #[.int .i64 k, .int .i64 R, .int .i64 C, .slice a0 l0 c0]) := G0_v29.out.below hb G0_v29.out.lt
      have X0_v30 : Hid (RowAt v30 v9.heap.size 26 #[.int .i64 r, .int .i64 c, .slice (some ⟨b4, 0, none⟩) len len]) := X0_v29.out.below hb X0_v29.out.lt
      have Y0_v30 : Hid (RowAt v30 v11.heap.size 26 #[.int .i64 r', .int .i64 c', .slice (some ⟨b5, 0, none⟩) len' len']) := Y0_v29.out.below hb Y0_v29.out.lt
      have G1_v30 : Hid (RowAt v30 v13.heap.size 28 #[.int .i64 k, .int .i64 R, .int .i64 C, .slice a1 l1 c1]) := G1_v29.out.below hb G1_v29.out.lt
      have G2_v30 : Hid (RowAt v30 m2 28 #[.int .i64 k, .int .i64 R, .int .i64 C, .slice a2 l2 c2]) := G2_v29.out.below hb G2_v29.out.lt
      have O0_v30 : Hid (Own v30 lo0 hi0 a0 l0 c0 us) := O0_v29.out.below hb (by omega)
      have O1_v30 : Hid (Own v30 v12.heap.size v13.heap.size a1 l1 c1 (marks 1 l1)) := O1_v29.out.below hb (by omega)
      have O2_v30 : Hid (Own v30 lo2 hi2 a2 l2 c2 us) := O2_v29.out.below hb (by omega)
      have L_v30 : Hid (Below w.heap.size w v30) := L_v29.out.trans (hb.mono L_v29.out.size)
      clear hb P_v29 Q_v29 G0_v29 X0_v29 Y0_v29 G1_v29 G2_v29 O0_v29 O1_v29 O2_v29 L_v29
      go_wp2
      go_ret
      exact ⟨rfl, L_v30.out⟩
end Go.Proofs.YtlobnmcjnaibaajDoor
