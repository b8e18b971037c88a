import Derived.Test.YtlobnmcjnaibaajDoorITimes
namespace Go.Proofs.YtlobnmcjnaibaajDoor
open Go.RowKit
theorem mulL_small {xs ys : List Nat} (hx : Small xs) (R C D : Nat) : Small (mulL xs ys R C D) := small_of (fun y hy => by
  unfold mulL at hy; obtain ⟨p, _, rfl⟩ := List.mem_map.1 hy; exact dotN_lt hx C D _ _ _)
theorem other4 {w : World} {b g : Nat} {t : TypeId} {c : Array Value} (h : RowAt w b t c) (v0 v1 v2 v3 : Value) (hn : b ≠ g) : RowAt ((((w.setCell ⟨g, 0, none⟩ v0).setCell ⟨g, 1, none⟩ v1).setCell ⟨g, 2, none⟩ v2).setCell ⟨g, 3, none⟩ v3) b t c :=
  (((h.other _ _ hn).other _ _ hn).other _ _ hn).other _ _ hn
theorem set4 {w : World} {g : Nat} {t : TypeId} {u0 u1 u2 u3 : Value} (h : RowAt w g t #[u0, u1, u2, u3]) (v0 v1 v2 v3 : Value) : RowAt ((((w.setCell ⟨g, 0, none⟩ v0).setCell ⟨g, 1, none⟩ v1).setCell ⟨g, 2, none⟩ v2).setCell ⟨g, 3, none⟩ v3) g t #[v0, v1, v2, v3] :=
  (((h.set 0 v0).set 1 v1).set 2 v2).set 3 v3
theorem wr4 {k : IntKind} {w : World} {b off g : Nat} {xs : List Int} (h : Wr k w b off xs) (v0 v1 v2 v3 : Value) (hn : b ≠ g) : Wr k ((((w.setCell ⟨g, 0, none⟩ v0).setCell ⟨g, 1, none⟩ v1).setCell ⟨g, 2, none⟩ v2).setCell ⟨g, 3, none⟩ v3) b off xs :=
  (((h.other _ _ hn).other _ _ hn).other _ _ hn).other _ _ hn
theorem below4 {n g : Nat} {w w' : World} (h : Below n w w') (v0 v1 v2 v3 : Value) (hn : n ≤ g) : Below n w ((((w'.setCell ⟨g, 0, none⟩ v0).setCell ⟨g, 1, none⟩ v1).setCell ⟨g, 2, none⟩ v2).setCell ⟨g, 3, none⟩ v3) :=
  (((h.setCell hn _).setCell hn _).setCell hn _).setCell hn _
set_option maxRecDepth 20000 in
set_option maxHeartbeats 4000000 in
theorem imatmul_ok (R C D : Nat) (hR1 : 1 ≤ R) (hR : R ≤ 64) (hC1 : 1 ≤ C) (hC : C ≤ 64) (hD1 : 1 ≤ D) (hD : D ≤ 64) (xs ys : List Nat) (hx : Small xs) (hy : Small ys) (hxl : xs.length = R * C) (hyl : ys.length = C * D)
    (a : Option Addr) (la ca : Nat) (a' : Option Addr) (lb cb : Nat) (w : World) (hT : Tab w) (h : Ints .i64 w a la ca (nl xs)) (h' : Ints .i64 w a' lb cb (nl ys)) (F1 : mfault R C (nl xs) = 0) (F2 : mfault C D (nl ys) = 0) :
    Calls Tryd.prog 9 #[mxv R C a la ca, mxv C D a' lb cb] w fun e w' => ∃ g q, q = R * D ∧ e = .returned (.agg #[.int .i64 0, .int .i64 R, .int .i64 D, .slice (some ⟨g, 0, none⟩) q q]) ∧ w.heap.size ≤ g ∧ Wr .i64 w' g 0 (nl (mulL xs ys R C D)) ∧ Below w.heap.size w w' := by
  have hla : la = R * C := by have := h.1; rw [nl_len] at this; omega
  have hlb : lb = C * D := by have := h'.1; rw [nl_len] at this; omega
  obtain ⟨q, hq⟩ : ∃ q, q = R * D := ⟨_, rfl⟩
  have q8 : q ≤ 4096 := by have : q ≤ 64 * 64 := by { rw [hq]; exact Nat.mul_le_mul hR hD }; omega
  have a8 : la ≤ 4096 := by have : la ≤ 64 * 64 := by { rw [hla]; exact Nat.mul_le_mul hR hC }; omega
  have b8 : lb ≤ 4096 := by have : lb ≤ 64 * 64 := by { rw [hlb]; exact Nat.mul_le_mul hC hD }; omega
  have IA : Hid ((R : Int) * (C : Int) = (la : Int)) := by show _ = _; rw [hla]; simp
  have IB : Hid ((C : Int) * (D : Int) = (lb : Int)) := by show _ = _; rw [hlb]; simp
  have HLA := hid hla
  have HLB := hid hlb
  have HQ := hid hq
  have SX := hid hx
  have SY := hid hy
  have LX : Hid (xs.length = la) := hxl.trans hla.symm
  have LY : Hid (ys.length = lb) := hyl.trans hlb.symm
  have G1 := hid F1
  have G2 := hid F2
  obtain ⟨W, hW⟩ : ∃ W, W = ((w.alloc (.cells #[.int .i64 R, .int .i64 C, .slice a la ca] 26)).alloc (.cells #[.int .i64 C, .int .i64 D, .slice a' lb cb] 26)).alloc (.cells #[.int .i64 0, .int .i64 0, .int .i64 0, .slice none 0 0] 28) := ⟨_, rfl⟩
  have hWs : W.heap.size = w.heap.size + 1 + 1 + 1 := by rw [hW]; simp only [size_al]
  have A0 : Hid (RowAt W w.heap.size 26 #[.int .i64 R, .int .i64 C, .slice a la ca]) := by rw [hW]; exact ((RowAt.new w _ _).alloc _).alloc _
  have B0 : Hid (RowAt W (w.heap.size + 1) 26 #[.int .i64 C, .int .i64 D, .slice a' lb cb]) := by rw [hW]; exact (RowAt.next (w.alloc _) _ _ (by rw [size_al])).alloc _
  have R0 : Hid (RowAt W (w.heap.size + 1 + 1) 28 #[.int .i64 0, .int .i64 0, .int .i64 0, .slice none 0 0]) := by rw [hW]; exact RowAt.next ((w.alloc _).alloc _) _ _ (by rw [size_al, size_al])
  have HA : Hid (Ints .i64 W a la ca (nl xs)) := by rw [hW]; exact ((h.alloc _).alloc _).alloc _
  have HB : Hid (Ints .i64 W a' lb cb (nl ys)) := by rw [hW]; exact ((h'.alloc _).alloc _).alloc _
  have T0 : Hid (Tab W) := by rw [hW]; exact ((hT.alloc _).alloc _).alloc _
  have L0 : Hid (Below w.heap.size w W) := by rw [hW]; exact (((Below.refl _ _).alloc (Nat.le_refl _) _).alloc (by rw [size_al]; omega) _).alloc (by rw [size_al, size_al]; omega) _
  have hw1 := hT.lt
  have dC : ((C : Int) != (C : Int)) = false := by simp
  clear hla hlb hq hx hy hxl hyl h h' F1 F2 hT
  have r1 := A0.out
  have r2 := B0.out
  go_enter Tryd.func9, Tryd.ntmps9
  go_wp2_with (first | rw [← hW] | refine wpList_load_row rfl 26 (.tmp 2) rfl w.heap.size rfl _ _ _ _ r1 Tryd.underlying26 rfl (by kernel_rfl) ?_)
  refine (ifault R C a la ca (nl xs) _ HA.out (by omega)).mono ?_
  rintro e w1 ⟨rfl, hb1⟩
  rw [G1.out]
  have L1 := hid hb1
  have r2' := B0.out.below hb1 (by omega)
  have y0 := r2'.cell 0
  have y1 := r2'.cell 1
  have y2 := r2'.cell 2
  clear hb1 r1 r2
  go_wp2_with fail
  refine (ifault C D a' lb cb (nl ys) _ (HB.out.below L1.out) (by omega)).mono ?_
  rintro e w2 ⟨rfl, hb2⟩
  rw [G2.out]
  have L2 := hid (L1.out.trans (hb2.mono L1.out.size))
  have A2 := hid (A0.out.below L2.out (by omega))
  have B2 := hid (B0.out.below L2.out (by omega))
  have R2 := hid (R0.out.below L2.out (by omega))
  have T2 := hid (T0.out.below L2.out (by omega))
  have HA2 := hid (HA.out.below L2.out)
  have HB2 := hid (HB.out.below L2.out)
  have h2s := L2.out.size
  clear hb2 r2' L1 G1 G2 y0 y1 y2
  have x0 := A2.out.cell 0
  have x1 := A2.out.cell 1
  have x2 := A2.out.cell 2
  have y0 := B2.out.cell 0
  have y1 := B2.out.cell 1
  have y2 := B2.out.cell 2
  go_wp2_with fail
  go_region_held3 (fun wx => wx.cell? ⟨w.heap.size, 0, none⟩ = some (.int .i64 R) ∧ wx.cell? ⟨w.heap.size, 1, none⟩ = some (.int .i64 C) ∧ wx.cell? ⟨w.heap.size, 2, none⟩ = some (.slice a la ca) ∧ wx.cell? ⟨w.heap.size + 1, 0, none⟩ = some (.int .i64 C) ∧ wx.cell? ⟨w.heap.size + 1, 1, none⟩ = some (.int .i64 D) ∧ wx.cell? ⟨w.heap.size + 1, 2, none⟩ = some (.slice a' lb cb))
    ((first | (go_keep; done) | exact ⟨A9.cell 0, A9.cell 1, A9.cell 2, B9.cell 0, B9.cell 1, B9.cell 2⟩ | exact ⟨A5.cell 0, A5.cell 1, A5.cell 2, B5.cell 0, B5.cell 1, B5.cell 2⟩ | exact ⟨A4.cell 0, A4.cell 1, A4.cell 2, B4.cell 0, B4.cell 1, B4.cell 2⟩ | exact ⟨A3.cell 0, A3.cell 1, A3.cell 2, B3.cell 0, B3.cell 1, B3.cell 2⟩))
    ((first
      | (go_at_call 26; (fail_if_success have hh := hb3); refine (igridOf R C la IA (by omega) xs SX.out a ca _ (HA2.out.below (Below.refl _ _).drew)).mono ?_; rintro e w3 ⟨g3, rfl, hg3, hG3, hb3⟩; have L3 := L2.out.drew.trans (hb3.mono L2.out.size); have A3 := A0.out.below L3 (by omega); have B3 := B0.out.below L3 (by omega); have HB3 := HB.out.below L3)
      | (go_at_call 26; refine (igridOf C D lb IB (by omega) ys SY.out a' cb _ HB3).mono ?_; rintro e w4 ⟨g4, rfl, hg4, hG4, hb4⟩; have L4 := L3.trans (hb4.mono L3.size); have A4 := A0.out.below L4 (by omega); have B4 := B0.out.below L4 (by omega); have hG34 := hG3.below hb4 hG3.lt; have T4 := T0.out.below L4 (by omega))
      | (go_at_call 27; refine (itimes R C D g3 g4 la lb q xs ys _ T4 hR1 hR hC1 hC hD1 hD HLA.out HLB.out HQ.out hG34 hG4 LX.out LY.out SX.out SY.out).mono ?_; rintro e w5 ⟨g5, rfl, hg5, hG5, hb5⟩; have L5 := L4.trans (hb5.mono L4.size); have A5 := A0.out.below L5 (by omega); have B5 := B0.out.below L5 (by omega))
      | (go_at_call 28; refine (imatrix R D g5 q (by omega) _ (mulL_small SX.out R C D) _ hG5 (by rw [mulL_len]; exact HQ.out.symm)).mono ?_; rintro e w6 ⟨b6, rfl, hb6g, hW6, hb6⟩; have L6 := L5.trans (hb6.mono L5.size); have A6 := A0.out.below L6 (by omega); have B6 := B0.out.below L6 (by omega); have R6 := R0.out.below L6 (by omega); have k0 := R6.cell 0; have k1 := R6.cell 1; have k2 := R6.cell 2; have k3 := R6.cell 3; have f0 := R6.free 0; have f1 := R6.free 1; have f2 := R6.free 2; have f3 := R6.free 3; have u0 := A6.cell 0; have u1 := A6.cell 1; have u2 := A6.cell 2; have u3 := B6.cell 0; have u4 := B6.cell 1; have u5 := B6.cell 2; have A9 := other4 A6 (g := w.heap.size + 1 + 1) (.int .i64 0) (.int .i64 R) (.int .i64 D) (.slice (some ⟨b6, 0, none⟩) q q) (by omega); have B9 := other4 B6 (g := w.heap.size + 1 + 1) (.int .i64 0) (.int .i64 R) (.int .i64 D) (.slice (some ⟨b6, 0, none⟩) q q) (by omega))))
  have L9 := hid (below4 (L0.out.trans (L6.mono (by omega))) (.int .i64 0) (.int .i64 R) (.int .i64 D) (.slice (some ⟨b6, 0, none⟩) q q) (g := w.heap.size + 1 + 1) (by omega))
  have hb6x : w.heap.size + 1 + 1 < b6 := by have := L5.size; omega
  have W9 := hid (wr4 hW6 (.int .i64 0) (.int .i64 R) (.int .i64 D) (.slice (some ⟨b6, 0, none⟩) q q) (g := w.heap.size + 1 + 1) (by omega))
  have R9 := hid (set4 R6 (.int .i64 0) (.int .i64 R) (.int .i64 D) (.slice (some ⟨b6, 0, none⟩) q q))
  clear A3 A4 A5 A6 A9 B3 B4 B5 B6 B9 L3 L4 L5 L6 hG3 hG4 hG34 hG5 hW6 hb3 hb4 hb5 hb6 R6 k0 k1 k2 k3 f0 f1 f2 f3 u0 u1 u2 u3 u4 u5 x0 x1 x2 y0 y1 y2 T4 HB3
  go_wp2
  refine bodyPost_ret (v := .agg #[.int .i64 0, .int .i64 R, .int .i64 D, .slice (some ⟨b6, 0, none⟩) q q]) ?_ rfl ⟨b6, q, HQ.out, rfl, by omega, W9.out, L9.out⟩
  exact results_cell_row Tryd.results9 _ _ (w.heap.size + 1 + 1) _ _ _ _ rfl R9.out Tryd.underlying28 rfl (by kernel_rfl)
set_option maxRecDepth 20000 in
set_option maxHeartbeats 1000000 in
theorem imatmul_no (r c r' c' : Int) (xs ys : List Int) (a : Option Addr) (la ca : Nat) (a' : Option Addr) (lb cb : Nat) (w : World) (h : Ints .i64 w a la ca xs) (h' : Ints .i64 w a' lb cb ys) (hla : la ≤ 1048576) (hlb : lb ≤ 1048576)
    (hno : ¬ (mfault r c xs = 0 ∧ mfault r' c' ys = 0 ∧ c = r')) :
    Calls Tryd.prog 9 #[mxv r c a la ca, mxv r' c' a' lb cb] w fun e w' => e = .returned (mrNone 1) ∧ Below w.heap.size w w' := by
  obtain ⟨W, hW⟩ : ∃ W, W = ((w.alloc (.cells #[.int .i64 r, .int .i64 c, .slice a la ca] 26)).alloc (.cells #[.int .i64 r', .int .i64 c', .slice a' lb cb] 26)).alloc (.cells #[.int .i64 0, .int .i64 0, .int .i64 0, .slice none 0 0] 28) := ⟨_, rfl⟩
  have hWs : W.heap.size = w.heap.size + 1 + 1 + 1 := by rw [hW]; simp only [size_al]
  have A0 : Hid (RowAt W w.heap.size 26 #[.int .i64 r, .int .i64 c, .slice a la ca]) := by rw [hW]; exact ((RowAt.new w _ _).alloc _).alloc _
  have B0 : Hid (RowAt W (w.heap.size + 1) 26 #[.int .i64 r', .int .i64 c', .slice a' lb cb]) := by rw [hW]; exact (RowAt.next (w.alloc _) _ _ (by rw [size_al])).alloc _
  have R0 : Hid (RowAt W (w.heap.size + 1 + 1) 28 #[.int .i64 0, .int .i64 0, .int .i64 0, .slice none 0 0]) := by rw [hW]; exact RowAt.next ((w.alloc _).alloc _) _ _ (by rw [size_al, size_al])
  have HA : Hid (Ints .i64 W a la ca xs) := by rw [hW]; exact ((h.alloc _).alloc _).alloc _
  have HB : Hid (Ints .i64 W a' lb cb ys) := by rw [hW]; exact ((h'.alloc _).alloc _).alloc _
  have L0 : Hid (Below w.heap.size w W) := by rw [hW]; exact (((Below.refl _ _).alloc (Nat.le_refl _) _).alloc (by rw [size_al]; omega) _).alloc (by rw [size_al, size_al]; omega) _
  have HNO := hid hno
  clear h h' hno
  have r1 := A0.out
  go_enter Tryd.func9, Tryd.ntmps9
  go_wp2_with (first | rw [← hW] | refine wpList_load_row rfl 26 (.tmp 2) rfl w.heap.size rfl _ _ _ _ r1 Tryd.underlying26 rfl (by kernel_rfl) ?_)
  clear hW r1
  refine (ifault r c a la ca xs _ HA.out hla).mono ?_
  rintro e w1 ⟨rfl, hb1⟩
  have L1 := hid hb1
  have h1s := hb1.size
  clear hb1
  rcases mfault_01 r c xs with f1 | f1
  · rw [f1]
    have G1 := hid f1
    clear f1
    have r2' := B0.out.below L1.out (by omega)
    have y0 := r2'.cell 0
    have y1 := r2'.cell 1
    have y2 := r2'.cell 2
    have x1 := (A0.out.below L1.out (by omega)).cell 1
    clear r2'
    go_wp2_with fail
    refine (ifault r' c' a' lb cb ys _ (HB.out.below L1.out) hlb).mono ?_
    rintro e w2 ⟨rfl, hb2⟩
    have L2 := hid (L1.out.trans (hb2.mono L1.out.size))
    have R2 := hid (R0.out.below L2.out (by omega))
    have x1' := (A0.out.below L2.out (by omega)).cell 1
    have y0' := (B0.out.below L2.out (by omega)).cell 0
    clear hb2 y0 y1 y2 x1
    rcases mfault_01 r' c' ys with f2 | f2
    · rw [f2]
      have d0 : (c == r') = false := by
        have : ¬ c = r' := fun e => HNO.out ⟨G1.out, f2, e⟩
        simpa using this
      have d1 : (c != r') = true := by simp only [bne, d0]; rfl
      clear f2
      go_wp2_with (refine wpList_store_row rfl 28 (.tmp 4) (.tmp 20) rfl (w.heap.size + 1 + 1) #[.int .i64 1, .int .i64 0, .int .i64 0, .slice none 0 0] rfl rfl _ _ R2.out (by kernel_rfl) rfl (one4 _ _ _ _ _ _) ?_)
      refine bodyPost_ret (v := mrNone 1) ?_ rfl ⟨rfl, ?_⟩
      · exact results_cell_row Tryd.results9 _ _ (w.heap.size + 1 + 1) _ _ _ _ rfl (R2.out.setRow _) Tryd.underlying28 rfl (by kernel_rfl)
      · exact below_setRow (L0.out.trans (L2.out.mono (by omega))) _ _ (by omega)
    · rw [f2]
      clear f2
      go_wp2_with (refine wpList_store_row rfl 28 (.tmp 4) (.tmp 20) rfl (w.heap.size + 1 + 1) #[.int .i64 1, .int .i64 0, .int .i64 0, .slice none 0 0] rfl rfl _ _ R2.out (by kernel_rfl) rfl (one4 _ _ _ _ _ _) ?_)
      refine bodyPost_ret (v := mrNone 1) ?_ rfl ⟨rfl, ?_⟩
      · exact results_cell_row Tryd.results9 _ _ (w.heap.size + 1 + 1) _ _ _ _ rfl (R2.out.setRow _) Tryd.underlying28 rfl (by kernel_rfl)
      · exact below_setRow (L0.out.trans (L2.out.mono (by omega))) _ _ (by omega)
  · rw [f1]
    clear f1
    have R2 := hid (R0.out.below L1.out (by omega))
    go_wp2_with (refine wpList_store_row rfl 28 (.tmp 4) (.tmp 20) rfl (w.heap.size + 1 + 1) #[.int .i64 1, .int .i64 0, .int .i64 0, .slice none 0 0] rfl rfl _ _ R2.out (by kernel_rfl) rfl (one4 _ _ _ _ _ _) ?_)
    refine bodyPost_ret (v := mrNone 1) ?_ rfl ⟨rfl, ?_⟩
    · exact results_cell_row Tryd.results9 _ _ (w.heap.size + 1 + 1) _ _ _ _ rfl (R2.out.setRow _) Tryd.underlying28 rfl (by kernel_rfl)
    · exact below_setRow (L0.out.trans (L1.out.mono (by omega))) _ _ (by omega)
end Go.Proofs.YtlobnmcjnaibaajDoor
