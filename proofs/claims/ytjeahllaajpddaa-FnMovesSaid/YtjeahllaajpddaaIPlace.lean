import Derived.Test.YtjeahllaajpddaaIFirstD
namespace Go.Proofs.Ytjeahllaajpddaa
open Go.RowKit
/-! The program's PlaceKey, walked. -/
set_option maxRecDepth 20000 in
set_option maxHeartbeats 2000000 in
theorem iplace_no (a : Option Addr) (n cap : Nat) (x y : Nat → Int) (hl : n ≤ 1048576) (key : ByteArray) (hk : key.size ≤ 1048576) (m : Int) (hno : ¬ (NdOk n x y ∧ 1 ≤ m ∧ m ≤ 64 ∧ key.size ≤ 1000)) (w : World) (h : Prs w a n cap x y) :
    Calls Try.prog 15 #[.slice a n cap, .string key, .int .i64 m] w fun e w' => e = .returned (plv 1 none 0 0) ∧ Below w.heap.size w w' := by
  obtain ⟨W, hW⟩ : ∃ W, W = w.alloc (.cells #[.int .i64 0, .slice none 0 0] 34) := ⟨_, rfl⟩
  have R1 : Hid (RowAt W w.heap.size 34 #[.int .i64 0, .slice none 0 0]) := by rw [hW]; exact RowAt.new _ _ _
  have B1 : Hid (Below w.heap.size w W) := by rw [hW]; exact balN (Below.refl _ _) _
  have NF := hid (iNodes a n cap x y hl W (h.below B1.out))
  have HW := hid hW
  clear hW h
  by_cases hok : NdOk n x y
  · have F : Hid (ndF n x y = 0) := if_pos hok
    rw [F.out] at NF
    by_cases g0 : m < 1
    · have q0 : decide (m < 1) = true := by simp; omega
      go_enter Try.func15, Try.ntmps15
      go_wp2_with fail
      rw [show w.alloc (.cells #[.int .i64 0, .slice none 0 0] 34) = W from HW.out.symm]
      refine NF.out.mono ?_
      rintro e w1 ⟨rfl, hb1⟩
      have R2 := hid (R1.out.below hb1 R1.out.lt)
      have B2 : Hid (Below w.heap.size w w1) := B1.out.trans (hb1.mono B1.out.size)
      clear hb1
      go_wp2_with (refine wpList_store_row rfl 34 (.tmp 6) (.tmp 24) rfl w.heap.size #[.int .i64 1, .slice none 0 0] rfl rfl _ _ R2.out (by kernel_rfl) rfl (onePl _ _ _ _) ?_)
      refine bodyPost_ret (v := plv 1 none 0 0) ?_ rfl ⟨rfl, below_setRow B2.out _ _ (Nat.le_refl _)⟩
      exact results_cell_row Try.results15 _ _ w.heap.size _ _ _ _ rfl (R2.out.setRow _) Try.underlying34 rfl (by kernel_rfl)
    have q0 : decide (m < 1) = false := by simp; omega
    by_cases g1 : 64 < m
    · have q1 : decide (64 < m) = true := by simp; omega
      go_enter Try.func15, Try.ntmps15
      go_wp2_with fail
      rw [show w.alloc (.cells #[.int .i64 0, .slice none 0 0] 34) = W from HW.out.symm]
      refine NF.out.mono ?_
      rintro e w1 ⟨rfl, hb1⟩
      have R2 := hid (R1.out.below hb1 R1.out.lt)
      have B2 : Hid (Below w.heap.size w w1) := B1.out.trans (hb1.mono B1.out.size)
      clear hb1
      go_wp2_with (refine wpList_store_row rfl 34 (.tmp 6) (.tmp 24) rfl w.heap.size #[.int .i64 1, .slice none 0 0] rfl rfl _ _ R2.out (by kernel_rfl) rfl (onePl _ _ _ _) ?_)
      refine bodyPost_ret (v := plv 1 none 0 0) ?_ rfl ⟨rfl, below_setRow B2.out _ _ (Nat.le_refl _)⟩
      exact results_cell_row Try.results15 _ _ w.heap.size _ _ _ _ rfl (R2.out.setRow _) Try.underlying34 rfl (by kernel_rfl)
    have q1 : decide (64 < m) = false := by simp; omega
    have g2 : 1000 < key.size := by
      rcases Nat.lt_or_ge 1000 key.size with q | q
      · exact q
      · exact absurd ⟨hok, by omega, by omega, q⟩ hno
    have q2 : decide ((1000 : Int) < ((key.size : Nat) : Int)) = true := by simp; omega
    go_enter Try.func15, Try.ntmps15
    go_wp2_with fail
    rw [show w.alloc (.cells #[.int .i64 0, .slice none 0 0] 34) = W from HW.out.symm]
    refine NF.out.mono ?_
    rintro e w1 ⟨rfl, hb1⟩
    have R2 := hid (R1.out.below hb1 R1.out.lt)
    have B2 : Hid (Below w.heap.size w w1) := B1.out.trans (hb1.mono B1.out.size)
    clear hb1
    go_wp2_with (refine wpList_store_row rfl 34 (.tmp 6) (.tmp 24) rfl w.heap.size #[.int .i64 1, .slice none 0 0] rfl rfl _ _ R2.out (by kernel_rfl) rfl (onePl _ _ _ _) ?_)
    refine bodyPost_ret (v := plv 1 none 0 0) ?_ rfl ⟨rfl, below_setRow B2.out _ _ (Nat.le_refl _)⟩
    exact results_cell_row Try.results15 _ _ w.heap.size _ _ _ _ rfl (R2.out.setRow _) Try.underlying34 rfl (by kernel_rfl)
  · have F : Hid (ndF n x y = 1) := if_neg hok
    rw [F.out] at NF
    go_enter Try.func15, Try.ntmps15
    go_wp2_with fail
    rw [show w.alloc (.cells #[.int .i64 0, .slice none 0 0] 34) = W from HW.out.symm]
    refine NF.out.mono ?_
    rintro e w1 ⟨rfl, hb1⟩
    have R2 := hid (R1.out.below hb1 R1.out.lt)
    have B2 : Hid (Below w.heap.size w w1) := B1.out.trans (hb1.mono B1.out.size)
    clear hb1
    go_wp2_with (refine wpList_store_row rfl 34 (.tmp 6) (.tmp 24) rfl w.heap.size #[.int .i64 1, .slice none 0 0] rfl rfl _ _ R2.out (by kernel_rfl) rfl (onePl _ _ _ _) ?_)
    refine bodyPost_ret (v := plv 1 none 0 0) ?_ rfl ⟨rfl, below_setRow B2.out _ _ (Nat.le_refl _)⟩
    exact results_cell_row Try.results15 _ _ w.heap.size _ _ _ _ rfl (R2.out.setRow _) Try.underlying34 rfl (by kernel_rfl)
set_option maxRecDepth 20000 in
set_option maxHeartbeats 2000000 in
theorem iplace_ok (a : Option Addr) (n cap : Nat) (x y : Nat → Int) (key : ByteArray) (m : Nat) (hok : NdOk n x y) (hm1 : 1 ≤ m) (hm2 : m ≤ 64) (hk : key.size ≤ 1000) (w : World) (h : Prs w a n cap x y) :
    Calls Try.prog 15 #[.slice a n cap, .string key, .int .i64 (m : Int)] w fun e w' =>
      ((gr x (scN key n x y) n m = none ∧ e = .returned (plv 7 none 0 0)) ∨ ∃ l a' c, gr x (scN key n x y) n m = some l ∧ e = .returned (plv 0 a' m c) ∧ OwnNums w' (w.heap.size + 1) 2 .i64 (.slice a' m c) (l.map fun i => ((i : Nat) : Int))) ∧ Below w.heap.size w w' := by
  have hn2 := hok.2.1
  obtain ⟨W, hW⟩ : ∃ W, W = w.alloc (.cells #[.int .i64 0, .slice none 0 0] 34) := ⟨_, rfl⟩
  have R1 : Hid (RowAt W w.heap.size 34 #[.int .i64 0, .slice none 0 0]) := by rw [hW]; exact RowAt.new _ _ _
  have B1 : Hid (Below w.heap.size w W) := by rw [hW]; exact balN (Below.refl _ _) _
  have S1 : W.heap.size = w.heap.size + 1 := by rw [hW]; simp
  have HP1 := hid (h.below B1.out)
  have NF := hid (iNodes a n cap x y (by omega) W HP1.out)
  have HW := hid hW
  have HOK := hid hok
  have F : Hid (ndF n x y = 0) := if_pos hok
  rw [F.out] at NF
  clear hW h hok
  have q0 : decide ((m : Int) < 1) = false := by simp; omega
  have q1 : decide (64 < (m : Int)) = false := by simp; omega
  have q2 : decide ((1000 : Int) < ((key.size : Nat) : Int)) = false := by simp; omega
  go_enter Try.func15, Try.ntmps15
  go_wp2_with fail
  rw [show w.alloc (.cells #[.int .i64 0, .slice none 0 0] 34) = W from HW.out.symm]
  refine NF.out.mono ?_
  rintro e w1 ⟨rfl, hb1⟩
  have C1 := hid hb1
  have HP2 := hid (HP1.out.below hb1)
  clear hb1
  go_wp2_with fail
  refine (iRing a n cap x y key HOK.out hk _ HP2.out).mono ?_
  rintro e w2 ⟨L, v, rfl, hO2, hR2, hL2, hb2⟩
  obtain ⟨va, vc, rfl⟩ := own_slice hO2
  have C2 : Hid (Below W.heap.size W w2) := C1.out.trans (hb2.mono C1.out.size)
  have O2 := hid hO2
  have HR := hid hR2
  clear hO2 hR2 hb2
  go_wp2_with fail
  refine (iFirstD _ n m x (scN key n x y) L _ hn2 (fun i hi => ⟨(HOK.out.2.2 i hi).1, (HOK.out.2.2 i hi).2.1⟩) ⟨hm1, hm2⟩ HR.out hL2 _ O2.out).mono ?_
  rintro e w3 ⟨D, v', rfl, hO3, hg3, hD3, hE3, hb3⟩
  obtain ⟨da, dc, rfl⟩ := own_slice hO3
  rw [List.length_map] at hO3
  have C3 : Hid (Below W.heap.size W w3) := C2.out.trans (hb3.mono C2.out.size)
  have R3 := hid (R1.out.below C3.out (by omega))
  have B3 : Hid (Below w.heap.size w w3) := B1.out.trans (C3.out.mono (by omega))
  have O3 : Hid (OwnNums w3 (w.heap.size + 1) 2 .i64 (.slice da D.length dc) (D.map fun i => ((i : Nat) : Int))) := own_mono hO3 (by rw [← S1]; exact C2.out.size)
  have G3 := hid hg3
  have E3 := hid hE3
  clear hO3 hg3 hE3 hb3
  rw [List.length_map]
  by_cases hDm : D.length < m
  · have d1 : ((D.length : Nat) : Int) < (m : Int) := by omega
    have N3 : Hid (gr x (scN key n x y) n m = none) := by
      have := gr_none x (scN key n x y) n (D.length + 1) (m - (D.length + 1)) (E3.out hDm)
      rwa [show D.length + 1 + (m - (D.length + 1)) = m by omega] at this
    go_wp2_with (refine wpList_store_row rfl 34 (.tmp 6) (.tmp 34) rfl w.heap.size #[.int .i64 7, .slice none 0 0] rfl rfl _ _ R3.out (by kernel_rfl) rfl (onePl _ _ _ _) ?_)
    refine bodyPost_ret (v := plv 7 none 0 0) ?_ rfl ⟨Or.inl ⟨N3.out, rfl⟩, below_setRow B3.out _ _ (Nat.le_refl _)⟩
    exact results_cell_row Try.results15 _ _ w.heap.size _ _ _ _ rfl (R3.out.setRow _) Try.underlying34 rfl (by kernel_rfl)
  · have d1 : ¬ ((D.length : Nat) : Int) < (m : Int) := by omega
    have hDe : D.length = m := by omega
    rw [hDe] at G3 O3
    have OF : Hid (OwnNums (w3.setRow w.heap.size #[.int .i64 0, .slice da m dc]) (w.heap.size + 1) 2 .i64 (.slice da m dc) (D.map fun i => ((i : Nat) : Int))) := World.ownsRow.kept O3.out (setRow_grown _ _ _) (.inr fun e => by have := (World.ownsRow.lt O3.out _ e).1; omega)
    subst hDe
    go_wp2_with (refine wpList_store_row rfl 34 (.tmp 6) (.tmp 36) rfl w.heap.size #[.int .i64 0, .slice da D.length dc] rfl rfl _ _ R3.out (by kernel_rfl) rfl (onePl _ _ _ _) ?_)
    refine bodyPost_ret (v := plv 0 da D.length dc) ?_ rfl ⟨Or.inr ⟨D, da, dc, G3.out, rfl, OF.out⟩, below_setRow B3.out _ _ (Nat.le_refl _)⟩
    exact results_cell_row Try.results15 _ _ w.heap.size _ _ _ _ rfl (R3.out.setRow _) Try.underlying34 rfl (by kernel_rfl)
end Go.Proofs.Ytjeahllaajpddaa
