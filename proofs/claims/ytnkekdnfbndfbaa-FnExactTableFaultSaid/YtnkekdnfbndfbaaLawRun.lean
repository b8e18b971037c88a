import Derived.Test.YtnkekdnfbndfbaaLawEn2
namespace Go.Proofs.Ytnkekdnfbndfbaa
open Go.RowKit
/-! A run: what the laws do with it. -/
theorem FRow.setRow9 {w : World} {b : Nat} {t : TypeId} {n : Nat} {f : Nat → Value} (h : FRow w b t n f) (c : Array Value) {g : Nat} (hn : b ≠ g) : FRow (w.setRow g c) b t n f := by
  obtain ⟨cs, h1, h2, h3⟩ := h; exact ⟨cs, h1.otherRow g c hn, h2, h3⟩
set_option maxRecDepth 20000 in
set_option maxHeartbeats 1000000 in
theorem szRn (a : Option Addr) (n cap : Nat) (o : Nat → En) (l : Nat) (hl : l ≤ 1048576) (hn : n ≤ 9223372036854775807) (hs : ∀ k, k < n → (o k).ky.size ≤ 9223372036854775807 ∧ (o k).tx.size ≤ 9223372036854775807) (w : World) (h : Ens w a n cap o) :
    Calls Try.prog 13 #[.agg #[.slice a n cap], .int .i64 l] w fun e w' => e = .returned (.int .i64 (if n + szEn o n ≤ l then ((l - n - szEn o n : Nat) : Int) else -1)) ∧ Below w.heap.size w w' := by
  have K := fun w h => hid (szEns a n cap o l hl hn hs w h)
  have B1 : Below w.heap.size w (w.alloc (.cells #[.slice a n cap] 39)) := (Below.refl _ _).alloc (Nat.le_refl _) _
  have H1 := hid (h.below B1)
  have r1 := (RowAt.new w 39 #[.slice a n cap]).cell 0
  have HB := hid B1
  obtain ⟨W1, hW1⟩ : ∃ W, W = w.alloc (.cells #[.slice a n cap] 39) := ⟨_, rfl⟩
  rw [← hW1] at H1 r1 HB
  clear h B1 hs
  by_cases hf : n + szEn o n ≤ l
  · rw [if_pos hf] at K ⊢
    obtain ⟨v, hv⟩ : ∃ v : Nat, v = l - n - szEn o n := ⟨_, rfl⟩
    rw [← hv] at K ⊢
    have d0 : ¬ (v : Int) < 0 := by omega
    clear hv hf
    go_enter Try.func13, Try.ntmps13
    go_upto_region 1 with fail
    rw [← hW1]
    clear hW1
    go_wp2_with fail
    refine (K _ H1.out).out.mono ?_
    rintro e w2 ⟨rfl, hb⟩
    have B2 := hid (HB.out.trans (hb.mono HB.out.size))
    clear hb
    go_wp2
    go_ret
    exact ⟨rfl, B2.out⟩
  · rw [if_neg hf] at K ⊢
    have d0 : (-1 : Int) < 0 := by omega
    go_enter Try.func13, Try.ntmps13
    go_upto_region 1 with fail
    rw [← hW1]
    clear hW1 hf
    go_wp2_with fail
    refine (K _ H1.out).out.mono ?_
    rintro e w2 ⟨rfl, hb⟩
    have B2 := hid (HB.out.trans (hb.mono HB.out.size))
    clear hb
    go_wp2
    go_ret
    exact ⟨rfl, B2.out⟩
set_option maxRecDepth 20000 in
set_option maxHeartbeats 1000000 in
theorem eqRn (a : Option Addr) (n cap : Nat) (a' : Option Addr) (cap' : Nat) (o : Nat → En) (hl : n ≤ 1048576) (w : World) (h : Ens w a n cap o) (h' : Ens w a' n cap' o) :
    Calls Try.prog 16 #[.agg #[.slice a n cap], .agg #[.slice a' n cap']] w fun e w' => e = .returned (.bool true) ∧ Below w.heap.size w w' := by
  obtain ⟨W2, hW2⟩ : ∃ W, W = (w.alloc (.cells #[.slice a n cap] 28)).alloc (.cells #[.slice a' n cap'] 28) := ⟨_, rfl⟩
  have B2 : Below w.heap.size w W2 := by rw [hW2]; exact balEn (balEn (Below.refl _ _) _) _
  have hJ : RowAt W2 w.heap.size 28 #[.slice a n cap] := by rw [hW2]; exact (RowAt.new _ _ _).alloc _
  have hF : RowAt W2 (w.heap.size + 1) 28 #[.slice a' n cap'] := by rw [hW2]; exact RowAt.next _ _ _ (by rw [size_al])
  have K := hid (eqEns a n cap a' cap' o hl W2 (h.below B2) (h'.below B2))
  have x0 := hJ.cell 0
  have y0 := hF.cell 0
  have HB := hid B2
  clear h h' hJ hF B2
  go_enter Try.func16, Try.ntmps16
  go_upto_region 1 with fail
  rw [← hW2]
  clear hW2
  go_wp2_with fail
  refine K.out.mono ?_
  rintro e w2 ⟨rfl, hb⟩
  have N2 := hid (HB.out.trans (hb.mono HB.out.size))
  clear hb
  go_wp2
  go_ret
  exact ⟨rfl, N2.out⟩
theorem oneRn (a : Option Addr) (n cap : Nat) : (#[.slice a n cap] : Array Value).all (·.oneCell') = true := by simp [Value.oneCell']
set_option maxRecDepth 20000 in
set_option maxHeartbeats 2000000 in
theorem toRn (a : Option Addr) (n cap : Nat) (o : Nat → En) (hl : n ≤ 1048576) (w : World) (h : Ens w a n cap o) :
    Calls Try.prog 15 #[.agg #[.slice a n cap]] w fun e w' => ∃ g, e = .returned (.agg #[.slice (some ⟨g, 0, none⟩) n n]) ∧ FRow w' g 34 (n * 4) (enF o) ∧ w.heap.size ≤ g ∧ Below w.heap.size w w' := by
  obtain ⟨W0, hW0⟩ : ∃ W, W = ((w.alloc (.cells #[.slice a n cap] 39)).alloc (.cells #[.slice none 0 0] 28)).alloc (.cells #[.slice none 0 0] 28) := ⟨_, rfl⟩
  have A0 : RowAt W0 w.heap.size 39 #[.slice a n cap] := by rw [hW0]; exact ((RowAt.new _ _ _).alloc _).alloc _
  have R0 : Hid (RowAt W0 (w.heap.size + 1) 28 #[.slice none 0 0]) := by rw [hW0]; exact (RowAt.next _ _ _ (by rw [size_al])).alloc _
  have O0 : Hid (RowAt W0 (w.heap.size + 1 + 1) 28 #[.slice none 0 0]) := by rw [hW0]; exact RowAt.next _ _ _ (by simp only [size_al])
  have B0 : Hid (Below w.heap.size w W0) := by rw [hW0]; exact balEn (balEn (balEn (Below.refl _ _) _) _) _
  have S0 : Hid (W0.heap.size = w.heap.size + 1 + 1 + 1) := by show _ = _; rw [hW0]; simp only [size_al]
  have K := hid (toEns a n cap o hl W0 (h.below B0.out))
  have a0 := A0.cell 0
  clear h A0
  go_enter Try.func15, Try.ntmps15
  go_upto_region 2 with fail
  rw [← hW0]
  clear hW0
  go_wp2_with fail
  refine K.out.mono ?_
  rintro e w1 ⟨rfl, hF1, hb1⟩
  have R1 := hid (R0.out.below hb1 R0.out.lt)
  have O1 := hid (O0.out.below hb1 O0.out.lt)
  have B1 := hid (B0.out.trans (hb1.mono B0.out.size))
  have F1 := hid hF1
  clear hF1 hb1 K a0
  have o0 : w1.cell? ⟨w.heap.size + 1 + 1, 0, none⟩ = some (.slice none 0 0) := O1.out.cell 0
  have f0 := O1.out.free 0
  obtain ⟨V, hV⟩ : ∃ V : Value, V = .slice (some ⟨W0.heap.size, 0, none⟩) n n := ⟨_, rfl⟩
  obtain ⟨W2, hW2⟩ : ∃ W, W = w1.setCell ⟨w.heap.size + 1 + 1, 0, none⟩ (.slice (some ⟨W0.heap.size, 0, none⟩) n n) := ⟨_, rfl⟩
  have R2 : Hid (RowAt W2 (w.heap.size + 1) 28 #[.slice none 0 0]) := by rw [hW2]; exact R1.out.other _ _ (by simp)
  have o2 : W2.cell? ⟨w.heap.size + 1 + 1, 0, none⟩ = some (.slice (some ⟨W0.heap.size, 0, none⟩) n n) := by rw [hW2]; exact (O1.out.set 0 _).cell 0
  have B2 : Hid (Below w.heap.size w W2) := by rw [hW2]; exact B1.out.setCell (by simp; omega) _
  have F2 : Hid (FRow W2 W0.heap.size 34 (n * 4) (enF o)) := by rw [hW2]; exact F1.out.other _ _ (by have := S0.out; simp; omega)
  have HW2 := hid hW2
  clear hW2 hV
  go_upto_region 3 with fail
  rw [← HW2.out]
  clear o0 f0
  go_wp2_with (refine wpList_store_row rfl 28 (.tmp 2) (.tmp 8) rfl (w.heap.size + 1) #[.slice (some ⟨W0.heap.size, 0, none⟩) n n] rfl rfl _ _ R2.out (by kernel_rfl) rfl (oneRn _ _ _) ?_)
  refine bodyPost_ret (v := .agg #[.slice (some ⟨W0.heap.size, 0, none⟩) n n]) ?_ rfl ⟨W0.heap.size, rfl, F2.out.setRow9 _ (by have := S0.out; omega), by have := S0.out; omega, below_setRow B2.out _ _ (by omega)⟩
  exact results_cell_row Try.results15 _ _ (w.heap.size + 1) _ _ _ _ rfl (R2.out.setRow _) Try.underlying28 rfl (by kernel_rfl)
end Go.Proofs.Ytnkekdnfbndfbaa
