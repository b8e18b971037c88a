import Derived.Test.YtokjfffcciddhaaGreatDoorClF
import Derived.Deep.SlicePairs
import Derived.Lib.SmallJoins
namespace Go.Proofs.YtokjfffcciddhaaGreatDoor
open Go.RowKit
set_option linter.unusedVariables false
/-! The laws' own on a ClusterConfig. -/
theorem oneCc (v : Value) (hv : v.oneCell' = true) (k m g u : Int) : (#[v, .int .i64 k, .int .i64 m, .int .i64 g, .int .i64 u] : Array Value).all (·.oneCell') = true := by simp [Value.oneCell'] at hv ⊢; exact hv
set_option maxRecDepth 20000 in
set_option maxHeartbeats 1000000 in
theorem szCc (a : Option Addr) (n cap : Nat) (k m g u : Int) (hl : n ≤ 9223372036854775807) (w : World) :
    Calls Tryz.prog 9 #[ccv a n cap k m g u, .int .i64 1048576] w fun e w' => e = .returned (.int .i64 (if n ≤ 1048576 then 1048576 - (n : Int) else -1)) ∧ Below w.heap.size w w' := by
  have K := fun w => hid (szNd a n cap hl w)
  unfold ccv
  by_cases h : n ≤ 1048576
  · have d0 : ¬ (1048576 : Int) - (n : Int) < 0 := by omega
    simp only [if_pos h] at K ⊢
    go_enter Tryz.func9, Tryz.ntmps9
    go_wp2_with fail
    refine (K _).out.mono ?_
    rintro e w1 ⟨rfl, hw⟩
    obtain rfl := hw.symm
    clear hw
    go_wp2
    go_ret
    exact ⟨rfl, (Below.refl _ _).alloc (Nat.le_refl _) _⟩
  · simp only [if_neg h] at K ⊢
    go_enter Tryz.func9, Tryz.ntmps9
    go_wp2_with fail
    refine (K _).out.mono ?_
    rintro e w1 ⟨rfl, hw⟩
    obtain rfl := hw.symm
    clear hw
    go_wp2
    go_ret
    exact ⟨rfl, (Below.refl _ _).alloc (Nat.le_refl _) _⟩
set_option maxRecDepth 20000 in
set_option maxHeartbeats 4000000 in
theorem toCc (a : Option Addr) (n cap : Nat) (x y : Nat → Int) (k m g u : Int) (hl : n ≤ 1048576) (w : World) (h : Prs w a n cap x y) :
    Calls Tryz.prog 16 #[ccv a n cap k m g u] w fun e w' => ∃ b, e = .returned (ccv (some ⟨b, 0, none⟩) n n k m g u) ∧ FRow w' b 109 (n * 2) (prF x y) ∧ w.heap.size ≤ b ∧ Below w.heap.size w w' := by
  obtain ⟨X, hX⟩ : ∃ X, X = w.heap.size := ⟨_, rfl⟩
  obtain ⟨W1, hW1⟩ : ∃ W, W = ((w.alloc (.cells #[.slice a n cap, .int .i64 k, .int .i64 m, .int .i64 g, .int .i64 u] 26)).alloc (.cells #[.slice none 0 0, .int .i64 0, .int .i64 0, .int .i64 0, .int .i64 0] 39)).alloc (.cells #[.slice none 0 0, .int .i64 0, .int .i64 0, .int .i64 0, .int .i64 0] 39) := ⟨_, rfl⟩
  have A1 : Hid (RowAt W1 X 26 #[.slice a n cap, .int .i64 k, .int .i64 m, .int .i64 g, .int .i64 u]) := by rw [hW1, hX]; exact ((RowAt.new _ _ _).alloc _).alloc _
  have R1 : Hid (RowAt W1 (X + 1) 39 #[.slice none 0 0, .int .i64 0, .int .i64 0, .int .i64 0, .int .i64 0]) := by rw [hW1, hX]; exact (RowAt.next _ _ _ (by rw [size_al])).alloc _
  have O1 : Hid (RowAt W1 (X + 1 + 1) 39 #[.slice none 0 0, .int .i64 0, .int .i64 0, .int .i64 0, .int .i64 0]) := by rw [hW1, hX]; exact RowAt.next _ _ _ (by simp only [size_al])
  have B1 : Hid (Below X w W1) := by rw [hW1, hX]; exact balN (balN (balN (Below.refl _ _) _) _) _
  have z1 : Hid (W1.heap.size = X + 3) := by rw [hW1, hX]; show _ = _; simp only [size_al]
  have P1 : Hid (Prs W1 a n cap x y) := h.below (by rw [← hX]; exact B1.out)
  have KN := hid (toNds a n cap x y hl W1 P1.out)
  have a0 := A1.out.cell 0
  have HX := hid hX
  have HW1 := hid hW1
  unfold ccv
  rw [← hX]
  clear hX hW1 h P1
  go_enter Tryz.func16, Tryz.ntmps16
  go_upto_region 2 with fail
  rw [← HW1.out, ← HX.out]
  clear HW1
  go_wp2_with fail
  refine KN.out.mono ?_
  rintro e w2 ⟨rfl, hF2, hb2⟩
  obtain ⟨b, hb⟩ : ∃ b, b = W1.heap.size := ⟨_, rfl⟩
  rw [← hb] at hF2 ⊢
  have hbX : Hid (b = X + 3) := by rw [hb]; exact z1.out
  have hbl : X + 2 < b := by have := hbX.out; omega
  have F2 := hid hF2
  have A2 := hid (A1.out.below hb2 A1.out.lt)
  have R2 := hid (R1.out.below hb2 R1.out.lt)
  have O2 := hid (O1.out.below hb2 O1.out.lt)
  have B2 := hid (B1.out.trans (hb2.mono (by have := z1.out; omega)))
  have o0 := O2.out.cell 0
  have f0 := O2.out.free 0
  obtain ⟨W3, hW3⟩ : ∃ W, W = w2.setCell ⟨X + 1 + 1, 0, none⟩ (.slice (some ⟨b, 0, none⟩) n n) := ⟨_, rfl⟩
  have A3 : Hid (RowAt W3 X 26 #[.slice a n cap, .int .i64 k, .int .i64 m, .int .i64 g, .int .i64 u]) := by rw [hW3]; exact A2.out.other _ _ (by simp; omega)
  have R3 : Hid (RowAt W3 (X + 1) 39 #[.slice none 0 0, .int .i64 0, .int .i64 0, .int .i64 0, .int .i64 0]) := by rw [hW3]; exact R2.out.other _ _ (by simp)
  have O3 : Hid (RowAt W3 (X + 1 + 1) 39 #[.slice (some ⟨b, 0, none⟩) n n, .int .i64 0, .int .i64 0, .int .i64 0, .int .i64 0]) := by rw [hW3]; exact O2.out.set 0 _
  have F3 : Hid (FRow W3 b 109 (n * 2) (prF x y)) := by rw [hW3]; exact F2.out.other _ _ (by simp; omega)
  have B3 : Hid (Below X w W3) := by rw [hW3]; exact B2.out.setCell (by simp; omega) _
  have a1 := A3.out.cell 1
  have a2 := A3.out.cell 2
  have a3 := A3.out.cell 3
  have HW3 := hid hW3
  have hX3 : Hid (X ≤ W3.heap.size) := by have := A3.out.lt; exact Nat.le_of_lt this
  clear hW3 hb hF2 hb2 a0 KN A1 R1 O1 B1 A2 R2 O2 B2 F2
  have KC := hid (toCd k m g W3)
  go_upto_region 3 with fail
  rw [← HW3.out]
  clear HW3 o0 f0
  go_wp2_with fail
  refine KC.out.mono ?_
  rintro e w4 ⟨rfl, hb4⟩
  have A4 := hid (A3.out.below hb4 A3.out.lt)
  have R4 := hid (R3.out.below hb4 R3.out.lt)
  have O4 := hid (O3.out.below hb4 O3.out.lt)
  have F4 := hid (F3.out.below hb4 F3.out.lt)
  have B4 := hid (B3.out.trans (hb4.mono hX3.out))
  have a4 := A4.out.cell 4
  have o1 := O4.out.cell 1
  have o2 := O4.out.cell 2
  have o3 := O4.out.cell 3
  have o4 := O4.out.cell 4
  have f1 := O4.out.free 1
  have f2 := O4.out.free 2
  have f3 := O4.out.free 3
  have f4 := O4.out.free 4
  obtain ⟨W5, hW5⟩ : ∃ W, W = ((w4.setCell ⟨X + 1 + 1, 1, none⟩ (.int .i64 k)).setCell ⟨X + 1 + 1, 2, none⟩ (.int .i64 m)).setCell ⟨X + 1 + 1, 3, none⟩ (.int .i64 g) := ⟨_, rfl⟩
  have A5 : Hid (RowAt W5 X 26 #[.slice a n cap, .int .i64 k, .int .i64 m, .int .i64 g, .int .i64 u]) := by rw [hW5]; exact ((A4.out.other _ _ (by simp; omega)).other _ _ (by simp; omega)).other _ _ (by simp; omega)
  have R5 : Hid (RowAt W5 (X + 1) 39 #[.slice none 0 0, .int .i64 0, .int .i64 0, .int .i64 0, .int .i64 0]) := by rw [hW5]; exact ((R4.out.other _ _ (by simp)).other _ _ (by simp)).other _ _ (by simp)
  have O5 : Hid (RowAt W5 (X + 1 + 1) 39 #[.slice (some ⟨b, 0, none⟩) n n, .int .i64 k, .int .i64 m, .int .i64 g, .int .i64 0]) := by rw [hW5]; exact ((O4.out.set 1 _).set 2 _).set 3 _
  have F5 : Hid (FRow W5 b 109 (n * 2) (prF x y)) := by rw [hW5]; exact ((F4.out.other _ _ (by simp; omega)).other _ _ (by simp; omega)).other _ _ (by simp; omega)
  have B5 : Hid (Below X w W5) := by rw [hW5]; exact ((B4.out.setCell (by simp; omega) _).setCell (by simp; omega) _).setCell (by simp; omega) _
  have HW5 := hid hW5
  clear hW5 hb4 KC a1 a2 a3 A3 R3 O3 F3 B3
  go_upto_region 4 with fail
  rw [← HW5.out]
  clear HW5 o1 o2 o3 o4 f1 f2 f3 f4 a4 A4 R4 O4 F4 B4
  have a4 := A5.out.cell 4
  have o4 := O5.out.cell 4
  have f4 := O5.out.free 4
  obtain ⟨W6, hW6⟩ : ∃ W, W = W5.setCell ⟨X + 1 + 1, 4, none⟩ (.int .i64 u) := ⟨_, rfl⟩
  have R6 : Hid (RowAt W6 (X + 1) 39 #[.slice none 0 0, .int .i64 0, .int .i64 0, .int .i64 0, .int .i64 0]) := by rw [hW6]; exact R5.out.other _ _ (by simp)
  have O6 : Hid (RowAt W6 (X + 1 + 1) 39 #[.slice (some ⟨b, 0, none⟩) n n, .int .i64 k, .int .i64 m, .int .i64 g, .int .i64 u]) := by rw [hW6]; exact O5.out.set 4 _
  have F6 : Hid (FRow W6 b 109 (n * 2) (prF x y)) := by rw [hW6]; exact F5.out.other _ _ (by simp; omega)
  have B6 : Hid (Below X w W6) := by rw [hW6]; exact B5.out.setCell (by simp; omega) _
  have HW6 := hid hW6
  clear hW6 A5 R5 O5 F5 B5
  go_upto_region 5 with fail
  rw [← HW6.out]
  clear HW6 a4 o4 f4
  have q0 := O6.out.cell 0
  have q1 := O6.out.cell 1
  have q2 := O6.out.cell 2
  have q3 := O6.out.cell 3
  have q4 := O6.out.cell 4
  go_wp2_with (refine wpList_store_row rfl 39 (.tmp 2) (.tmp 15) rfl (X + 1) #[.slice (some ⟨b, 0, none⟩) n n, .int .i64 k, .int .i64 m, .int .i64 g, .int .i64 u] rfl rfl _ _ R6.out (by kernel_rfl) rfl (oneCc _ rfl _ _ _ _) ?_)
  refine bodyPost_ret (v := .agg #[.slice (some ⟨b, 0, none⟩) n n, .int .i64 k, .int .i64 m, .int .i64 g, .int .i64 u]) ?_ rfl ⟨b, rfl, ?_, by omega, below_setRow B6.out _ _ (by omega)⟩
  · exact results_cell_row Tryz.results16 _ _ (X + 1) _ _ _ _ rfl (R6.out.setRow _) Tryz.underlying39 rfl (by kernel_rfl)
  · obtain ⟨cs, h1, h2, h3⟩ := F6.out
    exact ⟨cs, h1.otherRow _ _ (by omega), h2, h3⟩
set_option maxRecDepth 20000 in
set_option maxHeartbeats 1000000 in
theorem eqCd (k m g : Int) (w : World) :
    Calls Tryz.prog 51 #[cdv k m g, cdv k m g] w fun e w' => e = .returned (.bool true) ∧ Below w.heap.size w w' := by
  have d0 : (k != k) = false := by simp
  have d1 : (m != m) = false := by simp
  have d2 : (g != g) = false := by simp
  unfold cdv
  go_enter Tryz.func51, Tryz.ntmps51
  go_wp2
  go_ret
  exact ⟨rfl, balN (balN (Below.refl _ _) _) _⟩
set_option maxRecDepth 20000 in
set_option maxHeartbeats 2000000 in
theorem eqCc (a a' : Option Addr) (n cap cap' : Nat) (x y : Nat → Int) (k m g u : Int) (hl : n ≤ 1048576) (w : World) (h : Prs w a n cap x y) (h' : Prs w a' n cap' x y) :
    Calls Tryz.prog 24 #[ccv a n cap k m g u, ccv a' n cap' k m g u] w fun e w' => e = .returned (.bool true) ∧ Below w.heap.size w w' := by
  obtain ⟨X, hX⟩ : ∃ X, X = w.heap.size := ⟨_, rfl⟩
  obtain ⟨W1, hW1⟩ : ∃ W, W = (w.alloc (.cells #[.slice a n cap, .int .i64 k, .int .i64 m, .int .i64 g, .int .i64 u] 39)).alloc (.cells #[.slice a' n cap', .int .i64 k, .int .i64 m, .int .i64 g, .int .i64 u] 39) := ⟨_, rfl⟩
  have A1 : Hid (RowAt W1 X 39 #[.slice a n cap, .int .i64 k, .int .i64 m, .int .i64 g, .int .i64 u]) := by rw [hW1, hX]; exact (RowAt.new _ _ _).alloc _
  have R1 : Hid (RowAt W1 (X + 1) 39 #[.slice a' n cap', .int .i64 k, .int .i64 m, .int .i64 g, .int .i64 u]) := by rw [hW1, hX]; exact RowAt.next _ _ _ (by simp only [size_al])
  have B1 : Hid (Below X w W1) := by rw [hW1, hX]; exact balN (balN (Below.refl _ _) _) _
  have P1 : Hid (Prs W1 a n cap x y) := h.below (by rw [← hX]; exact B1.out)
  have P2 : Hid (Prs W1 a' n cap' x y) := h'.below (by rw [← hX]; exact B1.out)
  have KN := hid (eqNds a n cap a' cap' x y hl W1 P1.out P2.out)
  have a0 := A1.out.cell 0
  have r0 := R1.out.cell 0
  have d3 : (u != u) = false := by simp
  have HX := hid hX
  have HW1 := hid hW1
  unfold ccv
  rw [← hX]
  clear hX hW1 h h' P1 P2
  go_enter Tryz.func24, Tryz.ntmps24
  go_upto_region 1 with fail
  rw [← HW1.out, ← HX.out]
  clear HW1
  go_wp2_with fail
  refine KN.out.mono ?_
  rintro e w2 ⟨rfl, hb2⟩
  have A2 := hid (A1.out.below hb2 A1.out.lt)
  have R2 := hid (R1.out.below hb2 R1.out.lt)
  have B2 := hid (B1.out.trans (hb2.mono (Nat.le_of_lt A1.out.lt)))
  have a1 := A2.out.cell 1
  have a2 := A2.out.cell 2
  have a3 := A2.out.cell 3
  have r1 := R2.out.cell 1
  have r2 := R2.out.cell 2
  have r3 := R2.out.cell 3
  have KC := hid (eqCd k m g w2)
  unfold cdv cda at KC
  clear hb2 KN a0 r0 A1 R1 B1
  go_wp2_with fail
  refine KC.out.mono ?_
  rintro e w3 ⟨rfl, hb3⟩
  have a4 := (A2.out.below hb3 A2.out.lt).cell 4
  have r4 := (R2.out.below hb3 R2.out.lt).cell 4
  have B3 := hid (B2.out.trans (hb3.mono (Nat.le_of_lt A2.out.lt)))
  clear hb3 KC a1 a2 a3 r1 r2 r3 A2 R2 B2
  go_wp2
  go_ret
  exact ⟨rfl, B3.out⟩
end Go.Proofs.YtokjfffcciddhaaGreatDoor
