import Derived.Test.YtokjfffcciddhaaGreatDoorCodeF
import Derived.Test.YtokjfffcciddhaaGreatDoorQO
namespace Go.Proofs.YtokjfffcciddhaaGreatDoor
open Go.RowKit
set_option linter.unusedVariables false
/-! ClusterFault (by genclf.py). -/
def clF (n : Nat) (x y : Nat → Int) (k m g u : Int) : Int := if ndF n x y = 0 ∧ cfault k m g = 0 ∧ 1 ≤ u ∧ u ≤ 4096 then 0 else 1
def ccv (a : Option Addr) (n cap : Nat) (k m g u : Int) : Value := .agg #[.slice a n cap, .int .i64 k, .int .i64 m, .int .i64 g, .int .i64 u]

set_option maxRecDepth 20000 in
set_option maxHeartbeats 2000000 in
theorem sClF (a : Option Addr) (n cap : Nat) (x y : Nat → Int) (k m g u : Int) (hl : n ≤ 1048576) (w : World) (h : Prs w a n cap x y) :
    Calls Tryz.prog 12 #[ccv a n cap k m g u] w fun e w' => e = .returned (.int .i64 (clF n x y k m g u)) ∧ Below w.heap.size w w' := by
  obtain ⟨F, hF⟩ : ∃ F, F = clF n x y k m g u := ⟨_, rfl⟩
  rw [← hF]
  have HF := hid hF
  obtain ⟨A, hA⟩ : ∃ A, A = ndF n x y := ⟨_, rfl⟩
  obtain ⟨C, hC⟩ : ∃ C, C = cfault k m g := ⟨_, rfl⟩
  have KN := fun w h => hid (sNodes a n cap x y hl w h)
  have KC := fun w => hid (sCfault k m g w)
  rw [← hA] at KN
  rw [← hC] at KC
  have HA := hid hA
  have HC := hid hC
  have HH := hid h
  unfold ccv
  clear hF hA hC h
  by_cases q1 : A = 0
  · have d1 : (A != 0) = false := by rw [q1]; rfl
    by_cases q2 : C = 0
    · have d2 : (C != 0) = false := by rw [q2]; rfl
      by_cases q3 : u < 1
      · have d3 : decide (u < 1) = true := decide_eq_true q3
        have E : Hid (F = 1) := hid (by rw [HF.out]; unfold clF; rw [← HA.out, ← HC.out]; exact if_neg (fun q => by obtain ⟨z1, z2, z3, z4⟩ := q; first | exact q1 z1 | exact q2 z2 | omega))
        rw [E.out]
        go_enter Tryz.func12, Tryz.ntmps12
        go_wp2_with fail
        refine (KN _ (HH.out.below ((Below.refl _ _).alloc (Nat.le_refl _) _))).out.mono ?_
        rintro e w1 ⟨rfl, hw⟩
        obtain rfl := hw.symm
        clear hw
        have B1 : Hid (Below w.heap.size w (w.alloc (.cells #[.slice a n cap, .int .i64 k, .int .i64 m, .int .i64 g, .int .i64 u] 39))) := (Below.refl _ _).alloc (Nat.le_refl _) _
        go_wp2_with fail
        refine (KC _).out.mono ?_
        rintro e w2 ⟨rfl, hw2⟩
        have B2 : Hid (Below w.heap.size w w2) := by rw [hw2]; exact B1.out.alloc B1.out.size _
        have R2 : RowAt w2 w.heap.size 39 #[.slice a n cap, .int .i64 k, .int .i64 m, .int .i64 g, .int .i64 u] := by rw [hw2]; exact (RowAt.new w _ _).alloc _
        have c4 := R2.cell 4
        clear hw2
        go_wp2
        go_ret
        exact ⟨rfl, B2.out⟩
      · have d3 : decide (u < 1) = false := decide_eq_false q3
        by_cases q4 : 4096 < u
        · have d4 : decide (4096 < u) = true := decide_eq_true q4
          have E : Hid (F = 1) := hid (by rw [HF.out]; unfold clF; rw [← HA.out, ← HC.out]; exact if_neg (fun q => by obtain ⟨z1, z2, z3, z4⟩ := q; first | exact q1 z1 | exact q2 z2 | omega))
          rw [E.out]
          go_enter Tryz.func12, Tryz.ntmps12
          go_wp2_with fail
          refine (KN _ (HH.out.below ((Below.refl _ _).alloc (Nat.le_refl _) _))).out.mono ?_
          rintro e w1 ⟨rfl, hw⟩
          obtain rfl := hw.symm
          clear hw
          have B1 : Hid (Below w.heap.size w (w.alloc (.cells #[.slice a n cap, .int .i64 k, .int .i64 m, .int .i64 g, .int .i64 u] 39))) := (Below.refl _ _).alloc (Nat.le_refl _) _
          go_wp2_with fail
          refine (KC _).out.mono ?_
          rintro e w2 ⟨rfl, hw2⟩
          have B2 : Hid (Below w.heap.size w w2) := by rw [hw2]; exact B1.out.alloc B1.out.size _
          have R2 : RowAt w2 w.heap.size 39 #[.slice a n cap, .int .i64 k, .int .i64 m, .int .i64 g, .int .i64 u] := by rw [hw2]; exact (RowAt.new w _ _).alloc _
          have c4 := R2.cell 4
          clear hw2
          go_wp2
          go_ret
          exact ⟨rfl, B2.out⟩
        · have d4 : decide (4096 < u) = false := decide_eq_false q4
          have E : Hid (F = 0) := hid (by rw [HF.out]; unfold clF; rw [← HA.out, ← HC.out]; exact if_pos ⟨q1, q2, by omega, by omega⟩)
          rw [E.out]
          go_enter Tryz.func12, Tryz.ntmps12
          go_wp2_with fail
          refine (KN _ (HH.out.below ((Below.refl _ _).alloc (Nat.le_refl _) _))).out.mono ?_
          rintro e w1 ⟨rfl, hw⟩
          obtain rfl := hw.symm
          clear hw
          have B1 : Hid (Below w.heap.size w (w.alloc (.cells #[.slice a n cap, .int .i64 k, .int .i64 m, .int .i64 g, .int .i64 u] 39))) := (Below.refl _ _).alloc (Nat.le_refl _) _
          go_wp2_with fail
          refine (KC _).out.mono ?_
          rintro e w2 ⟨rfl, hw2⟩
          have B2 : Hid (Below w.heap.size w w2) := by rw [hw2]; exact B1.out.alloc B1.out.size _
          have R2 : RowAt w2 w.heap.size 39 #[.slice a n cap, .int .i64 k, .int .i64 m, .int .i64 g, .int .i64 u] := by rw [hw2]; exact (RowAt.new w _ _).alloc _
          have c4 := R2.cell 4
          clear hw2
          go_wp2
          go_ret
          exact ⟨rfl, B2.out⟩
    · have d2 : (C != 0) = true := by rw [bne_iff_ne]; exact q2
      have E : Hid (F = 1) := hid (by rw [HF.out]; unfold clF; rw [← HA.out, ← HC.out]; exact if_neg (fun q => by obtain ⟨z1, z2, z3, z4⟩ := q; first | exact q1 z1 | exact q2 z2 | omega))
      rw [E.out]
      go_enter Tryz.func12, Tryz.ntmps12
      go_wp2_with fail
      refine (KN _ (HH.out.below ((Below.refl _ _).alloc (Nat.le_refl _) _))).out.mono ?_
      rintro e w1 ⟨rfl, hw⟩
      obtain rfl := hw.symm
      clear hw
      have B1 : Hid (Below w.heap.size w (w.alloc (.cells #[.slice a n cap, .int .i64 k, .int .i64 m, .int .i64 g, .int .i64 u] 39))) := (Below.refl _ _).alloc (Nat.le_refl _) _
      go_wp2_with fail
      refine (KC _).out.mono ?_
      rintro e w2 ⟨rfl, hw2⟩
      have B2 : Hid (Below w.heap.size w w2) := by rw [hw2]; exact B1.out.alloc B1.out.size _
      have R2 : RowAt w2 w.heap.size 39 #[.slice a n cap, .int .i64 k, .int .i64 m, .int .i64 g, .int .i64 u] := by rw [hw2]; exact (RowAt.new w _ _).alloc _
      have c4 := R2.cell 4
      clear hw2
      go_wp2
      go_ret
      exact ⟨rfl, B2.out⟩
  · have d1 : (A != 0) = true := by rw [bne_iff_ne]; exact q1
    have E : Hid (F = 1) := hid (by rw [HF.out]; unfold clF; rw [← HA.out, ← HC.out]; exact if_neg (fun q => by obtain ⟨z1, z2, z3, z4⟩ := q; first | exact q1 z1 | exact q2 z2 | omega))
    rw [E.out]
    go_enter Tryz.func12, Tryz.ntmps12
    go_wp2_with fail
    refine (KN _ (HH.out.below ((Below.refl _ _).alloc (Nat.le_refl _) _))).out.mono ?_
    rintro e w1 ⟨rfl, hw⟩
    obtain rfl := hw.symm
    clear hw
    have B1 : Hid (Below w.heap.size w (w.alloc (.cells #[.slice a n cap, .int .i64 k, .int .i64 m, .int .i64 g, .int .i64 u] 39))) := (Below.refl _ _).alloc (Nat.le_refl _) _
    go_wp2
    go_ret
    exact ⟨rfl, B1.out⟩
set_option maxRecDepth 20000 in
set_option maxHeartbeats 2000000 in
theorem iClF (a : Option Addr) (n cap : Nat) (x y : Nat → Int) (k m g u : Int) (hl : n ≤ 1048576) (w : World) (h : Prs w a n cap x y) :
    Calls Tryz.prog 19 #[ccv a n cap k m g u] w fun e w' => e = .returned (.int .i64 (clF n x y k m g u)) ∧ Below w.heap.size w w' := by
  obtain ⟨F, hF⟩ : ∃ F, F = clF n x y k m g u := ⟨_, rfl⟩
  rw [← hF]
  have HF := hid hF
  obtain ⟨A, hA⟩ : ∃ A, A = ndF n x y := ⟨_, rfl⟩
  obtain ⟨C, hC⟩ : ∃ C, C = cfault k m g := ⟨_, rfl⟩
  have KN := fun w h => hid (iNodes a n cap x y hl w h)
  have KC := fun w => hid (iCfault k m g w)
  rw [← hA] at KN
  rw [← hC] at KC
  have HA := hid hA
  have HC := hid hC
  have HH := hid h
  unfold ccv
  clear hF hA hC h
  by_cases q1 : A = 0
  · have d1 : (A != 0) = false := by rw [q1]; rfl
    by_cases q2 : C = 0
    · have d2 : (C != 0) = false := by rw [q2]; rfl
      by_cases q3 : u < 1
      · have d3 : decide (u < 1) = true := decide_eq_true q3
        have E : Hid (F = 1) := hid (by rw [HF.out]; unfold clF; rw [← HA.out, ← HC.out]; exact if_neg (fun q => by obtain ⟨z1, z2, z3, z4⟩ := q; first | exact q1 z1 | exact q2 z2 | omega))
        rw [E.out]
        go_enter Tryz.func19, Tryz.ntmps19
        go_wp2_with fail
        refine (KN _ (HH.out.below ((Below.refl _ _).alloc (Nat.le_refl _) _))).out.mono ?_
        rintro e w1 ⟨rfl, hb1⟩
        have R1 : RowAt w1 w.heap.size 39 #[.slice a n cap, .int .i64 k, .int .i64 m, .int .i64 g, .int .i64 u] := (RowAt.new w _ _).below hb1 (by rw [size_al]; omega)
        have B1 : Hid (Below w.heap.size w w1) := ((Below.refl _ _).alloc (Nat.le_refl _) _).trans (hb1.mono (by rw [size_al]; omega))
        clear hb1
        have c1 := R1.cell 1
        have c2 := R1.cell 2
        have c3 := R1.cell 3
        have c4 := R1.cell 4
        go_wp2_with fail
        refine (KC _).out.mono ?_
        rintro e w2 ⟨rfl, hw2⟩
        have B2 : Hid (Below w.heap.size w w2) := by rw [hw2]; exact B1.out.alloc B1.out.size _
        have R2 : RowAt w2 w.heap.size 39 #[.slice a n cap, .int .i64 k, .int .i64 m, .int .i64 g, .int .i64 u] := by rw [hw2]; exact R1.alloc _
        have c4 := R2.cell 4
        clear hw2
        go_wp2
        go_ret
        exact ⟨rfl, B2.out⟩
      · have d3 : decide (u < 1) = false := decide_eq_false q3
        by_cases q4 : 4096 < u
        · have d4 : decide (4096 < u) = true := decide_eq_true q4
          have E : Hid (F = 1) := hid (by rw [HF.out]; unfold clF; rw [← HA.out, ← HC.out]; exact if_neg (fun q => by obtain ⟨z1, z2, z3, z4⟩ := q; first | exact q1 z1 | exact q2 z2 | omega))
          rw [E.out]
          go_enter Tryz.func19, Tryz.ntmps19
          go_wp2_with fail
          refine (KN _ (HH.out.below ((Below.refl _ _).alloc (Nat.le_refl _) _))).out.mono ?_
          rintro e w1 ⟨rfl, hb1⟩
          have R1 : RowAt w1 w.heap.size 39 #[.slice a n cap, .int .i64 k, .int .i64 m, .int .i64 g, .int .i64 u] := (RowAt.new w _ _).below hb1 (by rw [size_al]; omega)
          have B1 : Hid (Below w.heap.size w w1) := ((Below.refl _ _).alloc (Nat.le_refl _) _).trans (hb1.mono (by rw [size_al]; omega))
          clear hb1
          have c1 := R1.cell 1
          have c2 := R1.cell 2
          have c3 := R1.cell 3
          have c4 := R1.cell 4
          go_wp2_with fail
          refine (KC _).out.mono ?_
          rintro e w2 ⟨rfl, hw2⟩
          have B2 : Hid (Below w.heap.size w w2) := by rw [hw2]; exact B1.out.alloc B1.out.size _
          have R2 : RowAt w2 w.heap.size 39 #[.slice a n cap, .int .i64 k, .int .i64 m, .int .i64 g, .int .i64 u] := by rw [hw2]; exact R1.alloc _
          have c4 := R2.cell 4
          clear hw2
          go_wp2
          go_ret
          exact ⟨rfl, B2.out⟩
        · have d4 : decide (4096 < u) = false := decide_eq_false q4
          have E : Hid (F = 0) := hid (by rw [HF.out]; unfold clF; rw [← HA.out, ← HC.out]; exact if_pos ⟨q1, q2, by omega, by omega⟩)
          rw [E.out]
          go_enter Tryz.func19, Tryz.ntmps19
          go_wp2_with fail
          refine (KN _ (HH.out.below ((Below.refl _ _).alloc (Nat.le_refl _) _))).out.mono ?_
          rintro e w1 ⟨rfl, hb1⟩
          have R1 : RowAt w1 w.heap.size 39 #[.slice a n cap, .int .i64 k, .int .i64 m, .int .i64 g, .int .i64 u] := (RowAt.new w _ _).below hb1 (by rw [size_al]; omega)
          have B1 : Hid (Below w.heap.size w w1) := ((Below.refl _ _).alloc (Nat.le_refl _) _).trans (hb1.mono (by rw [size_al]; omega))
          clear hb1
          have c1 := R1.cell 1
          have c2 := R1.cell 2
          have c3 := R1.cell 3
          have c4 := R1.cell 4
          go_wp2_with fail
          refine (KC _).out.mono ?_
          rintro e w2 ⟨rfl, hw2⟩
          have B2 : Hid (Below w.heap.size w w2) := by rw [hw2]; exact B1.out.alloc B1.out.size _
          have R2 : RowAt w2 w.heap.size 39 #[.slice a n cap, .int .i64 k, .int .i64 m, .int .i64 g, .int .i64 u] := by rw [hw2]; exact R1.alloc _
          have c4 := R2.cell 4
          clear hw2
          go_wp2
          go_ret
          exact ⟨rfl, B2.out⟩
    · have d2 : (C != 0) = true := by rw [bne_iff_ne]; exact q2
      have E : Hid (F = 1) := hid (by rw [HF.out]; unfold clF; rw [← HA.out, ← HC.out]; exact if_neg (fun q => by obtain ⟨z1, z2, z3, z4⟩ := q; first | exact q1 z1 | exact q2 z2 | omega))
      rw [E.out]
      go_enter Tryz.func19, Tryz.ntmps19
      go_wp2_with fail
      refine (KN _ (HH.out.below ((Below.refl _ _).alloc (Nat.le_refl _) _))).out.mono ?_
      rintro e w1 ⟨rfl, hb1⟩
      have R1 : RowAt w1 w.heap.size 39 #[.slice a n cap, .int .i64 k, .int .i64 m, .int .i64 g, .int .i64 u] := (RowAt.new w _ _).below hb1 (by rw [size_al]; omega)
      have B1 : Hid (Below w.heap.size w w1) := ((Below.refl _ _).alloc (Nat.le_refl _) _).trans (hb1.mono (by rw [size_al]; omega))
      clear hb1
      have c1 := R1.cell 1
      have c2 := R1.cell 2
      have c3 := R1.cell 3
      have c4 := R1.cell 4
      go_wp2_with fail
      refine (KC _).out.mono ?_
      rintro e w2 ⟨rfl, hw2⟩
      have B2 : Hid (Below w.heap.size w w2) := by rw [hw2]; exact B1.out.alloc B1.out.size _
      have R2 : RowAt w2 w.heap.size 39 #[.slice a n cap, .int .i64 k, .int .i64 m, .int .i64 g, .int .i64 u] := by rw [hw2]; exact R1.alloc _
      have c4 := R2.cell 4
      clear hw2
      go_wp2
      go_ret
      exact ⟨rfl, B2.out⟩
  · have d1 : (A != 0) = true := by rw [bne_iff_ne]; exact q1
    have E : Hid (F = 1) := hid (by rw [HF.out]; unfold clF; rw [← HA.out, ← HC.out]; exact if_neg (fun q => by obtain ⟨z1, z2, z3, z4⟩ := q; first | exact q1 z1 | exact q2 z2 | omega))
    rw [E.out]
    go_enter Tryz.func19, Tryz.ntmps19
    go_wp2_with fail
    refine (KN _ (HH.out.below ((Below.refl _ _).alloc (Nat.le_refl _) _))).out.mono ?_
    rintro e w1 ⟨rfl, hb1⟩
    have R1 : RowAt w1 w.heap.size 39 #[.slice a n cap, .int .i64 k, .int .i64 m, .int .i64 g, .int .i64 u] := (RowAt.new w _ _).below hb1 (by rw [size_al]; omega)
    have B1 : Hid (Below w.heap.size w w1) := ((Below.refl _ _).alloc (Nat.le_refl _) _).trans (hb1.mono (by rw [size_al]; omega))
    clear hb1
    go_wp2
    go_ret
    exact ⟨rfl, B1.out⟩
end Go.Proofs.YtokjfffcciddhaaGreatDoor
