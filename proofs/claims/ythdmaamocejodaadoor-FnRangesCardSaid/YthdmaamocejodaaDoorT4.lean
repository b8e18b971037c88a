import Derived.Test.YthdmaamocejodaaDoorT1
import Derived.Test.YthdmaamocejodaaDoorT2
import Derived.Deep.RegionHeld3
namespace Go.Proofs.YthdmaamocejodaaDoor
open Go.RowKit
/-! The program's own count of stripes. -/
abbrev lyv (k m g u : Int) : Value := .agg #[.int .i64 k, .int .i64 m, .int .i64 g, .int .i64 u]
abbrev lya (k m g u : Int) : Array Value := #[.int .i64 k, .int .i64 m, .int .i64 g, .int .i64 u]
set_option maxRecDepth 20000 in
set_option maxHeartbeats 2000000 in
theorem isb (K M G U Z : Nat) (hz : (K : Int) * (U : Int) = (Z : Int)) (hZ : Z ≤ 131072) (w : World) :
    Calls Tryd.prog 22 #[lyv K M G U] w fun e w' => e = .returned (.int .i64 (Z : Int)) ∧ w' = w.alloc (.cells (lya K M G U) 50) := by
  go_enter Tryd.func22, Tryd.ntmps22
  go_wp2
  go_ret
  exact ⟨rfl, rfl⟩
set_option maxRecDepth 20000 in
set_option maxHeartbeats 2000000 in
theorem iStripe (k m g u s : Int) (w : World) :
    Calls Tryd.prog 14 #[cdv k m g, .int .i64 u, .int .i64 s] w fun e w' => e = .returned (.int .i64 (stripeN k m g u s)) ∧ Below w.heap.size w w' := by
  go_enter Tryd.func14, Tryd.ntmps14
  go_wp2_with fail
  refine (iCfault _ _ _ _).mono ?_
  rintro e w1 ⟨rfl, hw1⟩
  rcases cfault_01 k m g with hf | hf
  · rw [hf]
    obtain ⟨K, M, G, rfl, rfl, rfl, h1, h2, h3, h4, h5⟩ := cfault_ok hf
    have HF := hid hf
    have C1 : Hid (RowAt w1 w.heap.size 24 (cda K M G)) := by rw [hw1]; exact (RowAt.new w _ _).alloc _
    have HW : Hid (Below w.heap.size w w1) := by rw [hw1]; exact bal (bal (Below.refl _ _) (.cells (cda _ _ _) 24) (Nat.le_refl _)) (.cells (cda _ _ _) 24) (Nat.le_refl _)
    have Z1 := hid hw1
    clear hf hw1
    by_cases u0 : u < 1
    · have E : Hid (stripeN K M G u s = -1) := if_neg (by omega)
      have d0 : decide (u < 1) = true := by simp; omega
      go_wp2
      go_ret
      exact ⟨by rw [E.out]; rfl, HW.out⟩
    have d0 : decide (u < 1) = false := by simp; omega
    by_cases u1 : 4096 < u
    · have E : Hid (stripeN K M G u s = -1) := if_neg (by omega)
      have d1 : decide (4096 < u) = true := by simp; omega
      go_wp2
      go_ret
      exact ⟨by rw [E.out]; rfl, HW.out⟩
    have d1 : decide (4096 < u) = false := by simp; omega
    by_cases u2 : s < 0
    · have E : Hid (stripeN K M G u s = -1) := if_neg (by omega)
      have d2 : decide (s < 0) = true := by simp; omega
      go_wp2
      go_ret
      exact ⟨by rw [E.out]; rfl, HW.out⟩
    have d2 : decide (s < 0) = false := by simp; omega
    by_cases u3 : 100000 < s
    · have E : Hid (stripeN K M G u s = -1) := if_neg (by omega)
      have d3 : decide (100000 < s) = true := by simp; omega
      go_wp2
      go_ret
      exact ⟨by rw [E.out]; rfl, HW.out⟩
    have d3 : decide (100000 < s) = false := by simp; omega
    obtain ⟨U, rfl⟩ := Int.eq_ofNat_of_zero_le (show 0 ≤ u by omega)
    obtain ⟨S, rfl⟩ := Int.eq_ofNat_of_zero_le (show 0 ≤ s by omega)
    have E : Hid _ := stripe_nat h1 h2 h3 h4 h5 (show 1 ≤ U by omega) (show U ≤ 4096 by omega) (show S ≤ 100000 by omega)
    have hp1 : 1 ≤ K * U := Nat.mul_pos (by omega) (by omega)
    have hp2 : K * U ≤ 32 * 4096 := Nat.mul_le_mul h2 (by omega)
    have eP : ((K : Int) * (U : Int)) = ((K * U : Nat) : Int) := by rw [Int.natCast_mul]
    obtain ⟨Z, hZ⟩ : ∃ Z, Z = K * U := ⟨_, rfl⟩
    rw [← hZ] at E hp1 hp2 eP
    obtain ⟨N, hN⟩ : ∃ N, N = (S + Z - 1) / Z := ⟨_, rfl⟩
    rw [← hN] at E
    have eD : ((S : Int) + (Z : Int) - 1).tdiv (Z : Int) = (N : Int) := by
      rw [Int.tdiv_eq_ediv_of_nonneg (by omega), hN, Int.natCast_ediv, Int.natCast_sub (by omega), Int.natCast_add]; rfl
    have eD' : ((S : Int) + (Z : Int) - 1) / (Z : Int) = (N : Int) := by
      rw [hN, Int.natCast_ediv, Int.natCast_sub (by omega), Int.natCast_add]; rfl
    have hNS : N ≤ 100000 := by
      rw [hN]
      have h9 : (S + Z - 1) / Z < S + 1 := by
        rw [Nat.div_lt_iff_lt_mul (by omega)]
        have := Nat.mul_le_mul_left S hp1
        rw [Nat.add_mul]; omega
      omega
    have hS1 : S ≤ 100000 := by omega
    have hZ1 : Z ≤ 131072 := by omega
    have HZ := hid hZ
    have HN := hid hN
    have d0 := C1.out.cell 0
    have d1 := C1.out.cell 1
    have d2 := C1.out.cell 2
    clear hZ hN u0 u1 u2 u3 C1 Z1
    by_cases hn : 200 < N
    · have d5 : (200 : Int) < (N : Int) := by omega
      have E2 : Hid (stripeN K M G U S = -1) := by rw [E.out]; exact if_neg (by omega)
      clear E
      go_wp2_with fail
      go_region_with ((go_at_call 22; refine (isb K M G U Z eP hZ1 _).mono ?_; rintro e w2 ⟨rfl, rfl⟩))
      all_goals go_wp2
      all_goals go_ret
      all_goals exact ⟨by rw [E2.out]; rfl, (bal (bal (bal HW.out _ (Nat.le_refl _)) _ (Nat.le_refl _)) _ (Nat.le_refl _)).drew⟩
    · have d5 : ¬ (200 : Int) < (N : Int) := by omega
      have E2 : Hid (stripeN K M G U S = (N : Int)) := by rw [E.out]; exact if_pos (by omega)
      clear E
      go_wp2_with fail
      go_region_with ((go_at_call 22; refine (isb K M G U Z eP hZ1 _).mono ?_; rintro e w2 ⟨rfl, rfl⟩))
      all_goals go_wp2
      all_goals go_ret
      all_goals exact ⟨by rw [E2.out]; rfl, (bal (bal (bal HW.out _ (Nat.le_refl _)) _ (Nat.le_refl _)) _ (Nat.le_refl _)).drew⟩
  · rw [hf]
    have E : Hid (stripeN k m g u s = -1) := if_neg (fun h => by rw [hf] at h; exact absurd h.1 (by decide))
    have HW : Hid (Below w.heap.size w w1) := by rw [hw1]; exact bal (bal (Below.refl _ _) (.cells (cda _ _ _) 24) (Nat.le_refl _)) (.cells (cda _ _ _) 24) (Nat.le_refl _)
    have Z1 := hid hw1
    clear hf hw1
    go_wp2
    go_ret
    exact ⟨by rw [E.out]; rfl, HW.out⟩
end Go.Proofs.YthdmaamocejodaaDoor
namespace Go.Proofs.YthdmaamocejodaaDoor
open Go.RowKit
theorem wrapF (x : Int) (h0 : 0 ≤ x) (h1 : x < 9223372036854775808) : IntKind.i64.wrap x = x := by rw [IntKind.wrap_i64]; omega
theorem otherQ {w : World} {b g : Nat} {t : TypeId} {c : Array Value} (h : RowAt w b t c) (v0 v1 v2 v3 : Value) (hn : b ≠ g) : RowAt ((((w.setCell ⟨g, 0, none⟩ v0).setCell ⟨g, 1, none⟩ v1).setCell ⟨g, 2, none⟩ v2).setCell ⟨g, 3, none⟩ v3) b t c :=
  (((h.other _ _ hn).other _ _ hn).other _ _ hn).other _ _ hn
theorem setQ {w : World} {g : Nat} {t : TypeId} {u0 u1 u2 u3 : Value} (h : RowAt w g t #[u0, u1, u2, u3]) (v0 v1 v2 v3 : Value) : RowAt ((((w.setCell ⟨g, 0, none⟩ v0).setCell ⟨g, 1, none⟩ v1).setCell ⟨g, 2, none⟩ v2).setCell ⟨g, 3, none⟩ v3) g t #[v0, v1, v2, v3] :=
  (((h.set 0 v0).set 1 v1).set 2 v2).set 3 v3
theorem belowQ {n g : Nat} {w w' : World} (h : Below n w w') (v0 v1 v2 v3 : Value) (hn : n ≤ g) : Below n w ((((w'.setCell ⟨g, 0, none⟩ v0).setCell ⟨g, 1, none⟩ v1).setCell ⟨g, 2, none⟩ v2).setCell ⟨g, 3, none⟩ v3) :=
  (((h.setCell hn _).setCell hn _).setCell hn _).setCell hn _
/-! The program's firstRange: one entry. -/
abbrev eny (a b c d : Nat) : Value := .agg #[.int .i64 (a : Int), .int .i64 (b : Int), .int .i64 (c : Int), .int .i64 (d : Int)]
set_option maxRecDepth 20000 in
set_option maxHeartbeats 2000000 in
theorem ifirst (K M G U f t A B C D : Nat) (h1 : 1 ≤ K) (h2 : K ≤ 32) (h6 : 1 ≤ U) (h7 : U ≤ 4096) (hft : f < t) (ht : t ≤ 300000) (hA : A = f / U / K) (hB : B = f / U % K) (hC : C = f % U) (hD : D = min (U - f % U) (t - f)) (w : World) :
    Calls Tryd.prog 30 #[lyv K M G U, .int .i64 (f : Int), .int .i64 (t : Int)] w fun e w' => e = .returned (eny A B C D) ∧ Below w.heap.size w w' := by
  have R0 : Hid (RowAt ((w.alloc (.cells (lya K M G U) 50)).alloc (.cells #[.int .i64 0, .int .i64 0, .int .i64 0, .int .i64 0] 38)) (w.heap.size + 1) 38 #[.int .i64 0, .int .i64 0, .int .i64 0, .int .i64 0]) := RowAt.next _ _ _ (by rw [size_al])
  have L0 : Hid (RowAt ((w.alloc (.cells (lya K M G U) 50)).alloc (.cells #[.int .i64 0, .int .i64 0, .int .i64 0, .int .i64 0] 38)) w.heap.size 50 (lya K M G U)) := (RowAt.new w _ _).alloc _
  have B0 : Hid (Below w.heap.size w ((w.alloc (.cells (lya K M G U) 50)).alloc (.cells #[.int .i64 0, .int .i64 0, .int .i64 0, .int .i64 0] 38))) := bal (bal (Below.refl _ _) _ (Nat.le_refl _)) _ (Nat.le_refl _)
  obtain ⟨X, hX⟩ : ∃ X, X = f / U := ⟨_, rfl⟩
  rw [← hX] at hA hB
  have q2 : (f : Int).tdiv (U : Int) = (X : Int) := by rw [Int.tdiv_eq_ediv_of_nonneg (by omega), hX, Int.natCast_ediv]
  have q2' : (f : Int) / (U : Int) = (X : Int) := by rw [hX, Int.natCast_ediv]
  have q4 : (f : Int).tmod (U : Int) = (C : Int) := by rw [Int.tmod_eq_emod_of_nonneg (by omega), hC, Int.natCast_emod]
  have q4' : (f : Int) % (U : Int) = (C : Int) := by rw [hC, Int.natCast_emod]
  have q3 : (X : Int).tmod (K : Int) = (B : Int) := by rw [Int.tmod_eq_emod_of_nonneg (by omega), hB, Int.natCast_emod]
  have q3' : (X : Int) % (K : Int) = (B : Int) := by rw [hB, Int.natCast_emod]
  have q1 : (X : Int).tdiv (K : Int) = (A : Int) := by rw [Int.tdiv_eq_ediv_of_nonneg (by omega), hA, Int.natCast_ediv]
  have q1' : (X : Int) / (K : Int) = (A : Int) := by rw [hA, Int.natCast_ediv]
  have b4 : C < U := by rw [hC]; exact Nat.mod_lt _ (by omega)
  have b3 : B < K := by rw [hB]; exact Nat.mod_lt _ (by omega)
  have b2 : X ≤ 300000 := by rw [hX]; exact Nat.le_trans (Nat.div_le_self _ _) (by omega)
  have b1 : A ≤ 300000 := by rw [hA]; exact Nat.le_trans (Nat.div_le_self _ _) (by omega)
  obtain ⟨V, hV⟩ : ∃ V, V = U - C := ⟨_, rfl⟩
  obtain ⟨E, hE⟩ : ∃ E, E = t - f := ⟨_, rfl⟩
  rw [← hC, ← hV, ← hE] at hD
  have e1 : (U : Int) - (C : Int) = (V : Int) := by omega
  have e2 : (t : Int) - (f : Int) = (E : Int) := by omega
  have e3 : min (V : Int) (E : Int) = (D : Int) := by omega
  have bV : V ≤ 4096 := by omega
  have bE : E ≤ 300000 := by omega
  have bD : D ≤ 4096 := by omega
  clear hA hB hC hD hX hV hE
  go_enter Tryd.func30, Tryd.ntmps30
  go_wp2_with fail
  go_quiet (fail)
  generalize hW0 : World.drewN _ nq = W0
  have R1 : Hid (RowAt W0 (w.heap.size + 1) 38 #[.int .i64 0, .int .i64 0, .int .i64 0, .int .i64 0]) := by rw [← hW0]; exact R0.out.drewN nq
  have L1 : Hid (RowAt W0 w.heap.size 50 (lya K M G U)) := by rw [← hW0]; exact L0.out.drewN nq
  have B1 : Hid (Below w.heap.size w W0) := by rw [← hW0]; exact (by have h := B0.out; exact ⟨h.os, h.tape, h.output, h.size, h.block⟩)
  clear hW0 R0 L0 B0 q2 q2' q4 q4'
  have c0 : W0.cell? ⟨w.heap.size, 0, none⟩ = some (.int .i64 K) := L1.out.cell 0
  have c3 : W0.cell? ⟨w.heap.size, 3, none⟩ = some (.int .i64 U) := L1.out.cell 3
  have k0 : W0.cell? ⟨w.heap.size + 1, 0, none⟩ = some (.int .i64 0) := R1.out.cell 0
  have k1 : W0.cell? ⟨w.heap.size + 1, 1, none⟩ = some (.int .i64 0) := R1.out.cell 1
  have k2 : W0.cell? ⟨w.heap.size + 1, 2, none⟩ = some (.int .i64 0) := R1.out.cell 2
  have k3 : W0.cell? ⟨w.heap.size + 1, 3, none⟩ = some (.int .i64 0) := R1.out.cell 3
  have f0 := R1.out.free 0
  have f1 := R1.out.free 1
  have f2 := R1.out.free 2
  have f3 := R1.out.free 3
  go_wp2_with fail
  have y3 : ¬ (K : Int) = 0 := by omega
  have x3 : ¬ K = 0 := by omega
  have z3 : ((K : Int) == 0) = false := by simp; omega
  have m1 : IntKind.i64.wrap (A : Int) = (A : Int) := wrapF _ (by omega) (by omega)
  have m3 : IntKind.i64.wrap (B : Int) = (B : Int) := wrapF _ (by omega) (by omega)
  go_region_held3 (fun wx => wx.cell? ⟨w.heap.size, 0, none⟩ = some (.int .i64 K) ∧ wx.cell? ⟨w.heap.size, 3, none⟩ = some (.int .i64 U)) (first | exact ⟨c0, c3⟩ | (go_keep; done)) (fail)
  have e4 : (if IntKind.i64.wrap (E : Int) < IntKind.i64.wrap (V : Int) then IntKind.i64.wrap (E : Int) else IntKind.i64.wrap (V : Int)) = (D : Int) := by
    rw [wrapF _ (by omega) (by omega), wrapF _ (by omega) (by omega)]; split <;> omega
  rw [e4]
  have R9 := hid (setQ R1.out (.int .i64 A) (.int .i64 B) (.int .i64 C) (.int .i64 D)).drew
  have B9 := hid (belowQ B1.out (.int .i64 A) (.int .i64 B) (.int .i64 C) (.int .i64 D) (g := w.heap.size + 1) (by omega)).drew
  clear c0 c3 k0 k1 k2 k3 f0 f1 f2 f3
  go_wp2
  refine bodyPost_ret (v := eny A B C D) ?_ rfl ⟨rfl, B9.out⟩
  exact results_cell_row Tryd.results30 _ _ (w.heap.size + 1) _ _ _ _ rfl R9.out Tryd.underlying38 rfl (by kernel_rfl)
end Go.Proofs.YthdmaamocejodaaDoor
