import Derived.Test.YthdmaamocejodaaIStripe
import Derived.Test.YthdmaamocejodaaRngMath
import Derived.Deep.RegionHeld3
namespace Go.Proofs.Ythdmaamocejodaa
open Go.RowKit
theorem wrapF (x : Int) (h0 : 0 ≤ x) (h1 : x < 9223372036854775808) : IntKind.i64.wrap x = x := by rw [IntKind.wrap_i64]; omega
theorem otherQ {w : World} {b g : Nat} {t : TypeId} {c : Array Value} (h : RowAt w b t c) (v0 v1 v2 v3 : Value) (hn : b ≠ g) : RowAt ((((w.setCell ⟨g, 0, none⟩ v0).setCell ⟨g, 1, none⟩ v1).setCell ⟨g, 2, none⟩ v2).setCell ⟨g, 3, none⟩ v3) b t c :=
  (((h.other _ _ hn).other _ _ hn).other _ _ hn).other _ _ hn
theorem setQ {w : World} {g : Nat} {t : TypeId} {u0 u1 u2 u3 : Value} (h : RowAt w g t #[u0, u1, u2, u3]) (v0 v1 v2 v3 : Value) : RowAt ((((w.setCell ⟨g, 0, none⟩ v0).setCell ⟨g, 1, none⟩ v1).setCell ⟨g, 2, none⟩ v2).setCell ⟨g, 3, none⟩ v3) g t #[v0, v1, v2, v3] :=
  (((h.set 0 v0).set 1 v1).set 2 v2).set 3 v3
theorem belowQ {n g : Nat} {w w' : World} (h : Below n w w') (v0 v1 v2 v3 : Value) (hn : n ≤ g) : Below n w ((((w'.setCell ⟨g, 0, none⟩ v0).setCell ⟨g, 1, none⟩ v1).setCell ⟨g, 2, none⟩ v2).setCell ⟨g, 3, none⟩ v3) :=
  (((h.setCell hn _).setCell hn _).setCell hn _).setCell hn _
/-! The program's firstRange: one entry. -/
abbrev eny (a b c d : Nat) : Value := .agg #[.int .i64 (a : Int), .int .i64 (b : Int), .int .i64 (c : Int), .int .i64 (d : Int)]
set_option maxRecDepth 20000 in
set_option maxHeartbeats 2000000 in
theorem ifirst (K M G U f t A B C D : Nat) (h1 : 1 ≤ K) (h2 : K ≤ 32) (h6 : 1 ≤ U) (h7 : U ≤ 4096) (hft : f < t) (ht : t ≤ 300000) (hA : A = f / U / K) (hB : B = f / U % K) (hC : C = f % U) (hD : D = min (U - f % U) (t - f)) (w : World) :
    Calls Try.prog 23 #[lyv K M G U, .int .i64 (f : Int), .int .i64 (t : Int)] w fun e w' => e = .returned (eny A B C D) ∧ Below w.heap.size w w' := by
  have R0 : Hid (RowAt ((w.alloc (.cells (lya K M G U) 37)).alloc (.cells #[.int .i64 0, .int .i64 0, .int .i64 0, .int .i64 0] 40)) (w.heap.size + 1) 40 #[.int .i64 0, .int .i64 0, .int .i64 0, .int .i64 0]) := RowAt.next _ _ _ (by rw [size_al])
  have L0 : Hid (RowAt ((w.alloc (.cells (lya K M G U) 37)).alloc (.cells #[.int .i64 0, .int .i64 0, .int .i64 0, .int .i64 0] 40)) w.heap.size 37 (lya K M G U)) := (RowAt.new w _ _).alloc _
  have B0 : Hid (Below w.heap.size w ((w.alloc (.cells (lya K M G U) 37)).alloc (.cells #[.int .i64 0, .int .i64 0, .int .i64 0, .int .i64 0] 40))) := bal (bal (Below.refl _ _) _ (Nat.le_refl _)) _ (Nat.le_refl _)
  obtain ⟨X, hX⟩ : ∃ X, X = f / U := ⟨_, rfl⟩
  rw [← hX] at hA hB
  have q2 : (f : Int).tdiv (U : Int) = (X : Int) := by rw [Int.tdiv_eq_ediv_of_nonneg (by omega), hX, Int.natCast_ediv]
  have q2' : (f : Int) / (U : Int) = (X : Int) := by rw [hX, Int.natCast_ediv]
  have q4 : (f : Int).tmod (U : Int) = (C : Int) := by rw [Int.tmod_eq_emod_of_nonneg (by omega), hC, Int.natCast_emod]
  have q4' : (f : Int) % (U : Int) = (C : Int) := by rw [hC, Int.natCast_emod]
  have q3 : (X : Int).tmod (K : Int) = (B : Int) := by rw [Int.tmod_eq_emod_of_nonneg (by omega), hB, Int.natCast_emod]
  have q3' : (X : Int) % (K : Int) = (B : Int) := by rw [hB, Int.natCast_emod]
  have q1 : (X : Int).tdiv (K : Int) = (A : Int) := by rw [Int.tdiv_eq_ediv_of_nonneg (by omega), hA, Int.natCast_ediv]
  have q1' : (X : Int) / (K : Int) = (A : Int) := by rw [hA, Int.natCast_ediv]
  have b4 : C < U := by rw [hC]; exact Nat.mod_lt _ (by omega)
  have b3 : B < K := by rw [hB]; exact Nat.mod_lt _ (by omega)
  have b2 : X ≤ 300000 := by rw [hX]; exact Nat.le_trans (Nat.div_le_self _ _) (by omega)
  have b1 : A ≤ 300000 := by rw [hA]; exact Nat.le_trans (Nat.div_le_self _ _) (by omega)
  obtain ⟨V, hV⟩ : ∃ V, V = U - C := ⟨_, rfl⟩
  obtain ⟨E, hE⟩ : ∃ E, E = t - f := ⟨_, rfl⟩
  rw [← hC, ← hV, ← hE] at hD
  have e1 : (U : Int) - (C : Int) = (V : Int) := by omega
  have e2 : (t : Int) - (f : Int) = (E : Int) := by omega
  have e3 : min (V : Int) (E : Int) = (D : Int) := by omega
  have bV : V ≤ 4096 := by omega
  have bE : E ≤ 300000 := by omega
  have bD : D ≤ 4096 := by omega
  clear hA hB hC hD hX hV hE
  go_enter Try.func23, Try.ntmps23
  go_wp2_with fail
  go_quiet (fail)
  generalize hW0 : World.drewN _ nq = W0
  have R1 : Hid (RowAt W0 (w.heap.size + 1) 40 #[.int .i64 0, .int .i64 0, .int .i64 0, .int .i64 0]) := by rw [← hW0]; exact R0.out.drewN nq
  have L1 : Hid (RowAt W0 w.heap.size 37 (lya K M G U)) := by rw [← hW0]; exact L0.out.drewN nq
  have B1 : Hid (Below w.heap.size w W0) := by rw [← hW0]; exact (by have h := B0.out; exact ⟨h.os, h.tape, h.output, h.size, h.block⟩)
  clear hW0 R0 L0 B0 q2 q2' q4 q4'
  have c0 : W0.cell? ⟨w.heap.size, 0, none⟩ = some (.int .i64 K) := L1.out.cell 0
  have c3 : W0.cell? ⟨w.heap.size, 3, none⟩ = some (.int .i64 U) := L1.out.cell 3
  have k0 : W0.cell? ⟨w.heap.size + 1, 0, none⟩ = some (.int .i64 0) := R1.out.cell 0
  have k1 : W0.cell? ⟨w.heap.size + 1, 1, none⟩ = some (.int .i64 0) := R1.out.cell 1
  have k2 : W0.cell? ⟨w.heap.size + 1, 2, none⟩ = some (.int .i64 0) := R1.out.cell 2
  have k3 : W0.cell? ⟨w.heap.size + 1, 3, none⟩ = some (.int .i64 0) := R1.out.cell 3
  have f0 := R1.out.free 0
  have f1 := R1.out.free 1
  have f2 := R1.out.free 2
  have f3 := R1.out.free 3
  go_wp2_with fail
  have y3 : ¬ (K : Int) = 0 := by omega
  have x3 : ¬ K = 0 := by omega
  have z3 : ((K : Int) == 0) = false := by simp; omega
  have m1 : IntKind.i64.wrap (A : Int) = (A : Int) := wrapF _ (by omega) (by omega)
  have m3 : IntKind.i64.wrap (B : Int) = (B : Int) := wrapF _ (by omega) (by omega)
  go_region_held3 (fun wx => wx.cell? ⟨w.heap.size, 0, none⟩ = some (.int .i64 K) ∧ wx.cell? ⟨w.heap.size, 3, none⟩ = some (.int .i64 U)) (first | exact ⟨c0, c3⟩ | (go_keep; done)) (fail)
  have e4 : (if IntKind.i64.wrap (E : Int) < IntKind.i64.wrap (V : Int) then IntKind.i64.wrap (E : Int) else IntKind.i64.wrap (V : Int)) = (D : Int) := by
    rw [wrapF _ (by omega) (by omega), wrapF _ (by omega) (by omega)]; split <;> omega
  rw [e4]
  have R9 := hid (setQ R1.out (.int .i64 A) (.int .i64 B) (.int .i64 C) (.int .i64 D)).drew
  have B9 := hid (belowQ B1.out (.int .i64 A) (.int .i64 B) (.int .i64 C) (.int .i64 D) (g := w.heap.size + 1) (by omega)).drew
  clear c0 c3 k0 k1 k2 k3 f0 f1 f2 f3
  go_wp2
  refine bodyPost_ret (v := eny A B C D) ?_ rfl ⟨rfl, B9.out⟩
  exact results_cell_row Try.results23 _ _ (w.heap.size + 1) _ _ _ _ rfl R9.out Try.underlying40 rfl (by kernel_rfl)
end Go.Proofs.Ythdmaamocejodaa
