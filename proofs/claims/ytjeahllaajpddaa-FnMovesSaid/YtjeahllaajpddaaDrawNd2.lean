import Derived.Test.YtjeahllaajpddaaDrawNd
namespace Go.Proofs.Ytjeahllaajpddaa
open Go.RowKit
theorem flP_set1 : ∀ (l : List (Int × Int)) (k : Nat) (V : Int), k < l.length → flP (l.set k (V, (l.getD k (0, 0)).2)) = (flP l).set (k * 2) (.int .i64 V)
  | [], k, V, h => absurd h (by simp)
  | q :: l, 0, V, _ => rfl
  | q :: l, k + 1, V, h => by
    have ih := flP_set1 l k V (by simpa using h)
    show ([_, _] : List Value) ++ flP (l.set k _) = (([_, _] : List Value) ++ flP l).set ((k + 1) * 2) _
    rw [List.set_append_right _ _ (by simp; omega)]
    simpa [show (k + 1) * 2 - 2 = k * 2 by omega] using ih
theorem flP_set2 : ∀ (l : List (Int × Int)) (k : Nat) (V : Int), k < l.length → flP (l.set k ((l.getD k (0, 0)).1, V)) = (flP l).set (k * 2 + 1) (.int .i64 V)
  | [], k, V, h => absurd h (by simp)
  | q :: l, 0, V, _ => rfl
  | q :: l, k + 1, V, h => by
    have ih := flP_set2 l k V (by simpa using h)
    show ([_, _] : List Value) ++ flP (l.set k _) = (([_, _] : List Value) ++ flP l).set ((k + 1) * 2 + 1) _
    rw [List.set_append_right _ _ (by simp; omega)]
    simpa [show (k + 1) * 2 + 1 - 2 = k * 2 + 1 by omega] using ih
theorem lit3 (a b c : Int) (R : Nat) (h : R < 3) : ∃ V : Int, (#[.int .i64 a, .int .i64 b, .int .i64 c] : Array Value)[R]? = some (.int .i64 V) := by
  rcases (by omega : R = 0 ∨ R = 1 ∨ R = 2) with rfl | rfl | rfl
  · exact ⟨_, rfl⟩
  · exact ⟨_, rfl⟩
  · exact ⟨_, rfl⟩
set_option maxRecDepth 20000 in
set_option maxHeartbeats 800000 in
theorem anyNodes_all (W0 w : World) (c : Nat) (a : Option Addr) (len cap p : Nat) (h : Src W0 w c a len cap p) (hp : p ≤ 1000000) :
    Calls Try.prog 35 #[.pointer (some ⟨c, 0, none⟩)] w fun e w' => (∃ (l : List (Int × Int)) (va : Option Addr) (vc : Nat), e = .returned (.slice va l.length vc) ∧ l.length ≤ 21 ∧ w'.ownsRow w.heap.size 38 2 (.slice va l.length vc) l.length (flP l)) ∧ (∃ p', Src W0 w' c a len cap p' ∧ p' ≤ p + 67) ∧ w.grownBy w' (some c) := by
  have hcl := h.lt
  have h0c := h.2.2.2.2
  have S0 := hid h
  clear h
  go_enter Try.func35, Try.ntmps35
  go_wp2_with fail
  refine (nodes_all W0 w c a len cap p S0.out hp).mono ?_
  rintro e w1 ⟨⟨l, va, vc, rfl, hl1, hl21, ho1⟩, ⟨p1, hs1, hp1⟩, hg1⟩
  obtain ⟨g, rfl, hgb⟩ : ∃ g, va = some ⟨g, 0, none⟩ ∧ w.heap.size ≤ g := by
    rcases ho1.2 with ⟨_, h0⟩ | ⟨g, cap', cur, h', hb, _⟩
    · omega
    · simp only [Value.slice.injEq] at h'
      exact ⟨g, h'.1, hb⟩
  have S1 := hid hs1
  have O1 := hid ho1
  have G1 := hid hg1
  have hgl := (ho1.lt g rfl).2
  clear hs1 ho1 hg1 S0
  obtain ⟨n, hn⟩ : ∃ n, n = l.length := ⟨_, rfl⟩
  rw [← hn] at O1 hl1 hl21 ⊢
  have HN := hid hn
  clear hn
  go_wp2_with fail
  refine (n_all W0 _ c a len cap p1 (n : Int) S1.out (by omega) (by omega) (by omega)).mono ?_
  rintro e w2 ⟨⟨k, rfl, hk0, hk1⟩, hs2, hg2⟩
  obtain ⟨K, rfl⟩ := Int.eq_ofNat_of_zero_le hk0
  have hK : K < n := by omega
  have S2 := hid hs2
  have O2 := hid (O1.out.kept hg2 (.inr (fun e => by have := Option.some.inj e; simp at this; omega)))
  have G2 := hid (grown_trans G1.out hg2)
  clear hs2 hg2 S1 O1 G1
  go_wp2_with fail
  refine (n_all W0 _ c a len cap (p1 + 1) 15 S2.out (by omega) (by omega) (by omega)).mono ?_
  rintro e w3 ⟨⟨q, rfl, hq0, hq1⟩, hs3, hg3⟩
  have S3 := hid hs3
  have O3 := hid (O2.out.kept hg3 (.inr (fun e => by have := Option.some.inj e; simp at this; omega)))
  have G3 := hid (grown_trans G2.out hg3)
  have hw3 : w.heap.size ≤ w3.heap.size := G3.out.size
  have hg3l : g < w3.heap.size := (O3.out.lt g rfl).2
  have S4 : Hid (∀ o, Src W0 (w3.alloc o) c a len cap (p1 + 1 + 1)) := fun o => hs3.alloc o
  clear hs3 hg3 S2 O2 G2
  by_cases q0 : q = 0
  · subst q0
    go_wp2_with fail
    refine (n_all W0 _ c a len cap (p1 + 1 + 1) 3 (S4.out _) (by omega) (by omega) (by omega)).mono ?_
    rintro e w5 ⟨⟨r, rfl, hr0, hr1⟩, hs5, hg5⟩
    obtain ⟨R, rfl⟩ := Int.eq_ofNat_of_zero_le hr0
    obtain ⟨V, hV⟩ := lit3 (-1) 64 65 R (by omega)
    have cL := ((row_far (RowAt.new w3 2 #[.int .i64 (-1), .int .i64 64, .int .i64 65]) hg5 (by have := S3.out.lt; omega)).cell R).trans hV
    have O5 := hid ((O3.out.alloc (.cells #[.int .i64 (-1), .int .i64 64, .int .i64 65] 2)).kept hg5 (.inr (fun e => by have := Option.some.inj e; simp at this; omega)))
    have G5 := hid (grown_trans (grown_trans G3.out (World.grownBy_alloc w3 (.cells #[.int .i64 (-1), .int .i64 64, .int .i64 65] 2) _)) hg5)
    have cw : ∃ u, w5.cell? ⟨g, K * 2 + 1, none⟩ = some u := ⟨_, (World.ownsRow.cellAt O5.out (K * 2 + 1) (by omega)).trans (List.getElem?_eq_getElem (by rw [O5.out.1]; omega))⟩
    obtain ⟨u, cu⟩ := cw
    have cf := World.ownsRow.frozenAt O5.out (K * 2 + 1)
    have ST := World.ownsRow.stored O5.out (K * 2 + 1) (.int .i64 V)
    have OF : Hid ((w5.setCell ⟨g, K * 2 + 1, none⟩ (.int .i64 V)).ownsRow w.heap.size 38 2 (.slice (some ⟨g, 0, none⟩) n vc) (l.set K ((l.getD K (0, 0)).1, V)).length (flP (l.set K ((l.getD K (0, 0)).1, V)))) := by
      show World.ownsRow _ _ _ _ _ _ _; rw [List.length_set, flP_set2 l K V (by rw [← HN.out]; exact hK), ← HN.out]; exact ST.1
    have SF : Hid (Src W0 (w5.setCell ⟨g, K * 2 + 1, none⟩ (.int .i64 V)) c a len cap (p1 + 1 + 1 + 1)) := hs5.far ST.2 (fun e => by have := Option.some.inj e; omega) (fun x hx => by cases hx; omega)
    have GF : Hid (w.grownBy (w5.setCell ⟨g, K * 2 + 1, none⟩ (.int .i64 V)) (some c)) := grown_own G5.out ST.2 (fun x hx => by cases hx; omega) (Nat.le_refl _)
    have hK' : (K : Int) < (n : Int) := by omega
    clear ST hs5 hg5 hV
    go_wp2
    go_ret
    refine ⟨⟨l.set K ((l.getD K (0, 0)).1, V), _, vc, ?_, by rw [List.length_set, ← HN.out]; exact hl21, by rw [show (l.set K ((l.getD K (0, 0)).1, V)).length = n by rw [List.length_set, ← HN.out]]; rw [show (l.set K ((l.getD K (0, 0)).1, V)).length = n by rw [List.length_set, ← HN.out]] at OF; exact OF.out⟩, ⟨_, SF.out, by omega⟩, GF.out⟩
    rw [List.length_set, ← HN.out]; rfl
  by_cases q1 : q = 1
  · subst q1
    go_wp2_with fail
    refine (n_all W0 _ c a len cap (p1 + 1 + 1) 3 (S4.out _) (by omega) (by omega) (by omega)).mono ?_
    rintro e w5 ⟨⟨r, rfl, hr0, hr1⟩, hs5, hg5⟩
    obtain ⟨R, rfl⟩ := Int.eq_ofNat_of_zero_le hr0
    obtain ⟨V, hV⟩ := lit3 (-1) 200 201 R (by omega)
    have cL := ((row_far (RowAt.new w3 2 #[.int .i64 (-1), .int .i64 200, .int .i64 201]) hg5 (by have := S3.out.lt; omega)).cell R).trans hV
    have O5 := hid ((O3.out.alloc (.cells #[.int .i64 (-1), .int .i64 200, .int .i64 201] 2)).kept hg5 (.inr (fun e => by have := Option.some.inj e; simp at this; omega)))
    have G5 := hid (grown_trans (grown_trans G3.out (World.grownBy_alloc w3 (.cells #[.int .i64 (-1), .int .i64 200, .int .i64 201] 2) _)) hg5)
    have cw : ∃ u, w5.cell? ⟨g, K * 2, none⟩ = some u := ⟨_, (World.ownsRow.cellAt O5.out (K * 2) (by omega)).trans (List.getElem?_eq_getElem (by rw [O5.out.1]; omega))⟩
    obtain ⟨u, cu⟩ := cw
    have cf := World.ownsRow.frozenAt O5.out (K * 2)
    have ST := World.ownsRow.stored O5.out (K * 2) (.int .i64 V)
    have OF : Hid ((w5.setCell ⟨g, K * 2, none⟩ (.int .i64 V)).ownsRow w.heap.size 38 2 (.slice (some ⟨g, 0, none⟩) n vc) (l.set K (V, (l.getD K (0, 0)).2)).length (flP (l.set K (V, (l.getD K (0, 0)).2)))) := by
      show World.ownsRow _ _ _ _ _ _ _; rw [List.length_set, flP_set1 l K V (by rw [← HN.out]; exact hK), ← HN.out]; exact ST.1
    have SF : Hid (Src W0 (w5.setCell ⟨g, K * 2, none⟩ (.int .i64 V)) c a len cap (p1 + 1 + 1 + 1)) := hs5.far ST.2 (fun e => by have := Option.some.inj e; omega) (fun x hx => by cases hx; omega)
    have GF : Hid (w.grownBy (w5.setCell ⟨g, K * 2, none⟩ (.int .i64 V)) (some c)) := grown_own G5.out ST.2 (fun x hx => by cases hx; omega) (Nat.le_refl _)
    have hK' : (K : Int) < (n : Int) := by omega
    clear ST hs5 hg5 hV
    go_wp2
    go_ret
    refine ⟨⟨l.set K (V, (l.getD K (0, 0)).2), _, vc, ?_, by rw [List.length_set, ← HN.out]; exact hl21, by rw [show (l.set K (V, (l.getD K (0, 0)).2)).length = n by rw [List.length_set, ← HN.out]]; rw [show (l.set K (V, (l.getD K (0, 0)).2)).length = n by rw [List.length_set, ← HN.out]] at OF; exact OF.out⟩, ⟨_, SF.out, by omega⟩, GF.out⟩
    rw [List.length_set, ← HN.out]; rfl
  have dq0 : (q == 0) = false := by simp [q0]
  have dq1 : (q == 1) = false := by simp [q1]
  by_cases q2 : q = 2
  · subst q2
    have OF : Hid ((w3.alloc (.cells #[] 38)).ownsRow w.heap.size 38 2 (.slice (some ⟨w3.heap.size, 0, none⟩) 0 0) 0 []) := World.ownsRow_made w3 #[] 0 hw3 (by decide) (by rfl)
    have GF : Hid (w.grownBy (w3.alloc (.cells #[] 38)) (some c)) := grown_trans G3.out (World.grownBy_alloc _ _ _)
    go_wp2
    go_ret
    exact ⟨⟨[], _, 0, rfl, by simp, OF.out⟩, ⟨_, S4.out _, by omega⟩, GF.out⟩
  · have dq2 : (q == 2) = false := by simp [q2]
    rw [HN.out] at O3
    go_wp2
    go_ret
    exact ⟨⟨l, _, vc, by rw [← HN.out]; rfl, by rw [← HN.out]; exact hl21, O3.out⟩, ⟨_, S3.out, by omega⟩, G3.out⟩
end Go.Proofs.Ytjeahllaajpddaa
