import Derived.Test.YtjeahllaajpddaaDrawKey
import Derived.Test.YtjeahllaajpddaaIInsK
import Derived.Test.YtjeahllaajpddaaPairs
namespace Go.Proofs.Ytjeahllaajpddaa
open Go.RowKit
/-! Nodes that are drawn. -/
def flP (l : List (Int × Int)) : List Value := l.flatMap fun q => [.int .i64 q.1, .int .i64 q.2]
theorem flP_snoc (l : List (Int × Int)) (a b : Int) : flP (l ++ [(a, b)]) = flP l ++ [.int .i64 a, .int .i64 b] := by unfold flP; rw [List.flatMap_append]; rfl
theorem flP_len : ∀ l, (flP l).length = l.length * 2
  | [] => rfl
  | q :: l => by show (([_, _] : List Value) ++ flP l).length = _; rw [List.length_append, flP_len l]; simp; omega
theorem flP_get : ∀ (l : List (Int × Int)) (i : Nat), i < l.length → (flP l)[i * 2]? = some (.int .i64 (l.getD i (0, 0)).1) ∧ (flP l)[i * 2 + 1]? = some (.int .i64 (l.getD i (0, 0)).2)
  | [], i, h => absurd h (by simp)
  | q :: l, 0, _ => ⟨rfl, rfl⟩
  | q :: l, i + 1, h => by
    have ih := flP_get l i (by simpa using h)
    show (([_, _] : List Value) ++ flP l)[(i + 1) * 2]? = _ ∧ (([_, _] : List Value) ++ flP l)[(i + 1) * 2 + 1]? = _
    rw [List.getElem?_append_right (by simp; omega), List.getElem?_append_right (by simp; omega)]
    simpa [show (i + 1) * 2 - 2 = i * 2 by omega, show (i + 1) * 2 + 1 - 2 = i * 2 + 1 by omega] using ih
theorem Prs.of_own {w : World} {base : Nat} {e : TypeId} {a : Option Addr} {m cap : Nat} {l : List (Int × Int)} (h : w.ownsRow base e 2 (.slice a m cap) l.length (flP l)) : Prs w a l.length cap (fun i => (l.getD i (0, 0)).1) (fun i => (l.getD i (0, 0)).2) := by
  rcases h.2 with ⟨h', h0⟩ | ⟨g, cap', cur, h', hb, hg, hnc, hcm, hcs, ht⟩
  · simp only [Value.slice.injEq] at h'
    exact ⟨by omega, .inl h0⟩
  · simp only [Value.slice.injEq] at h'
    obtain ⟨rfl, rfl, rfl⟩ := h'
    refine ⟨hnc, .inr ⟨g, 0, rfl, (Array.getElem?_eq_some_iff.1 hg).1, fun i hi => ?_⟩⟩
    obtain ⟨h0, h1⟩ := flP_get l i hi
    have c := fun j u hj => h.cells (g := g) rfl j u hj
    simp only [Addr.add_lit, Nat.zero_add] at c ⊢
    exact ⟨c _ _ h0, c _ _ h1⟩
theorem nd_append (w : World) (base n : Nat) (v : Value) (xs : List Value) (X Y : Int) (hn : n ≤ 1000) (hb : base ≤ w.heap.size) (h : w.ownsRow base 38 2 v n xs) (ty : TypeId) :
    ∃ v' w', (Builtin.append_ #[29, 29] ty #[v, .slice (some ⟨w.heap.size, 0, none⟩) 1 1]).run Try.prog (w.alloc (.cells #[.int .i64 X, .int .i64 Y] 38)) = .ok v' w' ∧ w'.ownsRow base 38 2 v' (n + 1) (xs ++ [.int .i64 X, .int .i64 Y]) ∧ w.grownBy w' v.ownBlock ∧ ∃ a c, v' = .slice a (n + 1) c := by
  obtain ⟨i0, hi, hz0, hz1, hz2⟩ := info_parts (P := Try.prog) (e := 38) (z := .agg #[.int .i64 0, .int .i64 0]) (size := 2) (bytes := 16) (by kernel_rfl)
  obtain ⟨v', w', hr, h1, h2, _⟩ := run_append_fresh (P := Try.prog) (w.alloc (.cells #[.int .i64 X, .int .i64 Y] 38)) base 29 ty 38 i0 _ 2 16 Try.underlying29 hi hz0 hz1 hz2 rfl (by decide) v n xs (h.alloc _) ⟨w.heap.size, 0, none⟩ 1 1 [.int .i64 X, .int .i64 Y] rfl
    (fun j u hj => by rw [Addr.add_lit, Nat.zero_add, (RowAt.new w 38 #[.int .i64 X, .int .i64 Y]).cell j]; simpa using hj) (fun u hu => by simp at hu; rcases hu with rfl | rfl <;> rfl) (by unfold maxLen; omega) (by omega) (by rw [World.size_alloc]; omega)
  refine ⟨v', w', hr, h1, grown_trans (World.grownBy_alloc w _ _) h2, ?_⟩
  rcases h1.2 with ⟨_, h0⟩ | ⟨g, cap, cur, rfl, _⟩
  · omega
  · exact ⟨_, _, rfl⟩
set_option maxRecDepth 20000 in
set_option maxHeartbeats 800000 in
theorem nodes_all (W0 w : World) (c : Nat) (a : Option Addr) (len cap p : Nat) (h : Src W0 w c a len cap p) (hp : p ≤ 1000000) :
    Calls Try.prog 52 #[.pointer (some ⟨c, 0, none⟩)] w fun e w' => (∃ (l : List (Int × Int)) (va : Option Addr) (vc : Nat), e = .returned (.slice va l.length vc) ∧ 1 ≤ l.length ∧ l.length ≤ 21 ∧ w'.ownsRow w.heap.size 38 2 (.slice va l.length vc) l.length (flP l)) ∧ (∃ p', Src W0 w' c a len cap p' ∧ p' ≤ p + 64) ∧ w.grownBy w' (some c) := by
  have hcl := h.lt
  have h0c := h.2.2.2.2
  obtain ⟨⟨z, hSz, hz0, hz12⟩, hr⟩ := h
  have c2 := Blk.cell hSz 2 _ rfl
  have c2' : (w.alloc (.cells #[] 38)).cell? ⟨c, 2, none⟩ = some (.int .i64 z) := (((Below.refl _ w).alloc (Nat.le_refl _) _).cell (p := ⟨c, 2, none⟩) hcl).trans c2
  have S0 : Hid (Src W0 (w.alloc (.cells #[] 38)) c a len cap p) := Src.alloc ⟨⟨z, hSz, hz0, hz12⟩, hr⟩ _
  have O0 : Hid ((w.alloc (.cells #[] 38)).ownsRow w.heap.size 38 2 (.slice (some ⟨w.heap.size, 0, none⟩) 0 0) 0 []) := World.ownsRow_made w #[] 0 (Nat.le_refl _) (by decide) (by rfl)
  have G0 : Hid (w.grownBy (w.alloc (.cells #[] 38)) (some c)) := World.grownBy_alloc w _ _
  clear hSz hr c2
  go_enter Try.func52, Try.ntmps52
  go_wp2_with fail
  refine (n_all W0 _ c a len cap p (8 + z) S0.out (by omega) (by omega) (by omega)).mono ?_
  rintro e w1 ⟨⟨r, rfl, hr0, hr1⟩, hs1, hg1⟩
  obtain ⟨R, rfl⟩ := Int.eq_ofNat_of_zero_le hr0
  have hR : R < 20 := by omega
  have S1 := hid hs1
  have O1 := hid (O0.out.kept hg1 (.inr (fun e => by have := Option.some.inj e; simp at this; omega)))
  have G1 := hid (grown_trans G0.out hg1)
  clear hs1 hg1 S0 O0 G0 c2' hz0 hz12 hr1
  go_wp2_with fail
  go_loopw [3, 4] (fun v q wr => ∃ (k pp : Nat) (l : List (Int × Int)) (va : Option Addr) (vc : Nat), k ≤ R + 1 ∧ q = .int .i64 (k : Int) ∧ l.length + k = R + 1 ∧ pp + 3 * k = p + 1 + 3 * (R + 1) ∧ v = .slice va l.length vc ∧ wr.ownsRow w.heap.size 38 2 (.slice va l.length vc) l.length (flP l) ∧ Src W0 wr c a len cap pp ∧ w.grownBy wr (some c)) (fun _ q _ => (intOf q).toNat)
  case atStart => exact ⟨R + 1, p + 1, [], _, _, Nat.le_refl _, by go_num, by simp, by omega, rfl, O1.out, S1.out, G1.out⟩
  case round =>
    obtain ⟨k, pp, l, va, vc, hk, rfl, hxk, hpk, rfl, hO, hS, hG⟩ := hrel
    have HO := hid hO
    have HS := hid hS
    have HG := hid hG
    clear hO hS hG
    by_cases hlt : 0 < k
    · have d0 : (0 : Int) < (k : Int) := by omega
      go_wp2_with fail
      refine (n_all W0 _ c a len cap pp 6 HS.out (by omega) (by omega) (by omega)).mono ?_
      rintro e w2 ⟨⟨X, rfl, hX0, hX1⟩, hs2, hg2⟩
      have S2 := hid hs2
      have O2 := hid (HO.out.kept hg2 (.inr (fun e => by have := (HO.out.lt _ e).1; omega)))
      have G2 := hid (grown_trans HG.out hg2)
      clear hs2 hg2
      go_wp2_with fail
      refine (n_all W0 _ c a len cap (pp + 1) 5 S2.out (by omega) (by omega) (by omega)).mono ?_
      rintro e w3 ⟨⟨Y, rfl, hY0, hY1⟩, hs3, hg3⟩
      have O3 := hid (O2.out.kept hg3 (.inr (fun e => by have := (O2.out.lt _ e).1; omega)))
      have G3 := hid (grown_trans G2.out hg3)
      obtain ⟨Y1, hY⟩ : ∃ Y1, Y1 = 1 + Y := ⟨_, rfl⟩
      have hYe : 1 + Y = Y1 := hY.symm
      have hYb : 1 ≤ Y1 ∧ Y1 ≤ 5 := by omega
      have S4 : Hid (Src W0 (w3.alloc (.cells #[.int .i64 X, .int .i64 Y1] 38)) c a len cap (pp + 1 + 1)) := hs3.alloc _
      have O4 := hid (O3.out.alloc (.cells #[.int .i64 X, .int .i64 Y1] 38))
      have G4 : Hid (w.grownBy (w3.alloc (.cells #[.int .i64 X, .int .i64 Y1] 38)) (some c)) := grown_trans G3.out (World.grownBy_alloc _ _ _)
      have R4 : Hid (RowAt (w3.alloc (.cells #[.int .i64 X, .int .i64 Y1] 38)) w3.heap.size 38 #[.int .i64 X, .int .i64 Y1]) := RowAt.new _ _ _
      have hw3 : w.heap.size ≤ w3.heap.size := G3.out.size
      clear hs3 hg3 hY S2 O2 G2
      go_wp2_with fail
      refine (one_all W0 _ c a len cap (pp + 1 + 1) 10 S4.out (by omega) (by omega) (by omega)).mono ?_
      rintro e w5 ⟨⟨bb, rfl⟩, hs5, hg5⟩
      have S5 := hid hs5
      have O5 := hid (O4.out.kept hg5 (.inr (fun e => by have := (O4.out.lt _ e).1; omega)))
      have G5 := hid (grown_trans G4.out hg5)
      have R5 := hid (row_far R4.out hg5 (by omega))
      have Z5 : w.heap.size ≤ w5.heap.size := G5.out.size
      have b5 : w3.heap.size < w5.heap.size := R5.out.lt
      have ne5 : Hid ((Value.slice va l.length vc).ownBlock ≠ some w3.heap.size) := fun e => by have := (O3.out.lt _ e).2; omega
      clear hs5 hg5 S4 O4 G4 R4
      have x0 := R5.out.cell 0
      have x1 := R5.out.cell 1
      have xf := R5.out.free 1
      cases bb with
      | false =>
        obtain ⟨v', w', hr, ho, hg, va', vc', rfl⟩ := nd_append w5 w.heap.size l.length _ _ X Y1 (by omega) Z5 O5.out 29
        have HRN := hid hr
        have OF : Hid (w'.ownsRow w.heap.size 38 2 (.slice va' (l ++ [(X, Y1)]).length vc') (l ++ [(X, Y1)]).length (flP (l ++ [(X, Y1)]))) := by
          show World.ownsRow _ _ _ _ _ _ _; rw [List.length_append, flP_snoc]; exact ho
        have SF : Hid (Src W0 w' c a len cap (pp + 1 + 1 + 1)) := S5.out.far hg (fun e => by have := (O5.out.lt _ e.symm).1; omega) (fun g hg => by have := (O5.out.lt _ hg).1; omega)
        have GF : Hid (w.grownBy w' (some c)) := grown_own G5.out hg (fun g hg => (O5.out.lt _ hg).1) (Nat.le_refl _)
        clear hr ho hg
        go_wp2_with (at_builtin; refine list_appZ _ rfl _ _ 29 29 rfl _ _ rfl rfl HRN.out ?_)
        try go_wp2
        go_roundw
        case rel => exact ⟨k - 1, pp + 1 + 1 + 1, l ++ [(X, Y1)], va', vc', by omega, by go_num, by rw [List.length_append]; simp; omega, by omega, by simp, OF.out, SF.out, GF.out⟩
        case measure => simp [intOf]; omega
      | true =>
        have O6 : Hid ((w5.setCell ⟨w3.heap.size, 1, none⟩ (.int .i64 0)).ownsRow w.heap.size 38 2 (.slice va l.length vc) l.length (flP l)) := O5.out.kept grown_set (.inr ne5.out)
        have S6 : Hid (Src W0 (w5.setCell ⟨w3.heap.size, 1, none⟩ (.int .i64 0)) c a len cap (pp + 1 + 1 + 1)) := S5.out.far grown_set (fun e => by have := Option.some.inj e; omega) (fun g hg => by cases hg; omega)
        have G6 : Hid (w.grownBy (w5.setCell ⟨w3.heap.size, 1, none⟩ (.int .i64 0)) (some c)) := grown_own G5.out grown_set (fun g hg => by cases hg; omega) (Nat.le_refl _)
        have R6 := hid (R5.out.set 1 (.int .i64 0))
        have y0 := R6.out.cell 0
        have y1 := R6.out.cell 1
        have Z6 : w.heap.size ≤ (w5.setCell ⟨w3.heap.size, 1, none⟩ (.int .i64 0)).heap.size := by simp; omega
        obtain ⟨v', w', hr, ho, hg, va', vc', rfl⟩ := nd_append (w5.setCell ⟨w3.heap.size, 1, none⟩ (.int .i64 0)) w.heap.size l.length _ _ X 0 (by omega) Z6 O6.out 29
        rw [show (w5.setCell ⟨w3.heap.size, 1, none⟩ (.int .i64 0)).heap.size = w5.heap.size by simp] at hr
        have HRN := hid hr
        have OF : Hid (w'.ownsRow w.heap.size 38 2 (.slice va' (l ++ [(X, 0)]).length vc') (l ++ [(X, 0)]).length (flP (l ++ [(X, 0)]))) := by
          show World.ownsRow _ _ _ _ _ _ _; rw [List.length_append, flP_snoc]; exact ho
        have SF : Hid (Src W0 w' c a len cap (pp + 1 + 1 + 1)) := S6.out.far hg (fun e => by have := (O6.out.lt _ e.symm).1; omega) (fun g hg => by have := (O6.out.lt _ hg).1; omega)
        have GF : Hid (w.grownBy w' (some c)) := grown_own G6.out hg (fun g hg => (O6.out.lt _ hg).1) (Nat.le_refl _)
        clear hr ho hg
        go_wp2_with (at_builtin; refine list_appZ _ rfl _ _ 29 29 rfl _ _ rfl rfl HRN.out ?_)
        try go_wp2
        go_roundw
        case rel => exact ⟨k - 1, pp + 1 + 1 + 1, l ++ [(X, 0)], va', vc', by omega, by go_num, by rw [List.length_append]; simp; omega, by omega, by simp, OF.out, SF.out, GF.out⟩
        case measure => simp [intOf]; omega
    · have d0 : ¬ (0 : Int) < (k : Int) := by omega
      go_wp2
      go_ret
      exact ⟨⟨l, va, vc, rfl, by omega, by omega, HO.out⟩, ⟨pp, HS.out, by omega⟩, HG.out⟩
end Go.Proofs.Ytjeahllaajpddaa
