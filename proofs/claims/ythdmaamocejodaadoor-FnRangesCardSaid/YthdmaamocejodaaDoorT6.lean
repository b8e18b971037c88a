import Derived.Test.YthdmaamocejodaaDoorFRow
import Derived.Test.YthdmaamocejodaaDoorInts
import Derived.Test.YthdmaamocejodaaDoorT2
import Derived.Deep.RegionHeld3
import Derived.Deep.CutRange
import Derived.Test.YthdmaamocejodaaDoorT1
import Derived.Deep.AppendLies
import Derived.Maps.AppendAt
import Derived.Test.YthdmaamocejodaaDoorT5
import Derived.Test.YthdmaamocejodaaDoorT5
namespace Go.Proofs.YthdmaamocejodaaDoor
open Go.RowKit
/-! Slices of ranges of shards: what the laws do with them. -/
def Rngs (w : World) (a : Option Addr) (n cap : Nat) (f : Nat → Int) : Prop :=
  n ≤ cap ∧ (n = 0 ∨ ∃ b, a = some ⟨b, 0, none⟩ ∧ b < w.heap.size ∧ ∀ p, p < 4 * n → w.cell? ⟨b, p, none⟩ = some (.int .i64 (f p)))
theorem Rngs.below {w w' : World} {a : Option Addr} {n cap : Nat} {f : Nat → Int} (h : Rngs w a n cap f) (hb : Below w.heap.size w w') : Rngs w' a n cap f := by
  refine ⟨h.1, ?_⟩
  rcases h.2 with h0 | ⟨b, rfl, h1, h2⟩
  · exact Or.inl h0
  · exact Or.inr ⟨b, rfl, Nat.lt_of_lt_of_le h1 hb.size, fun p hp => (hb.cell (p := ⟨b, p, none⟩) h1).trans (h2 p hp)⟩
abbrev rgv (x0 x1 x2 x3 : Int) : Value := .agg #[.int .i64 x0, .int .i64 x1, .int .i64 x2, .int .i64 x3]
abbrev rga (x0 x1 x2 x3 : Int) : Array Value := #[.int .i64 x0, .int .i64 x1, .int .i64 x2, .int .i64 x3]
theorem bal5 {w w' : World} (h : Below w.heap.size w w') (o : Obj) : Below w.heap.size w (w'.alloc o) := h.alloc h.size o
/-- the cells of a row of ranges, some of them marked -/
def mkF (k0 k : Nat) (f : Nat → Value) (p : Nat) : Value := if p < k then .int .i64 ((k0 + p : Nat) : Int) else f p
theorem mkF_put (k0 k : Nat) (f : Nat → Value) (p : Nat) : putF (mkF k0 k f) k (.int .i64 ((k0 + k : Nat) : Int)) p = mkF k0 (k + 1) f p := by
  unfold putF mkF
  by_cases e : p = k
  · rw [if_pos e, if_pos (by omega), e]
  · rw [if_neg e]
    by_cases e2 : p < k
    · rw [if_pos e2, if_pos (by omega)]
    · rw [if_neg e2, if_neg (by omega)]
end Go.Proofs.YthdmaamocejodaaDoor
namespace Go.Proofs.YthdmaamocejodaaDoor
open Go.RowKit
/-! The specification's RangeReads. -/
abbrev rsv (k : Int) (a : Option Addr) (n c : Nat) : Value := .agg #[.int .i64 k, .slice a n c]
theorem oneR (k : Int) (a : Option Addr) (len cap : Nat) : (#[.int .i64 k, .slice a len cap] : Array Value).all (·.oneCell') = true := by simp [Value.oneCell']
/-- the entries' cells -/
def rgL (K u f t n : Nat) : List Value := (List.range (4 * n)).map fun p => .int .i64 ((rgC K u f t p : Nat) : Int)
theorem rgL_len (K u f t n : Nat) : (rgL K u f t n).length = n * 4 := by simp [rgL, Nat.mul_comm]
theorem rgL_succ (K u f t n : Nat) : rgL K u f t (n + 1) = rgL K u f t n ++ [.int .i64 ((rgAt u f t n / (K * u) : Nat) : Int), .int .i64 ((rgAt u f t n / u % K : Nat) : Int), .int .i64 ((rgAt u f t n % u : Nat) : Int), .int .i64 ((rgAt u f t (n + 1) - rgAt u f t n : Nat) : Int)] := by
  unfold rgL
  rw [show 4 * (n + 1) = 4 * n + 1 + 1 + 1 + 1 by omega, List.range_succ, List.range_succ, List.range_succ, List.range_succ]
  simp only [List.map_append, List.map_cons, List.map_nil, List.append_assoc, List.cons_append, List.nil_append]
  rw [rgC0, rgC1, rgC2, rgC3]
theorem Tryd.infoRg : (Tryd.prog.info? 38).map (fun i => (i.zero, i.size, i.bytes)) = some (some (rgv 0 0 0 0), 4, 32) := by kernel_rfl
def OwnRg (w : World) (base : Nat) (v : Value) (n : Nat) (xs : List Value) : Prop := w.ownsRow base 38 4 v n xs
theorem append_rg {P : Program} (base : Nat) (wr : World) {ops : Array Oper} {rest : List Oper} {o : Oper} {a : Act} {Q : Exit → Act → World → Prop} (hgd : o.guard = none) (s x : Operand) (t : TypeId)
    (ho : o.op = .call { callee := .builtin .append, args := #[s, x], argTypes := #[t, t] })
    (ht : P.underlying t = some (.slice 38)) (hinfo : (P.info? 38).map (fun i => (i.zero, i.size, i.bytes)) = some (some (rgv 0 0 0 0), 4, 32))
    (v : Value) (n : Nat) (xs : List Value) (y0 y1 y2 y3 : Int) (hs : a.eval s = v) (hown : OwnRg wr base v n xs) (hsz : base ≤ wr.heap.size)
    (hx : a.eval x = .slice (some ⟨wr.heap.size, 0, none⟩) 1 1) (hlen : n ≤ 1048576)
    (h : ∀ v' w', OwnRg w' base v' (n + 1) (xs ++ [.int .i64 y0, .int .i64 y1, .int .i64 y2, .int .i64 y3]) → wr.grownBy w' v.ownBlock → wpList P ops Q rest (a.put o.dst v') w') :
    wpList P ops Q (o :: rest) a (wr.alloc (.cells (rga y0 y1 y2 y3) 38)) := by
  obtain ⟨i0, hi, hz0, hz1, hz2⟩ := info_parts hinfo
  refine wpList_append_own _ hgd s x t ho base 38 i0 (rgv 0 0 0 0) 4 32 ht hi hz0 hz1 hz2 rfl (by decide) v n _ hs (World.ownsRow.alloc hown _) ⟨wr.heap.size, 0, none⟩ 1 1 [.int .i64 y0, .int .i64 y1, .int .i64 y2, .int .i64 y3] hx rfl ?_ ?_ ?_ ?_ ?_ ?_
  · intro j u hj
    have R := RowAt.new wr 38 (rga y0 y1 y2 y3)
    match j, hj with
    | 0, hj => simp at hj; subst hj; exact R.cell 0
    | 1, hj => simp at hj; subst hj; exact R.cell 1
    | 2, hj => simp at hj; subst hj; exact R.cell 2
    | 3, hj => simp at hj; subst hj; exact R.cell 3
  · intro u hu; simp at hu; rcases hu with rfl | rfl | rfl | rfl <;> rfl
  · unfold maxLen; omega
  · omega
  · simp; omega
  · intro v' w' h1 h2 h3
    exact h v' w' h1 (grown_trans (World.grownBy_alloc wr _ _) h2)
theorem OwnRg.rngs {w : World} {base : Nat} {v : Value} {K u f t n : Nat} (h : OwnRg w base v n (rgL K u f t n)) : ∃ a c, v = .slice a n c ∧ Rngs w a n c (fun p => ((rgC K u f t p : Nat) : Int)) := by
  rcases h.2 with ⟨h0, h1⟩ | ⟨g, cap, cur, he, hb, hr, hnc, hm, hsz, htk⟩
  · exact ⟨none, 0, by rw [h0, h1], by omega, Or.inl h1⟩
  · have R : RowAt w g 38 cur := hr
    refine ⟨_, cap, he, hnc, Or.inr ⟨g, rfl, R.lt, fun p hp => ?_⟩⟩
    have := congrArg (·[p]?) htk
    simp only [List.getElem?_take] at this
    rw [if_pos (by omega), rgL, List.getElem?_map, List.getElem?_range hp] at this
    rw [R.cell p]
    simpa using this
end Go.Proofs.YthdmaamocejodaaDoor
namespace Go.Proofs.YthdmaamocejodaaDoor
open Go.RowKit Go.Shelf
attribute [local go_sem] Oper.semAt_some
/-! The program's entries of a range, collected. -/
/-- the blocks of a loop that collects into the variable at Bx -/
def tc (Bx : Nat) (W : World) (b : Nat) : Prop := b = Bx ∨ ∃ v, W.cell? ⟨Bx, 0, none⟩ = some v ∧ v.ownBlock = some b
theorem tc_local {B Bx : Nat} (h : Bx < B) : TLocal B (tc Bx) := fun W W' b hk hb => by
  rcases hb with rfl | ⟨v, hv, ho⟩
  · exact Or.inl rfl
  · exact Or.inr ⟨v, by rw [← hv]; exact World.cell?_of_block (hk Bx h), ho⟩
theorem tc_appended {W w1 : World} {Bx base size k : Nat} {t e : TypeId} {v v' : Value} {xs : List Value} {tmp : Obj} (hv : Boxed W Bx t v) (hv2 : Boxed (w1.setCell ⟨Bx, 0, none⟩ v') Bx t v')
    (hr2 : (w1.setCell ⟨Bx, 0, none⟩ v').ownsRow base e size v' k xs) (hg : (W.alloc tmp).grownBy w1 v.ownBlock) (hf : v'.ownBlock = v.ownBlock ∨ ∀ q, v'.ownBlock = some q → (W.alloc tmp).heap.size ≤ q) :
    TKeeps (tc Bx) W (w1.setCell ⟨Bx, 0, none⟩ v') := by
  have hs : W.heap.size + 1 ≤ w1.heap.size := by have := hg.size; rwa [World.size_alloc] at this
  refine ⟨by rw [World.size_setCell]; omega, fun _ b hb => ?_, fun b o ho _ hn => ?_⟩
  · rcases hb with rfl | ⟨u, hu, ho⟩
    · exact hv2.lt
    · rw [hv2.cell] at hu; cases hu; exact (hr2.lt b ho).2
  · have hb : b < W.heap.size := (Array.getElem?_eq_some_iff.1 ho).1
    have n1 : b ≠ Bx := fun e => hn (Or.inl e)
    have n2 : v.ownBlock ≠ some b := fun e => hn (Or.inr ⟨v, hv.cell, e⟩)
    refine ⟨?_, fun hx => ?_⟩
    · rw [Below.heap_setCell _ _ _ b n1, hg.block b (by rw [World.size_alloc]; omega) (fun e => n2 e.symm), Below.heap_alloc W tmp b hb]; exact ho
    · rcases hx with e | ⟨u, hu, hob⟩
      · exact n1 e
      · rw [hv2.cell] at hu; cases hu
        rcases hf with h | h
        · exact n2 (h ▸ hob)
        · have := h b hob; rw [World.size_alloc] at this; omega
def rgF (K u f t : Nat) (pre : List Nat) : List Value := pre.flatMap fun i => (enI K u f t i).toList
theorem rgF_range (K u f t : Nat) : ∀ n, rgF K u f t (List.range n) = rgL K u f t n
  | 0 => rfl
  | n + 1 => by
    rw [rgL_succ, ← rgF_range K u f t n, List.range_succ]
    unfold rgF
    rw [List.flatMap_append, List.flatMap_singleton]
    unfold enI
    rw [Nat.div_div_eq_div_mul, Nat.mul_comm u K]
theorem rgF_len (K u f t : Nat) (pre : List Nat) : (rgF K u f t pre).length = pre.length * 4 := by
  unfold rgF
  induction pre with
  | nil => rfl
  | cons x xs ih => rw [List.flatMap_cons, List.length_append, ih]; simp [enI]; omega
set_option maxRecDepth 100000 in
set_option maxHeartbeats 4000000 in
theorem iappseq (n K M G U f t : Nat) (hn : 2 ≤ n) (h1 : 1 ≤ K) (h2 : K ≤ 32) (h6 : 1 ≤ U) (h7 : U ≤ 4096) (ht : t ≤ 300000) (bf bt bl : Nat) (w : World)
    (rF : RowAt w bf 2 #[.int .i64 (f : Int)]) (rE : RowAt w bt 2 #[.int .i64 (t : Int)]) (rL : RowAt w bl 50 (lya K M G U)) :
    CallsIn Fence.wide n Tryd.prog 28 #[.slice none 0 0, .func (.func 29) #[] #[.pointer (some ⟨bf, 0, none⟩), .pointer (some ⟨bt, 0, none⟩), .pointer (some ⟨bl, 0, none⟩)]] w fun e W' =>
      ∃ v, e = .returned v ∧ OwnRg W' w.heap.size v (rgN U f t) (rgL K U f t (rgN U f t)) ∧ Below w.heap.size w W' := by
  obtain ⟨i0, hi, hz0, hz1, hz2⟩ := info_parts Tryd.infoRg
  have bO := Boxed.new w 33 (.slice none 0 0)
  have hB0 : Below w.heap.size w (w.alloc (.cells #[.slice none 0 0] 33)) := (Below.refl _ w).alloc (Nat.le_refl _) _
  have nT : ∀ b, b < w.heap.size → ¬ tc w.heap.size (w.alloc (.cells #[.slice none 0 0] 33)) b := fun b hb hx => by
    rcases hx with e | ⟨u, hu, ho⟩
    · omega
    · rw [bO.cell] at hu; cases hu; cases ho
  have hIt : ItSt (tc w.heap.size) (w.alloc (.cells #[.slice none 0 0] 33)) bf bt bl K M G U f t :=
    ⟨rF.alloc _, rE.alloc _, rL.alloc _, nT _ rF.lt, nT _ rE.lt, nT _ rL.lt, fun b hx => by
      rcases hx with rfl | ⟨u, hu, ho⟩
      · exact bO.lt
      · rw [bO.cell] at hu; cases hu; cases ho⟩
  have hTl : TLocal (w.alloc (.cells #[.slice none 0 0] 33)).heap.size (tc w.heap.size) := tc_local (by rw [World.size_alloc]; omega)
  refine callsIn_of_wp_marks Tryd.func28 rfl trivial ?_ rfl
  simp only [Tryd.ntmps28, List.size_toArray, List.length_cons, List.length_nil, Nat.reduceAdd, Nat.reduceSub, Array.replicate_succ, Array.replicate_zero, List.push_toArray, List.append_toArray, List.nil_append, List.cons_append]
  gi_wp2
  refine wpIn_rangeFunc_ownH rfl (by omega) (gf := 29) (lb := #[.pointer (some ⟨bf, 0, none⟩), .pointer (some ⟨bt, 0, none⟩), .pointer (some ⟨bl, 0, none⟩)]) rfl trivial (enters_of Tryd.func29 (by kernel_rfl) rfl)
    (irg1 (fun i : Nat => #[.agg (enI K U f t i)]) (fun i => i) (tc w.heap.size) (n - 1) K M G U f t h1 h2 h6 h7 ht (fun i _ => rfl) bf bt bl _ hIt hTl)
    (fun a b => a.trans b) (fun W l o o' hl h ho _ => TKeeps.put hTl W l o o' hl h ho) (Below.refl _ _) (fun _ => rfl)
    (fun pre W => (∃ v, Boxed W w.heap.size 33 v ∧ W.ownsRow w.heap.size 38 4 v pre.length (rgF K U f t pre) ∧ True) ∧ Below w.heap.size w W)
    (fun _ _ _ => False)
    (OwnFrom.and (Own.from (holdsRow_own w.heap.size w.heap.size 33 38 4 (fun pre => pre.length) (fun pre => rgF K U f t pre) (fun _ _ => True)) _) (ownFrom_below (Nat.le_refl _) (by simp)))
    (fun _ _ _ _ _ hs _ _ => hs)
    ⟨⟨_, bO, World.ownsRow_nil _ _ _ _, trivial⟩, hB0⟩
    (fun i a' W => ∃ Bv, w.heap.size < Bv ∧ RowAt W Bv 38 (enI K U f t i) ∧ a' = { tmps := #[.slice none 0 0, .func (.func 29) #[] #[.pointer (some ⟨bf, 0, none⟩), .pointer (some ⟨bt, 0, none⟩), .pointer (some ⟨bl, 0, none⟩)], .pointer (some ⟨w.heap.size, 0, none⟩), undef, .slice none 0 0, .pointer (some ⟨Bv, 0, none⟩), .func (.func 29) #[] #[.pointer (some ⟨bf, 0, none⟩), .pointer (some ⟨bt, 0, none⟩), .pointer (some ⟨bl, 0, none⟩)], .agg (enI K U f t i), undef, undef, undef, undef, undef], defers := [] })
    ?hax ?assign ?body ?done ?stop
  case hax =>
    rintro i a' _ A B row ⟨Bv, h1, h2, h3⟩ hg hr
    refine ⟨Bv, h1, (hg.block Bv h2.lt (fun e => ?_)).trans h2, h3⟩
    obtain ⟨_, o, ho, hc⟩ := hr Bv e.symm
    rw [show A.heap[Bv]? = _ from h2] at ho; cases ho; cases hc
  case assign =>
    rintro l pre x W K0 ⟨⟨v, hv, hrow, _⟩, hB⟩ hK
    obtain ⟨A, B, C, D, hE⟩ : ∃ A B C D : Int, enI K U f t x = #[.int .i64 A, .int .i64 B, .int .i64 C, .int .i64 D] := ⟨_, _, _, _, rfl⟩
    have hK' := hK _ (W.alloc (.cells (enI K U f t x) 38)) ((KeepsOthers.alloc _ _).from _) (TKeeps.below hTl (by rw [World.size_alloc]; exact hv.lt) ((Below.refl _ W).alloc (Nat.le_refl _) _)) ⟨⟨v, hv.alloc _, hrow.alloc _, trivial⟩, hB.alloc hB.size _⟩ ⟨W.heap.size, hv.lt, RowAt.new _ _ _, rfl⟩
    clear hK
    rw [hE] at hK' ⊢
    gi_wp2
    exact hK'
  case body =>
    rintro l pre x a' W hl ⟨r, hr⟩ ⟨⟨v, hv, hrow, _⟩, hB⟩ ⟨Bv, hBv, bX, rfl⟩ hlt
    have hN := rgN_le' U f t
    obtain ⟨A, B, C, D, hE⟩ : ∃ A B C D : Int, enI K U f t x = #[.int .i64 A, .int .i64 B, .int .i64 C, .int .i64 D] := ⟨_, _, _, _, rfl⟩
    have hF : Hid (rgF K U f t (pre ++ [x]) = rgF K U f t pre ++ [.int .i64 A, .int .i64 B, .int .i64 C, .int .i64 D]) := by
      show _ = _
      unfold rgF; rw [List.flatMap_append, List.flatMap_singleton, hE]
    rw [hE] at bX ⊢
    have c0 := bX.cell 0
    have c1 := bX.cell 1
    have c2 := bX.cell 2
    have c3 := bX.cell 3
    have cv := hv.cell
    gi_wp2_with (gi_at_builtin; refine wpListIn_append_fresh _ rfl _ _ 33 rfl w.heap.size 38 i0 (rgv 0 0 0 0) 4 32 Tryd.underlying33 hi hz0 hz1 hz2 rfl (by decide) _ _ _ rfl (hrow.alloc _) ⟨W.heap.size, 0, none⟩ 1 1 [.int .i64 A, .int .i64 B, .int .i64 C, .int .i64 D] rfl rfl ?_ ?_ (by unfold maxLen; omega) (by omega) (by have := hB.size; simp; omega) ?_)
    · intro j u hj
      have R := RowAt.new W 38 #[.int .i64 A, .int .i64 B, .int .i64 C, .int .i64 D]
      match j, hj with
      | 0, hj => simp at hj; subst hj; exact R.cell 0
      | 1, hj => simp at hj; subst hj; exact R.cell 1
      | 2, hj => simp at hj; subst hj; exact R.cell 2
      | 3, hj => simp at hj; subst hj; exact R.cell 3
    · intro u hu; simp at hu; rcases hu with rfl | rfl | rfl | rfl <;> rfl
    · intro v' w1 hown' hgrow hfr
      obtain ⟨g', cap', rfl⟩ := ownsRow_succ hown'
      obtain ⟨hv1, hv2, hr2, hk2, hb2⟩ := hv.appended (by decide) hrow hB.size (Nat.le_refl _) hown' hgrow
      have hc1 := hv1.cell
      have hf1 := hv1.frozen
      have hT2 := tc_appended hv hv2 hr2 hgrow (by rw [World.size_alloc]; exact hfr)
      gi_wp2
      exact ⟨hk2.from _, hT2, ⟨_, hv2, by rw [hF.out, List.length_append]; exact hr2, trivial⟩, hB.trans hb2⟩
  case done =>
    rintro D ys W hD rfl ⟨⟨v, hv, hrow, _⟩, hB⟩ hK
    have cv := hv.cell
    gi_wp2
    refine ⟨by simp, .inl ⟨_, _, rfl, run_takeDeferred hK, ?_⟩⟩
    refine ⟨_, results_tmp rfl _ _ _, v, rfl, ?_, hB.trans (belowK_b (w := w) (Nat.le_refl _) W D _ _ (by simp at hD; omega) hK rfl rfl)⟩
    have := ownsRow_putObj hrow (.deferred none) hK rfl
    rw [List.map_id', List.length_range, rgF_range] at this
    exact this
  case stop =>
    rintro D c pre W _ _ h _
    exact h.elim
end Go.Proofs.YthdmaamocejodaaDoor
namespace Go.Proofs.YthdmaamocejodaaDoor
open Go.RowKit
theorem rowFar5 {w w' : World} {b : Nat} {t : TypeId} {cs : Array Value} {r : Option Nat} (h : RowAt w b t cs) (hg : w.grownBy w' r) (hne : some b ≠ r) : RowAt w' b t cs := (hg.block b h.lt hne).trans h
theorem Rngs.setRow {w : World} {a : Option Addr} {n cap : Nat} {f : Nat → Int} (h : Rngs w a n cap f) (g : Nat) (cs : Array Value) (hn : ∀ b, a = some ⟨b, 0, none⟩ → b ≠ g) : Rngs (w.setRow g cs) a n cap f := by
  refine ⟨h.1, ?_⟩
  rcases h.2 with h0 | ⟨b, he, h1, h2⟩
  · exact Or.inl h0
  · refine Or.inr ⟨b, he, by rw [setRow_size]; exact h1, fun p hp => ?_⟩
    rw [← h2 p hp]
    simp only [World.cell?, setRow_other w g b cs (hn b he)]
theorem OwnRg.ne {w : World} {base : Nat} {v : Value} {n : Nat} {xs : List Value} {c : Nat} (h : OwnRg w base v n xs) (hc : c < base ∨ w.heap.size ≤ c) : some c ≠ v.ownBlock := by
  intro e
  have := World.ownsRow.lt h c e.symm
  omega
theorem OwnRg.other {w : World} {base : Nat} {v : Value} {n : Nat} {xs : List Value} (h : OwnRg w base v n xs) (a : Addr) (x : Value) (hn : some a.block ≠ v.ownBlock) : OwnRg (w.setCell a x) base v n xs := by
  refine ⟨h.1, ?_⟩
  rcases h.2 with h0 | ⟨g, cap, cur, he, hb, hr, rest⟩
  · exact Or.inl h0
  · refine Or.inr ⟨g, cap, cur, he, hb, ?_, rest⟩
    exact RowAt.other (show RowAt w g 38 cur from hr) a x (fun e => hn (by rw [he, ← e]; rfl))
theorem OwnRg.alloc {w : World} {base : Nat} {v : Value} {n : Nat} {xs : List Value} (h : OwnRg w base v n xs) (o : Obj) : OwnRg (w.alloc o) base v n xs := World.ownsRow.alloc h o
theorem OwnRg.drew {w : World} {base : Nat} {v : Value} {n : Nat} {xs : List Value} (h : OwnRg w base v n xs) : OwnRg w.drew base v n xs := World.ownsRow.drew h
theorem wrapS (x : Int) (h0 : 0 ≤ x) (h1 : x < 9223372036854775808) : IntKind.i64.wrap x = x := by rw [IntKind.wrap_i64]; omega
end Go.Proofs.YthdmaamocejodaaDoor
namespace Go.Proofs.YthdmaamocejodaaDoor
open Go.RowKit
/-! Answers with ranges of shards: what the laws ask of them. -/
abbrev rrv (k : Int) (a : Option Addr) (n c : Nat) : Value := .agg #[.int .i64 k, .slice a n c]
/-- ranges that lie in blocks below hi -/
def RngsB (w : World) (hi : Nat) (a : Option Addr) (n c : Nat) (f : Nat → Int) : Prop := n ≤ c ∧ (n = 0 ∨ ∃ b, a = some ⟨b, 0, none⟩ ∧ b < hi ∧ b < w.heap.size ∧ ∀ p, p < 4 * n → w.cell? ⟨b, p, none⟩ = some (.int .i64 (f p)))
theorem RngsB.of {w : World} {a : Option Addr} {n c : Nat} {f : Nat → Int} (h : Rngs w a n c f) : RngsB w w.heap.size a n c f := by
  refine ⟨h.1, ?_⟩
  rcases h.2 with h0 | ⟨b, he, h1, h2⟩
  · exact Or.inl h0
  · exact Or.inr ⟨b, he, h1, h1, h2⟩
theorem RngsB.rngs {w : World} {hi n c : Nat} {a : Option Addr} {f : Nat → Int} (h : RngsB w hi a n c f) : Rngs w a n c f := by
  refine ⟨h.1, ?_⟩
  rcases h.2 with h0 | ⟨b, he, h1, h2, h3⟩
  · exact Or.inl h0
  · exact Or.inr ⟨b, he, h2, h3⟩
theorem RngsB.blocks {w w' : World} {hi n c : Nat} {a : Option Addr} {f : Nat → Int} (h : RngsB w hi a n c f) (hs : w.heap.size ≤ w'.heap.size) (hb : ∀ b, b < hi → b < w.heap.size → w'.heap[b]? = w.heap[b]?) : RngsB w' hi a n c f := by
  refine ⟨h.1, ?_⟩
  rcases h.2 with h0 | ⟨b, he, h1, h2, h3⟩
  · exact Or.inl h0
  · refine Or.inr ⟨b, he, h1, by omega, fun i hi => ?_⟩
    rw [← h3 i hi]
    simp only [World.cell?, hb b h1 h2]
theorem RngsB.below {w w' : World} {hi n c m : Nat} {a : Option Addr} {f : Nat → Int} (h : RngsB w hi a n c f) (hb : Below m w w') (hm : hi ≤ m) : RngsB w' hi a n c f := h.blocks hb.size fun b h1 _ => hb.block b (by omega)
theorem RngsB.alloc {w : World} {hi n c : Nat} {a : Option Addr} {f : Nat → Int} (h : RngsB w hi a n c f) (o : Obj) : RngsB (w.alloc o) hi a n c f := h.blocks (by rw [size_al]; omega) fun b _ h2 => ((Below.refl w.heap.size w).alloc (Nat.le_refl _) o).block b h2
theorem RngsB.drew {w : World} {hi n c : Nat} {a : Option Addr} {f : Nat → Int} (h : RngsB w hi a n c f) : RngsB w.drew hi a n c f := h
theorem RngsB.turned {w w' : World} {hi l2 h2 n c : Nat} {a : Option Addr} {f : Nat → Int} (h : RngsB w hi a n c f) (hg : Turned l2 h2 w w') (hn : hi ≤ l2) : RngsB w' hi a n c f := h.blocks hg.size fun b h1 h2 => hg.block b h2 (by omega)
/-- an answer's own ranges, in a block from lo up to hi -/
def OwnR (w : World) (lo hi : Nat) (a : Option Addr) (n c : Nat) (f : Nat → Int) : Prop :=
  n ≤ c ∧ (n = 0 ∨ ∃ b N g, a = some ⟨b, 0, none⟩ ∧ lo ≤ b ∧ b < hi ∧ 4 * n ≤ N ∧ FRow w b 38 N g ∧ ∀ p, p < 4 * n → g p = .int .i64 (f p))
theorem OwnR.rngs {w : World} {lo hi n c : Nat} {a : Option Addr} {f : Nat → Int} (h : OwnR w lo hi a n c f) : Rngs w a n c f := by
  refine ⟨h.1, ?_⟩
  rcases h.2 with h0 | ⟨b, N, g, he, h1, h2, h3, h4, h5⟩
  · exact Or.inl h0
  · exact Or.inr ⟨b, he, h4.lt, fun p hp => by rw [h4.cell (show p < N by omega), h5 p hp]⟩
theorem FRow.turned5 {w w' : World} {b lo hi n : Nat} {t : TypeId} {f : Nat → Value} (h : FRow w b t n f) (hg : Turned lo hi w w') (hn : b < lo ∨ hi ≤ b) : FRow w' b t n f := by
  obtain ⟨cs, h1, h2, h3⟩ := h; exact ⟨cs, h1.turned hg hn, h2, h3⟩
theorem OwnR.map {w w' : World} {lo hi n c : Nat} {a : Option Addr} {f : Nat → Int} (h : OwnR w lo hi a n c f) (hm : ∀ b N g, lo ≤ b → b < hi → FRow w b 38 N g → FRow w' b 38 N g) : OwnR w' lo hi a n c f := by
  refine ⟨h.1, ?_⟩
  rcases h.2 with h0 | ⟨b, N, g, he, h1, h2, h3, h4, h5⟩
  · exact Or.inl h0
  · exact Or.inr ⟨b, N, g, he, h1, h2, h3, hm b N g h1 h2 h4, h5⟩
theorem OwnR.below {w w' : World} {lo hi n c m : Nat} {a : Option Addr} {f : Nat → Int} (h : OwnR w lo hi a n c f) (hb : Below m w w') (hm : hi ≤ m) : OwnR w' lo hi a n c f := h.map fun _ _ _ _ h2 h4 => h4.below hb (by omega)
theorem OwnR.alloc {w : World} {lo hi n c : Nat} {a : Option Addr} {f : Nat → Int} (h : OwnR w lo hi a n c f) (o : Obj) : OwnR (w.alloc o) lo hi a n c f := h.map fun _ _ _ _ _ h4 => h4.alloc o
theorem OwnR.drew {w : World} {lo hi n c : Nat} {a : Option Addr} {f : Nat → Int} (h : OwnR w lo hi a n c f) : OwnR w.drew lo hi a n c f := h
theorem OwnR.turned {w w' : World} {lo hi l2 h2 n c : Nat} {a : Option Addr} {f : Nat → Int} (h : OwnR w lo hi a n c f) (hg : Turned l2 h2 w w') (hn : hi ≤ l2 ∨ h2 ≤ lo) : OwnR w' lo hi a n c f := h.map fun _ _ _ q1 q2 h4 => h4.turned5 hg (by omega)
/-- the program's answer, and the specification's -/
def AnsRI (k : Int) (n : Nat) (f : Nat → Int) (w : World) (e : Ending) (w' : World) : Prop := ∃ a c, e = .returned (rrv k a n c) ∧ OwnR w' w.heap.size w'.heap.size a n c f ∧ Below w.heap.size w w'
def AnsRS (k : Int) (n : Nat) (f : Nat → Int) (w : World) (e : Ending) (w' : World) : Prop := ∃ a c, e = .returned (rrv k a n c) ∧ RngsB w' w'.heap.size a n c f ∧ Below w.heap.size w w'
end Go.Proofs.YthdmaamocejodaaDoor
namespace Go.Proofs.YthdmaamocejodaaDoor
open Go.RowKit
/-! A row of ranges that a call has appended to is an answer's own. -/
theorem OwnRg.own {w : World} {base : Nat} {a : Option Addr} {cp : Nat} {v : Value} {K u f t n : Nat} (h : OwnRg w base v n (rgL K u f t n)) (hv : v = .slice a n cp) : OwnR w base w.heap.size a n cp (fun p => ((rgC K u f t p : Nat) : Int)) := by
  rcases h.2 with ⟨h0, h1⟩ | ⟨g, cap, cur, he, hb, hr, hnc, hm, hsz, htk⟩
  · rw [hv] at h0; cases h0; exact ⟨Nat.le_refl _, Or.inl rfl⟩
  · rw [hv] at he; cases he
    have R : RowAt w g 38 cur := hr
    refine ⟨hnc, Or.inr ⟨g, cur.size, fun p => cur[p]?.getD undef, rfl, hb, R.lt, by rw [hsz]; omega, ⟨cur, R, rfl, fun p hp => by simp [Array.getElem?_eq_getElem hp]⟩, fun p hp => ?_⟩⟩
    have := congrArg (·[p]?) htk
    simp only [List.getElem?_take] at this
    rw [if_pos (by omega), rgL, List.getElem?_map, List.getElem?_range hp] at this
    have h9 : cur[p]? = some (.int .i64 ((rgC K u f t p : Nat) : Int)) := by simpa using this
    simp [h9]
theorem OwnR.setRow {w : World} {lo hi n c : Nat} {a : Option Addr} {f : Nat → Int} (h : OwnR w lo hi a n c f) (g : Nat) (cs : Array Value) (hg : g < lo ∨ hi ≤ g) : OwnR (w.setRow g cs) lo hi a n c f := h.map fun b N q h1 h2 h4 => by
  obtain ⟨x, r, e1, e2⟩ := h4
  exact ⟨x, (setRow_other w g b cs (by omega)).trans r, e1, e2⟩
theorem OwnR.mono {w : World} {lo hi lo' hi' n c : Nat} {a : Option Addr} {f : Nat → Int} (h : OwnR w lo hi a n c f) (h1 : lo' ≤ lo) (h2 : hi ≤ hi') : OwnR w lo' hi' a n c f := by
  refine ⟨h.1, ?_⟩
  rcases h.2 with h0 | ⟨b, N, g, he, q1, q2, r⟩
  · exact Or.inl h0
  · exact Or.inr ⟨b, N, g, he, by omega, by omega, r⟩
end Go.Proofs.YthdmaamocejodaaDoor
namespace Go.Proofs.YthdmaamocejodaaDoor
open Go.RowKit
/-! The program's RangeReads. -/
set_option maxHeartbeats 1000000 in
theorem icollect (K M G U f t : Nat) (h1 : 1 ≤ K) (h2 : K ≤ 32) (h6 : 1 ≤ U) (h7 : U ≤ 4096) (ht : t ≤ 300000) (bf bt bl : Nat) (w : World)
    (rF : RowAt w bf 2 #[.int .i64 (f : Int)]) (rE : RowAt w bt 2 #[.int .i64 (t : Int)]) (rL : RowAt w bl 50 (lya K M G U)) :
    Calls Tryd.prog 18 #[.func (.func 29) #[] #[.pointer (some ⟨bf, 0, none⟩), .pointer (some ⟨bt, 0, none⟩), .pointer (some ⟨bl, 0, none⟩)]] w fun e W' =>
      ∃ v, e = .returned v ∧ OwnRg W' w.heap.size v (rgN U f t) (rgL K U f t (rgN U f t)) ∧ Below w.heap.size w W' := by
  go_enter Tryd.func18, Tryd.ntmps18
  go_wp2_with fail
  refine (callsIn_wide.1 (iappseq 5 K M G U f t (by decide) h1 h2 h6 h7 ht bf bt bl w rF rE rL)).mono ?_
  rintro e w1 ⟨v, rfl, hO, hb⟩
  go_wp2
  go_ret
  exact ⟨v, rfl, hO, hb⟩
set_option maxRecDepth 20000 in
set_option maxHeartbeats 2000000 in
theorem irng_no (k m g u s f c : Int) (w : World) (hno : stripeN k m g u s = -1 ∨ f < 0 ∨ c < 0) :
    Calls Tryd.prog 8 #[cdv k m g, .int .i64 u, .int .i64 s, .int .i64 f, .int .i64 c] w fun e w' => AnsRI 1 0 (fun _ => 0) w e w' := by
  have R0 : Hid (RowAt ((w.alloc (.cells (cda k m g) 24)).alloc (.cells #[.int .i64 0, .slice none 0 0] 35)) (w.heap.size + 1) 35 #[.int .i64 0, .slice none 0 0]) := RowAt.next _ _ _ (by rw [size_al])
  have B0 : Hid (Below w.heap.size w ((w.alloc (.cells (cda k m g) 24)).alloc (.cells #[.int .i64 0, .slice none 0 0] 35))) := bal5 (bal5 (Below.refl _ _) _) _
  go_enter Tryd.func8, Tryd.ntmps8
  go_wp2_with fail
  refine (iStripe _ _ _ _ _ _).mono ?_
  rintro e w1 ⟨rfl, hw1⟩
  have R1 : Hid (RowAt w1 (w.heap.size + 1) 35 #[.int .i64 0, .slice none 0 0]) := R0.out.below hw1 R0.out.lt
  have B1 : Hid (Below w.heap.size w w1) := B0.out.trans (hw1.mono B0.out.size)
  clear hw1 R0 B0
  have fin : ∀ w' : World, RowAt w' (w.heap.size + 1) 35 #[.int .i64 0, .slice none 0 0] → Below w.heap.size w w' → AnsRI 1 0 (fun _ => 0) w (.returned (rsv 1 none 0 0)) (w'.setRow (w.heap.size + 1) #[.int .i64 1, .slice none 0 0]) := fun w' _ hb =>
    ⟨none, 0, rfl, ⟨Nat.le_refl _, Or.inl rfl⟩, below_setRow hb _ _ (by omega)⟩
  have FIN := hid fin
  clear fin
  rcases stripe_lo k m g u s with hs | ⟨hs0, hs1⟩
  · rw [hs]
    clear hno hs
    go_wp2_with (refine wpList_store_row rfl 35 (.tmp 10) (.tmp 26) rfl (w.heap.size + 1) #[.int .i64 1, .slice none 0 0] rfl rfl _ _ R1.out (by kernel_rfl) rfl (oneR _ _ _ _) ?_)
    refine bodyPost_ret (v := rsv 1 none 0 0) ?_ rfl (FIN.out _ R1.out B1.out)
    exact results_cell_row Tryd.results8 _ _ (w.heap.size + 1) _ _ _ _ rfl (R1.out.setRow _) Tryd.underlying35 rfl (by kernel_rfl)
  · have hno' : f < 0 ∨ c < 0 := by omega
    obtain ⟨N, hN⟩ : ∃ N : Int, N = stripeN k m g u s := ⟨_, rfl⟩
    rw [← hN] at hs0 hs1 ⊢
    have dN : decide (N < 0) = false := by simp; omega
    clear hN hno
    by_cases hf : f < 0
    · have df : decide (f < 0) = true := by simp; omega
      go_wp2_with (refine wpList_store_row rfl 35 (.tmp 10) (.tmp 26) rfl (w.heap.size + 1) #[.int .i64 1, .slice none 0 0] rfl rfl _ _ R1.out (by kernel_rfl) rfl (oneR _ _ _ _) ?_)
      refine bodyPost_ret (v := rsv 1 none 0 0) ?_ rfl (FIN.out _ R1.out B1.out)
      exact results_cell_row Tryd.results8 _ _ (w.heap.size + 1) _ _ _ _ rfl (R1.out.setRow _) Tryd.underlying35 rfl (by kernel_rfl)
    · have df : decide (f < 0) = false := by simp; omega
      have dc : decide (c < 0) = true := by simp; omega
      go_wp2_with (refine wpList_store_row rfl 35 (.tmp 10) (.tmp 26) rfl (w.heap.size + 1) #[.int .i64 1, .slice none 0 0] rfl rfl _ _ R1.out (by kernel_rfl) rfl (oneR _ _ _ _) ?_)
      refine bodyPost_ret (v := rsv 1 none 0 0) ?_ rfl (FIN.out _ R1.out B1.out)
      exact results_cell_row Tryd.results8 _ _ (w.heap.size + 1) _ _ _ _ rfl (R1.out.setRow _) Tryd.underlying35 rfl (by kernel_rfl)
/-- the numbers of the entries do not hang on where a range behind the end begins -/
theorem ans_move {n n' : Nat} {f f' : Nat → Int} {w : World} {e : Ending} {w' : World} (hn : n = n') (hf : n = 0 ∨ f = f') (h : AnsRI 0 n f w e w') : AnsRI 0 n' f' w e w' := by
  subst hn
  rcases hf with h0 | rfl
  · subst h0
    obtain ⟨a, c, he, ho, hb⟩ := h
    exact ⟨a, c, he, ⟨ho.1, Or.inl rfl⟩, hb⟩
  · exact h
set_option maxRecDepth 20000 in
set_option maxHeartbeats 4000000 in
theorem irng_ok0 (K M G U S f c t : Nat) (h1 : 1 ≤ K) (h2 : K ≤ 32) (h6 : 1 ≤ U) (h7 : U ≤ 4096) (h8 : S ≤ 100000) (h9 : f ≤ 9223372036854775807) (hn : stripeN K M G U S ≠ -1)
    (hmin : (t : Int) = (f : Int) + min (c : Int) ((S : Int) - (f : Int))) (w : World) :
    Calls Tryd.prog 8 #[cdv K M G, .int .i64 U, .int .i64 S, .int .i64 f, .int .i64 c] w fun e w' => AnsRI 0 (rgN U f t) (fun p => ((rgC K U f t p : Nat) : Int)) w e w' := by
  have C0 : Hid (RowAt ((w.alloc (.cells (cda K M G) 24)).alloc (.cells #[.int .i64 0, .slice none 0 0] 35)) w.heap.size 24 (cda K M G)) := (RowAt.new _ _ _).alloc _
  have R0 : Hid (RowAt ((w.alloc (.cells (cda K M G) 24)).alloc (.cells #[.int .i64 0, .slice none 0 0] 35)) (w.heap.size + 1) 35 #[.int .i64 0, .slice none 0 0]) := RowAt.next _ _ _ (by rw [size_al])
  have B0 : Hid (Below w.heap.size w ((w.alloc (.cells (cda K M G) 24)).alloc (.cells #[.int .i64 0, .slice none 0 0] 35))) := bal5 (bal5 (Below.refl _ _) _) _
  have Z0 : Hid (((w.alloc (.cells (cda K M G) 24)).alloc (.cells #[.int .i64 0, .slice none 0 0] 35)).heap.size = w.heap.size + 2) := by show _ = _; simp only [size_al]
  obtain ⟨N, hN⟩ : ∃ N : Nat, stripeN K M G U S = (N : Int) := by
    rcases stripe_lo K M G U S with h | ⟨h, _⟩
    · exact absurd h hn
    · exact ⟨_, (Int.toNat_of_nonneg h).symm⟩
  have HN := hid hN
  clear hn hN
  have ht : t ≤ 100000 := by omega
  obtain ⟨E, hE⟩ : ∃ E : Int, E = (S : Int) - (f : Int) := ⟨_, rfl⟩
  obtain ⟨D, hD⟩ : ∃ D : Int, D = min (c : Int) E := ⟨_, rfl⟩
  have e1 : (S : Int) - (f : Int) = E := hE.symm
  have e2 : (f : Int) + D = (t : Int) := by rw [hD, hE]; omega
  have HD := hid hD
  have bE : -9223372036854775807 ≤ E ∧ E ≤ 100000 := by omega
  have bD : -9223372036854775807 ≤ D ∧ D ≤ 100000 := by omega
  clear hE hmin hD
  go_enter Tryd.func8, Tryd.ntmps8
  go_wp2_with fail
  refine (iStripe _ _ _ _ _ _).mono ?_
  rintro e w1 ⟨rfl, hw1⟩
  rw [HN.out]
  have C1 : Hid (RowAt w1 w.heap.size 24 (cda K M G)) := C0.out.below hw1 C0.out.lt
  have R1 : Hid (RowAt w1 (w.heap.size + 1) 35 #[.int .i64 0, .slice none 0 0]) := R0.out.below hw1 R0.out.lt
  have B1 : Hid (Below w.heap.size w w1) := B0.out.trans (hw1.mono B0.out.size)
  have Z1 : Hid (w.heap.size + 2 ≤ w1.heap.size) := by have := hw1.size; rwa [Z0.out] at this
  clear hw1 C0 R0 B0 Z0
  have dN : decide ((N : Int) < 0) = false := by simp
  have df : decide ((f : Int) < 0) = false := by simp
  have dc : decide ((c : Int) < 0) = false := by simp
  have c0 := C1.out.cell 0
  have c1 := C1.out.cell 1
  have c2 := C1.out.cell 2
  by_cases hcE : E < (c : Int)
  · have e3 : (f : Int) + E = (t : Int) := by have := HD.out; omega
    clear HD e2
    go_wp2_with fail
    refine (iranges K M G U f t _).mono ?_
    rintro e w2 ⟨rfl, hw2⟩
    have L2 : RowAt w2 (w1.heap.size + 1) 50 (lya K M G U) := by rw [hw2]; exact ((RowAt.next _ _ _ (by rw [size_al])).alloc _).alloc _
    have F2 : RowAt w2 (w1.heap.size + 1 + 1) 2 #[.int .i64 (f : Int)] := by rw [hw2]; exact (RowAt.next _ _ _ (by simp only [size_al])).alloc _
    have E2 : RowAt w2 (w1.heap.size + 1 + 1 + 1) 2 #[.int .i64 (t : Int)] := by rw [hw2]; exact RowAt.next _ _ _ (by simp only [size_al])
    have R2 : Hid (RowAt w2 (w.heap.size + 1) 35 #[.int .i64 0, .slice none 0 0]) := by rw [hw2]; exact (((R1.out.alloc _).alloc _).alloc _).alloc _
    have B2 : Hid (Below w.heap.size w w2) := by rw [hw2]; exact bal5 (bal5 (bal5 (bal5 B1.out _) _) _) _
    have Z2 : Hid (w.heap.size + 2 ≤ w2.heap.size) := by have h9 := Z1.out; rw [hw2]; show _ ≤ _; simp only [size_al]; omega
    have RC := hid (icollect K M G U f t h1 h2 h6 h7 (by omega) _ _ _ w2 F2 E2 L2)
    clear hw2 R1 B1 Z1 C1 c0 c1 c2 L2 F2 E2
    go_wp2_with fail
    refine RC.out.mono ?_
    rintro e w3 ⟨v, rfl, hO, hb3⟩
    have R3 : Hid (RowAt w3 (w.heap.size + 1) 35 #[.int .i64 0, .slice none 0 0]) := R2.out.below hb3 R2.out.lt
    have B3 : Hid (Below w.heap.size w w3) := B2.out.trans (hb3.mono B2.out.size)
    obtain ⟨a5, c5, rfl, _⟩ := hO.rngs
    have HRg := hid (hO.own rfl)
    have hs3 := hb3.size
    clear RC R2 B2 hb3 hO
    go_wp2_with (refine wpList_store_row rfl 35 (.tmp 10) (.tmp 42) rfl (w.heap.size + 1) #[.int .i64 0, .slice a5 (rgN U f t) c5] rfl rfl _ _ R3.out (by kernel_rfl) rfl (oneR _ _ _ _) ?_)
    refine bodyPost_ret (v := rsv 0 a5 (rgN U f t) c5) ?_ rfl ⟨a5, c5, rfl, ?_, below_setRow B3.out _ _ (by omega)⟩
    · exact results_cell_row Tryd.results8 _ _ (w.heap.size + 1) _ _ _ _ rfl (R3.out.setRow _) Tryd.underlying35 rfl (by kernel_rfl)
    · have h8 := Z2.out
      exact (HRg.out.setRow (w.heap.size + 1) _ (by omega)).mono (by omega) (by rw [setRow_size]; omega)
  · have e3 : (f : Int) + (c : Int) = (t : Int) := by have := HD.out; omega
    clear HD e2
    go_wp2_with fail
    refine (iranges K M G U f t _).mono ?_
    rintro e w2 ⟨rfl, hw2⟩
    have L2 : RowAt w2 (w1.heap.size + 1) 50 (lya K M G U) := by rw [hw2]; exact ((RowAt.next _ _ _ (by rw [size_al])).alloc _).alloc _
    have F2 : RowAt w2 (w1.heap.size + 1 + 1) 2 #[.int .i64 (f : Int)] := by rw [hw2]; exact (RowAt.next _ _ _ (by simp only [size_al])).alloc _
    have E2 : RowAt w2 (w1.heap.size + 1 + 1 + 1) 2 #[.int .i64 (t : Int)] := by rw [hw2]; exact RowAt.next _ _ _ (by simp only [size_al])
    have R2 : Hid (RowAt w2 (w.heap.size + 1) 35 #[.int .i64 0, .slice none 0 0]) := by rw [hw2]; exact (((R1.out.alloc _).alloc _).alloc _).alloc _
    have B2 : Hid (Below w.heap.size w w2) := by rw [hw2]; exact bal5 (bal5 (bal5 (bal5 B1.out _) _) _) _
    have Z2 : Hid (w.heap.size + 2 ≤ w2.heap.size) := by have h9 := Z1.out; rw [hw2]; show _ ≤ _; simp only [size_al]; omega
    have RC := hid (icollect K M G U f t h1 h2 h6 h7 (by omega) _ _ _ w2 F2 E2 L2)
    clear hw2 R1 B1 Z1 C1 c0 c1 c2 L2 F2 E2
    go_wp2_with fail
    refine RC.out.mono ?_
    rintro e w3 ⟨v, rfl, hO, hb3⟩
    have R3 : Hid (RowAt w3 (w.heap.size + 1) 35 #[.int .i64 0, .slice none 0 0]) := R2.out.below hb3 R2.out.lt
    have B3 : Hid (Below w.heap.size w w3) := B2.out.trans (hb3.mono B2.out.size)
    obtain ⟨a5, c5, rfl, _⟩ := hO.rngs
    have HRg := hid (hO.own rfl)
    have hs3 := hb3.size
    clear RC R2 B2 hb3 hO
    go_wp2_with (refine wpList_store_row rfl 35 (.tmp 10) (.tmp 42) rfl (w.heap.size + 1) #[.int .i64 0, .slice a5 (rgN U f t) c5] rfl rfl _ _ R3.out (by kernel_rfl) rfl (oneR _ _ _ _) ?_)
    refine bodyPost_ret (v := rsv 0 a5 (rgN U f t) c5) ?_ rfl ⟨a5, c5, rfl, ?_, below_setRow B3.out _ _ (by omega)⟩
    · exact results_cell_row Tryd.results8 _ _ (w.heap.size + 1) _ _ _ _ rfl (R3.out.setRow _) Tryd.underlying35 rfl (by kernel_rfl)
    · have h8 := Z2.out
      exact (HRg.out.setRow (w.heap.size + 1) _ (by omega)).mono (by omega) (by rw [setRow_size]; omega)
theorem irng_ok (K M G U S f c f1 c1 : Nat) (w : World) (h1 : 1 ≤ K) (h2 : K ≤ 32) (_ : M ≤ 16) (_ : G ≤ K) (_ : K + M + G ≤ 64) (h6 : 1 ≤ U) (h7 : U ≤ 4096) (h8 : S ≤ 100000) (h9 : f ≤ 9223372036854775807) (_ : c ≤ 9223372036854775807) (hn : stripeN K M G U S ≠ -1) (hf : f1 = min f S) (hc : c1 = min c (S - f1)) :
    Calls Tryd.prog 8 #[cdv K M G, .int .i64 U, .int .i64 S, .int .i64 f, .int .i64 c] w fun e w' => AnsRI 0 (rgN U f1 (f1 + c1)) (fun p => ((rgC K U f1 (f1 + c1) p : Nat) : Int)) w e w' := by
  by_cases hfs : f ≤ S
  · have e1 : f1 = f := by omega
    subst e1
    exact irng_ok0 K M G U S f1 c (f1 + c1) h1 h2 h6 h7 h8 h9 hn (by omega) w
  · have e1 : f1 = S := by omega
    have e2 : c1 = 0 := by omega
    subst e1 e2
    have z1 : rgN U f f1 = 0 := if_neg (by omega)
    have z2 : rgN U f1 (f1 + 0) = 0 := if_neg (by omega)
    refine (irng_ok0 K M G U f1 f c f1 h1 h2 h6 h7 h8 h9 hn (by omega) w).mono ?_
    intro e w' h
    exact ans_move (by rw [z1, z2]) (Or.inl z1) h
end Go.Proofs.YthdmaamocejodaaDoor
