import Derived.Maps.AppendAt
import Derived.Test.YthdmaamocejodaaIIter
import Derived.Test.YthdmaamocejodaaAppF
import Derived.Test.YthdmaamocejodaaSRng
namespace Go.Proofs.Ythdmaamocejodaa
open Go.RowKit Go.Shelf
attribute [local go_sem] Oper.semAt_some
/-! The program's entries of a range, collected. -/
/-- the blocks of a loop that collects into the variable at Bx -/
def tc (Bx : Nat) (W : World) (b : Nat) : Prop := b = Bx ∨ ∃ v, W.cell? ⟨Bx, 0, none⟩ = some v ∧ v.ownBlock = some b
theorem tc_local {B Bx : Nat} (h : Bx < B) : TLocal B (tc Bx) := fun W W' b hk hb => by
  rcases hb with rfl | ⟨v, hv, ho⟩
  · exact Or.inl rfl
  · exact Or.inr ⟨v, by rw [← hv]; exact World.cell?_of_block (hk Bx h), ho⟩
theorem TKeeps.below {T : World → Nat → Prop} {B : Nat} {W W' : World} (hT : TLocal B T) (hB : B ≤ W.heap.size) (h : Below W.heap.size W W') : TKeeps T W W' := by
  have back : ∀ b, T W' b → T W b := fun b hx => hT _ _ b (fun k hk => (h.block k (by omega)).symm) hx
  exact ⟨h.size, fun q b hb => Nat.lt_of_lt_of_le (q b (back b hb)) h.size, fun b o ho _ hn => ⟨(h.block b (Array.getElem?_eq_some_iff.1 ho).1).trans ho, fun hb => hn (back b hb)⟩⟩
theorem tc_appended {W w1 : World} {Bx base size k : Nat} {t e : TypeId} {v v' : Value} {xs : List Value} {tmp : Obj} (hv : Boxed W Bx t v) (hv2 : Boxed (w1.setCell ⟨Bx, 0, none⟩ v') Bx t v')
    (hr2 : (w1.setCell ⟨Bx, 0, none⟩ v').ownsRow base e size v' k xs) (hg : (W.alloc tmp).grownBy w1 v.ownBlock) (hf : v'.ownBlock = v.ownBlock ∨ ∀ q, v'.ownBlock = some q → (W.alloc tmp).heap.size ≤ q) :
    TKeeps (tc Bx) W (w1.setCell ⟨Bx, 0, none⟩ v') := by
  have hs : W.heap.size + 1 ≤ w1.heap.size := by have := hg.size; rwa [World.size_alloc] at this
  refine ⟨by rw [World.size_setCell]; omega, fun _ b hb => ?_, fun b o ho _ hn => ?_⟩
  · rcases hb with rfl | ⟨u, hu, ho⟩
    · exact hv2.lt
    · rw [hv2.cell] at hu; cases hu; exact (hr2.lt b ho).2
  · have hb : b < W.heap.size := (Array.getElem?_eq_some_iff.1 ho).1
    have n1 : b ≠ Bx := fun e => hn (Or.inl e)
    have n2 : v.ownBlock ≠ some b := fun e => hn (Or.inr ⟨v, hv.cell, e⟩)
    refine ⟨?_, fun hx => ?_⟩
    · rw [Below.heap_setCell _ _ _ b n1, hg.block b (by rw [World.size_alloc]; omega) (fun e => n2 e.symm), Below.heap_alloc W tmp b hb]; exact ho
    · rcases hx with e | ⟨u, hu, hob⟩
      · exact n1 e
      · rw [hv2.cell] at hu; cases hu
        rcases hf with h | h
        · exact n2 (h ▸ hob)
        · have := h b hob; rw [World.size_alloc] at this; omega
theorem rgN_le' (u f t : Nat) : rgN u f t ≤ t := by
  unfold rgN
  split
  · have h1 : (t - 1) / u ≤ t - 1 := Nat.div_le_self _ _
    have h2 := Nat.sub_le ((t - 1) / u) (f / u)
    have h3 := Nat.le_trans h2 h1
    omega
  · omega
/-- the entry of a number -/
def enI (K u f t i : Nat) : Array Value := #[.int .i64 ((rgAt u f t i / u / K : Nat) : Int), .int .i64 ((rgAt u f t i / u % K : Nat) : Int), .int .i64 ((rgAt u f t i % u : Nat) : Int), .int .i64 ((rgAt u f t (i + 1) - rgAt u f t i : Nat) : Int)]
def rgF (K u f t : Nat) (pre : List Nat) : List Value := pre.flatMap fun i => (enI K u f t i).toList
theorem rgF_range (K u f t : Nat) : ∀ n, rgF K u f t (List.range n) = rgL K u f t n
  | 0 => rfl
  | n + 1 => by
    rw [rgL_succ, ← rgF_range K u f t n, List.range_succ]
    unfold rgF
    rw [List.flatMap_append, List.flatMap_singleton]
    unfold enI
    rw [Nat.div_div_eq_div_mul, Nat.mul_comm u K]
theorem rgF_len (K u f t : Nat) (pre : List Nat) : (rgF K u f t pre).length = pre.length * 4 := by
  unfold rgF
  induction pre with
  | nil => rfl
  | cons x xs ih => rw [List.flatMap_cons, List.length_append, ih]; simp [enI]; omega
set_option maxHeartbeats 1000000 in
theorem iranges (K M G U f t : Nat) (w : World) :
    Calls Try.prog 17 #[lyv K M G U, .int .i64 (f : Int), .int .i64 (t : Int)] w fun e w' => e = .returned (.func (.func 22) #[] #[.pointer (some ⟨w.heap.size + 1, 0, none⟩), .pointer (some ⟨w.heap.size + 1 + 1, 0, none⟩), .pointer (some ⟨w.heap.size, 0, none⟩)]) ∧
      w' = ((w.alloc (.cells (lya K M G U) 37)).alloc (.cells #[.int .i64 (f : Int)] 2)).alloc (.cells #[.int .i64 (t : Int)] 2) := by
  go_enter Try.func17, Try.ntmps17
  go_wp2
  go_ret
  exact ⟨rfl, rfl⟩
set_option maxRecDepth 100000 in
set_option maxHeartbeats 4000000 in
theorem iappseq (n K M G U f t : Nat) (hn : 2 ≤ n) (h1 : 1 ≤ K) (h2 : K ≤ 32) (h6 : 1 ≤ U) (h7 : U ≤ 4096) (ht : t ≤ 300000) (bf bt bl : Nat) (w : World)
    (rF : RowAt w bf 2 #[.int .i64 (f : Int)]) (rE : RowAt w bt 2 #[.int .i64 (t : Int)]) (rL : RowAt w bl 37 (lya K M G U)) :
    CallsIn Fence.wide n Try.prog 21 #[.slice none 0 0, .func (.func 22) #[] #[.pointer (some ⟨bf, 0, none⟩), .pointer (some ⟨bt, 0, none⟩), .pointer (some ⟨bl, 0, none⟩)]] w fun e W' =>
      ∃ v, e = .returned v ∧ OwnRg W' w.heap.size v (rgN U f t) (rgL K U f t (rgN U f t)) ∧ Below w.heap.size w W' := by
  obtain ⟨i0, hi, hz0, hz1, hz2⟩ := info_parts Try.infoRg
  have bO := Boxed.new w 28 (.slice none 0 0)
  have hB0 : Below w.heap.size w (w.alloc (.cells #[.slice none 0 0] 28)) := (Below.refl _ w).alloc (Nat.le_refl _) _
  have nT : ∀ b, b < w.heap.size → ¬ tc w.heap.size (w.alloc (.cells #[.slice none 0 0] 28)) b := fun b hb hx => by
    rcases hx with e | ⟨u, hu, ho⟩
    · omega
    · rw [bO.cell] at hu; cases hu; cases ho
  have hIt : ItSt (tc w.heap.size) (w.alloc (.cells #[.slice none 0 0] 28)) bf bt bl K M G U f t :=
    ⟨rF.alloc _, rE.alloc _, rL.alloc _, nT _ rF.lt, nT _ rE.lt, nT _ rL.lt, fun b hx => by
      rcases hx with rfl | ⟨u, hu, ho⟩
      · exact bO.lt
      · rw [bO.cell] at hu; cases hu; cases ho⟩
  have hTl : TLocal (w.alloc (.cells #[.slice none 0 0] 28)).heap.size (tc w.heap.size) := tc_local (by rw [World.size_alloc]; omega)
  refine callsIn_of_wp_marks Try.func21 rfl trivial ?_ rfl
  simp only [Try.ntmps21, List.size_toArray, List.length_cons, List.length_nil, Nat.reduceAdd, Nat.reduceSub, Array.replicate_succ, Array.replicate_zero, List.push_toArray, List.append_toArray, List.nil_append, List.cons_append]
  gi_wp2
  refine wpIn_rangeFunc_ownH rfl (by omega) (gf := 22) (lb := #[.pointer (some ⟨bf, 0, none⟩), .pointer (some ⟨bt, 0, none⟩), .pointer (some ⟨bl, 0, none⟩)]) rfl trivial (enters_of Try.func22 (by kernel_rfl) rfl)
    (irg1 (fun i : Nat => #[.agg (enI K U f t i)]) (fun i => i) (tc w.heap.size) (n - 1) K M G U f t h1 h2 h6 h7 ht (fun i _ => rfl) bf bt bl _ hIt hTl)
    (fun a b => a.trans b) (fun W l o o' hl h ho _ => TKeeps.put hTl W l o o' hl h ho) (Below.refl _ _) (fun _ => rfl)
    (fun pre W => (∃ v, Boxed W w.heap.size 28 v ∧ W.ownsRow w.heap.size 40 4 v pre.length (rgF K U f t pre) ∧ True) ∧ Below w.heap.size w W)
    (fun _ _ _ => False)
    (OwnFrom.and (Own.from (holdsRow_own w.heap.size w.heap.size 28 40 4 (fun pre => pre.length) (fun pre => rgF K U f t pre) (fun _ _ => True)) _) (ownFrom_below (Nat.le_refl _) (by simp)))
    (fun _ _ _ _ _ hs _ _ => hs)
    ⟨⟨_, bO, World.ownsRow_nil _ _ _ _, trivial⟩, hB0⟩
    (fun i a' W => ∃ Bv, w.heap.size < Bv ∧ RowAt W Bv 40 (enI K U f t i) ∧ a' = { tmps := #[.slice none 0 0, .func (.func 22) #[] #[.pointer (some ⟨bf, 0, none⟩), .pointer (some ⟨bt, 0, none⟩), .pointer (some ⟨bl, 0, none⟩)], .pointer (some ⟨w.heap.size, 0, none⟩), undef, .slice none 0 0, .pointer (some ⟨Bv, 0, none⟩), .func (.func 22) #[] #[.pointer (some ⟨bf, 0, none⟩), .pointer (some ⟨bt, 0, none⟩), .pointer (some ⟨bl, 0, none⟩)], .agg (enI K U f t i), undef, undef, undef, undef, undef], defers := [] })
    ?hax ?assign ?body ?done ?stop
  case hax =>
    rintro i a' _ A B row ⟨Bv, h1, h2, h3⟩ hg hr
    refine ⟨Bv, h1, (hg.block Bv h2.lt (fun e => ?_)).trans h2, h3⟩
    obtain ⟨_, o, ho, hc⟩ := hr Bv e.symm
    rw [show A.heap[Bv]? = _ from h2] at ho; cases ho; cases hc
  case assign =>
    rintro l pre x W K0 ⟨⟨v, hv, hrow, _⟩, hB⟩ hK
    obtain ⟨A, B, C, D, hE⟩ : ∃ A B C D : Int, enI K U f t x = #[.int .i64 A, .int .i64 B, .int .i64 C, .int .i64 D] := ⟨_, _, _, _, rfl⟩
    have hK' := hK _ (W.alloc (.cells (enI K U f t x) 40)) ((KeepsOthers.alloc _ _).from _) (TKeeps.below hTl (by rw [World.size_alloc]; exact hv.lt) ((Below.refl _ W).alloc (Nat.le_refl _) _)) ⟨⟨v, hv.alloc _, hrow.alloc _, trivial⟩, hB.alloc hB.size _⟩ ⟨W.heap.size, hv.lt, RowAt.new _ _ _, rfl⟩
    clear hK
    rw [hE] at hK' ⊢
    gi_wp2
    exact hK'
  case body =>
    rintro l pre x a' W hl ⟨r, hr⟩ ⟨⟨v, hv, hrow, _⟩, hB⟩ ⟨Bv, hBv, bX, rfl⟩ hlt
    have hN := rgN_le' U f t
    obtain ⟨A, B, C, D, hE⟩ : ∃ A B C D : Int, enI K U f t x = #[.int .i64 A, .int .i64 B, .int .i64 C, .int .i64 D] := ⟨_, _, _, _, rfl⟩
    have hF : Hid (rgF K U f t (pre ++ [x]) = rgF K U f t pre ++ [.int .i64 A, .int .i64 B, .int .i64 C, .int .i64 D]) := by
      show _ = _
      unfold rgF; rw [List.flatMap_append, List.flatMap_singleton, hE]
    rw [hE] at bX ⊢
    have c0 := bX.cell 0
    have c1 := bX.cell 1
    have c2 := bX.cell 2
    have c3 := bX.cell 3
    have cv := hv.cell
    gi_wp2_with (gi_at_builtin; refine wpListIn_append_fresh _ rfl _ _ 28 rfl w.heap.size 40 i0 (rgv 0 0 0 0) 4 32 Try.underlying28 hi hz0 hz1 hz2 rfl (by decide) _ _ _ rfl (hrow.alloc _) ⟨W.heap.size, 0, none⟩ 1 1 [.int .i64 A, .int .i64 B, .int .i64 C, .int .i64 D] rfl rfl ?_ ?_ (by unfold maxLen; omega) (by omega) (by have := hB.size; simp; omega) ?_)
    · intro j u hj
      have R := RowAt.new W 40 #[.int .i64 A, .int .i64 B, .int .i64 C, .int .i64 D]
      match j, hj with
      | 0, hj => simp at hj; subst hj; exact R.cell 0
      | 1, hj => simp at hj; subst hj; exact R.cell 1
      | 2, hj => simp at hj; subst hj; exact R.cell 2
      | 3, hj => simp at hj; subst hj; exact R.cell 3
    · intro u hu; simp at hu; rcases hu with rfl | rfl | rfl | rfl <;> rfl
    · intro v' w1 hown' hgrow hfr
      obtain ⟨g', cap', rfl⟩ := ownsRow_succ hown'
      obtain ⟨hv1, hv2, hr2, hk2, hb2⟩ := hv.appended (by decide) hrow hB.size (Nat.le_refl _) hown' hgrow
      have hc1 := hv1.cell
      have hf1 := hv1.frozen
      have hT2 := tc_appended hv hv2 hr2 hgrow (by rw [World.size_alloc]; exact hfr)
      gi_wp2
      exact ⟨hk2.from _, hT2, ⟨_, hv2, by rw [hF.out, List.length_append]; exact hr2, trivial⟩, hB.trans hb2⟩
  case done =>
    rintro D ys W hD rfl ⟨⟨v, hv, hrow, _⟩, hB⟩ hK
    have cv := hv.cell
    gi_wp2
    refine ⟨by simp, .inl ⟨_, _, rfl, run_takeDeferred hK, ?_⟩⟩
    refine ⟨_, results_tmp rfl _ _ _, v, rfl, ?_, hB.trans (belowK_b (w := w) (Nat.le_refl _) W D _ _ (by simp at hD; omega) hK rfl rfl)⟩
    have := ownsRow_putObj hrow (.deferred none) hK rfl
    rw [List.map_id', List.length_range, rgF_range] at this
    exact this
  case stop =>
    rintro D c pre W _ _ h _
    exact h.elim
end Go.Proofs.Ythdmaamocejodaa
