import Derived.Test.YtefnoeaehglihaaDoorIGet2
import Derived.Deep.AppendLies
namespace Go.Proofs.YtefnoeaehglihaaDoor
open Go.RowKit
/-! A reader's tables of sums: the mathematics, and how they lie. -/
abbrev SP : Int := 2147483647
def pw : Nat → Int
  | 0 => 1
  | k + 1 => pw k * 65539 % 2147483647
theorem pw_bd : ∀ k, 0 ≤ pw k ∧ pw k < 2147483647
  | 0 => by decide
  | k + 1 => by unfold pw; omega
def hd (s : ByteArray) (k : Nat) : Int := sumL 0 (s.data.toList.take k)
theorem hd_bd (s : ByteArray) : ∀ k, 0 ≤ hd s k ∧ hd s k < 2147483647 := by
  intro k
  have h0 := sumL_bd (s.data.toList.take k) 0 (by decide) (by decide)
  refine ⟨h0.1, ?_⟩
  unfold hd
  rcases List.eq_nil_or_concat (s.data.toList.take k) with h | ⟨l, c, h⟩
  · rw [h]; decide
  · rw [h]; rw [List.concat_eq_append, sumL_snoc]; unfold sumStep; omega
theorem hd_step (s : ByteArray) (k : Nat) (h : k < s.size) : hd s (k + 1) = sumStep (hd s k) s[k] := by unfold hd; rw [take_snoc s k h, sumL_snoc]
theorem cong1 (x y k d P : Int) (h : x % P = y % P) : (x * k + d) % P = (y * k + d) % P := by
  rw [Int.add_emod, Int.mul_emod, h, ← Int.mul_emod, ← Int.add_emod]
theorem sum_lin' (a : Int) : ∀ (n : Nat) (l : List UInt8), l.length = n → sumL a l % 2147483647 = (sumL 0 l + a * pw l.length) % 2147483647
  | 0, l, h => by
    have : l = [] := List.eq_nil_of_length_eq_zero h
    subst this; simp [sumL, pw]
  | n + 1, l0, h => by
    obtain ⟨l, c, rfl⟩ : ∃ l c, l0 = l ++ [c] := by
      rcases List.eq_nil_or_concat l0 with q | ⟨l, c, q⟩
      · rw [q] at h; simp at h
      · exact ⟨l, c, by rw [q, List.concat_eq_append]⟩
    have ih := sum_lin' a n l (by simpa using h)
    rw [sumL_snoc, sumL_snoc, List.length_append]
    simp only [List.length_cons, List.length_nil]
    unfold sumStep
    show (sumL a l * 65539 + c.toNat + 1) % 2147483647 % 2147483647 = ((sumL 0 l * 65539 + c.toNat + 1) % 2147483647 + a * (pw l.length * 65539 % 2147483647)) % 2147483647
    rw [Int.emod_emod_of_dvd _ (Int.dvd_refl _), Int.emod_add_emod]
    have e1 : (sumL a l * 65539 + c.toNat + 1) % 2147483647 = ((sumL 0 l + a * pw l.length) * 65539 + (c.toNat + 1)) % 2147483647 := by
      rw [show sumL a l * 65539 + (c.toNat : Int) + 1 = sumL a l * 65539 + ((c.toNat : Int) + 1) by omega]
      exact cong1 _ _ _ _ _ ih
    rw [e1]
    have e2 : (sumL 0 l * 65539 + (c.toNat : Int) + 1 + a * (pw l.length * 65539 % 2147483647)) % 2147483647 = (sumL 0 l * 65539 + (c.toNat : Int) + 1 + a * (pw l.length * 65539)) % 2147483647 := by
      rw [Int.add_emod, Int.mul_emod a, Int.emod_emod_of_dvd _ (Int.dvd_refl _), ← Int.mul_emod, ← Int.add_emod]
    rw [e2]
    congr 1
    rw [Int.add_mul, Int.mul_assoc]
    omega
theorem sum_lin (a : Int) (l : List UInt8) : sumL a l % 2147483647 = (sumL 0 l + a * pw l.length) % 2147483647 := sum_lin' a l.length l rfl
theorem table_sum (s : ByteArray) (a n : Nat) (h : a + n ≤ s.size) (hn : n ≤ 400000) : (hd s (a + n) + ((6 + 2147483647 - hd s a) % 2147483647) * pw n) % 2147483647 = sumOf (s.extract a (a + n)) 5 := by
  have hz : (s.extract a (a + n)).size = n := by rw [ex_size s _ _ h]; omega
  have e5 : sumOf (s.extract a (a + n)) 5 = sumL 6 ((s.data.toList.drop a).take n) := by
    unfold sumOf; rw [if_neg (by omega), ex_data, Nat.add_sub_cancel_left]; rfl
  have ll : ((s.data.toList.drop a).take n).length = n := by simp; have : s.data.size = s.size := rfl; omega
  have eh : hd s (a + n) = sumL (hd s a) ((s.data.toList.drop a).take n) := by unfold hd; rw [List.take_add]; simp [sumL]
  have b6 : 0 ≤ sumL 6 ((s.data.toList.drop a).take n) ∧ sumL 6 ((s.data.toList.drop a).take n) < 2147483647 := by
    have h0 := sumL_bd ((s.data.toList.drop a).take n) 6 (by decide) (by decide)
    refine ⟨h0.1, ?_⟩
    rcases List.eq_nil_or_concat ((s.data.toList.drop a).take n) with h | ⟨l, c, h⟩
    · rw [h]; decide
    · rw [h]; rw [List.concat_eq_append, sumL_snoc]; unfold sumStep; omega
  rw [e5]
  have l1 := sum_lin (hd s a) ((s.data.toList.drop a).take n)
  have l2 := sum_lin 6 ((s.data.toList.drop a).take n)
  rw [ll] at l1 l2
  rw [← eh] at l1
  obtain ⟨y, hy⟩ : ∃ y, y = sumL 0 ((s.data.toList.drop a).take n) := ⟨_, rfl⟩
  rw [← hy] at l1 l2
  rw [Int.emod_eq_of_lt b6.1 b6.2] at l2
  rw [l2]
  have e3 : (hd s (a + n) + (6 + 2147483647 - hd s a) % 2147483647 * pw n) % 2147483647 = ((y + hd s a * pw n) + (6 + 2147483647 - hd s a) * pw n) % 2147483647 := by
    rw [Int.add_emod, l1, Int.mul_emod, Int.emod_emod_of_dvd _ (Int.dvd_refl _), ← Int.mul_emod, ← Int.add_emod]
  rw [e3]
  have e4 : (y + hd s a * pw n) + (6 + 2147483647 - hd s a) * pw n = (y + 6 * pw n) + 2147483647 * pw n := by
    rw [Int.sub_mul, Int.add_mul]; omega
  rw [e4, Int.add_mul_emod_self_left]
def hdL (s : ByteArray) (n : Nat) : List Int := (List.range n).map (hd s)
def pwL (m : Nat) : List Int := (List.range m).map pw
theorem hdL_len (s : ByteArray) (n : Nat) : (hdL s n).length = n := by simp [hdL]
theorem pwL_len (n : Nat) : (pwL n).length = n := by simp [pwL]
theorem hdL_succ (s : ByteArray) (n : Nat) : hdL s (n + 1) = hdL s n ++ [hd s n] := by simp [hdL, List.range_succ]
theorem pwL_succ (n : Nat) : pwL (n + 1) = pwL n ++ [pw n] := by simp [pwL, List.range_succ]
def Mine (R : Nat) (hv pv : Value) (b : Nat) : Prop := b = R ∨ hv.ownBlock = some b ∨ pv.ownBlock = some b
structure Step (M : Nat → Prop) (w : World) (M' : Nat → Prop) (w' : World) : Prop where
  os : w'.os = w.os
  tape : w'.tape = w.tape
  output : w'.output = w.output
  size : w.heap.size ≤ w'.heap.size
  block : ∀ b, b < w.heap.size → ¬ M b → w'.heap[b]? = w.heap[b]?
  own : ∀ b, M' b → M b ∨ w.heap.size ≤ b
theorem Step.refl (M : Nat → Prop) (w : World) : Step M w M w := ⟨rfl, rfl, rfl, Nat.le_refl _, fun _ _ _ => rfl, fun _ h => Or.inl h⟩
theorem Step.of_below {M : Nat → Prop} {w w' : World} (h : Below w.heap.size w w') : Step M w M w' := ⟨h.os, h.tape, h.output, h.size, fun b hb _ => h.block b hb, fun _ h => Or.inl h⟩
theorem Step.trans {M M1 M2 : Nat → Prop} {w w1 w2 : World} (h : Step M w M1 w1) (k : Step M1 w1 M2 w2) : Step M w M2 w2 := by
  refine ⟨k.os.trans h.os, k.tape.trans h.tape, k.output.trans h.output, Nat.le_trans h.size k.size, fun b hb hm => ?_, fun b hb => ?_⟩
  · have h1 : ¬ M1 b := fun q => by rcases h.own b q with r | r; (exact hm r); omega
    exact (k.block b (Nat.lt_of_lt_of_le hb h.size) h1).trans (h.block b hb hm)
  · rcases k.own b hb with r | r
    · exact h.own b r
    · exact Or.inr (Nat.le_trans h.size r)
theorem Step.blk {M M' : Nat → Prop} {w w' : World} {b : Nat} {cs : Array Value} {t : TypeId} (h : Step M w M' w') (hb : Blk w b cs t) (hm : ¬ M b) : Blk w' b cs t := (h.block b hb.lt hm).trans hb
theorem Step.below {M M' : Nat → Prop} {n : Nat} {w0 w w' : World} (hb : Below n w0 w) (h : Step M w M' w') (hn : n ≤ w.heap.size) (hm : ∀ b, M b → n ≤ b) : Below n w0 w' :=
  ⟨h.os.trans hb.os, h.tape.trans hb.tape, h.output.trans hb.output, Nat.le_trans hb.size h.size, fun b hb' => (h.block b (by omega) (fun q => by have := hm b q; omega)).trans (hb.block b hb')⟩
theorem Step.drew {M M' : Nat → Prop} {w w' : World} (h : Step M w M' w') : Step M w M' w'.drew := ⟨h.os, h.tape, h.output, h.size, h.block, h.own⟩
/-- a reader at R, with the sums of the first n beginnings and m powers -/
structure Tbl (base R : Nat) (s : ByteArray) (w : World) (hv pv : Value) (n m : Nat) : Prop where
  blk : Blk w R #[.string s, hv, pv] 71
  lo : R < base
  bs : base ≤ w.heap.size
  hh : OwnNums w base 2 .i64 hv (hdL s n)
  hp : OwnNums w base 2 .i64 pv (pwL m)
  sep : ∀ k, hv.ownBlock = some k → pv.ownBlock ≠ some k
  hn : n ≤ s.size + 1
  hm : m ≤ s.size + 1
theorem OwnNums.shape {w : World} {base : Nat} {e : TypeId} {k : IntKind} {v : Value} {xs : List Int} (h : OwnNums w base e k v xs) : (v = .slice none 0 0 ∧ xs.length = 0) ∨ ∃ g cap, v = .slice (some ⟨g, 0, none⟩) xs.length cap ∧ xs.length ≤ cap := by
  rcases h.2 with ⟨rfl, h0⟩ | ⟨g, cap, cur, rfl, hg, hh, hn, hm, hsz, htk⟩
  · exact Or.inl ⟨rfl, h0⟩
  · exact Or.inr ⟨g, cap, rfl, hn⟩
theorem OwnNums.at {w : World} {base : Nat} {e : TypeId} {k : IntKind} {xs : List Int} {g n cap : Nat} (h : OwnNums w base e k (.slice (some ⟨g, 0, none⟩) n cap) xs) (j : Nat) (hj : j < xs.length) : w.cell? ⟨g, j, none⟩ = some (.int k (xs.getD j 0)) := by
  have hc := World.ownsRow.cells h (g := g) rfl j (.int k (xs.getD j 0)) (by
    rw [List.getElem?_map, List.getElem?_eq_getElem hj]; simp [hj])
  have hp : (⟨g, 0, none⟩ : Addr).add j = ⟨g, 0 + j, none⟩ := by unfold Addr.add; split <;> simp_all
  rw [hp, Nat.zero_add] at hc; exact hc
theorem OwnNums.ne' {w : World} {base : Nat} {e : TypeId} {k : IntKind} {v : Value} {xs : List Int} {c : Nat} (h : OwnNums w base e k v xs) (hc : c < base ∨ w.heap.size ≤ c) : v.ownBlock ≠ some c := fun q => by have := World.ownsRow.lt h c q; omega
theorem Tbl.far {base R : Nat} {s : ByteArray} {w w' : World} {hv pv : Value} {n m : Nat} (T : Tbl base R s w hv pv n m) (hb : Below w.heap.size w w') : Tbl base R s w' hv pv n m :=
  ⟨Blk.next hb T.blk, T.lo, Nat.le_trans T.bs hb.size, World.ownsRow.kept T.hh (below_grown hb none) (Classical.em _), World.ownsRow.kept T.hp (below_grown hb none) (Classical.em _), T.sep, T.hn, T.hm⟩
theorem Tbl.alloc {base R : Nat} {s : ByteArray} {w : World} {hv pv : Value} {n m : Nat} (T : Tbl base R s w hv pv n m) (o : Obj) : Tbl base R s (w.alloc o) hv pv n m := T.far ((Below.refl _ _).alloc (Nat.le_refl _) o)
theorem Tbl.drew {base R : Nat} {s : ByteArray} {w : World} {hv pv : Value} {n m : Nat} (T : Tbl base R s w hv pv n m) : Tbl base R s w.drew hv pv n m := T.far (Below.refl _ _).drew
theorem Tbl.putP {base R : Nat} {s : ByteArray} {X w' : World} {hv pv : Value} {n m : Nat} (T : Tbl base R s X hv pv n m) (g cap : Nat) (hm : m + 1 ≤ s.size + 1)
    (ho : OwnNums w' base 2 .i64 (.slice (some ⟨g, 0, none⟩) (m + 1) cap) (pwL m ++ [pw m])) (hg : X.grownBy w' pv.ownBlock) (hf : pv.ownBlock = some g ∨ g = X.heap.size) :
    Tbl base R s (w'.setCell ⟨R, 2, none⟩ (.slice (some ⟨g, 0, none⟩) (m + 1) cap)) hv (.slice (some ⟨g, 0, none⟩) (m + 1) cap) n (m + 1) ∧ Step (Mine R hv pv) X (Mine R hv (.slice (some ⟨g, 0, none⟩) (m + 1) cap)) (w'.setCell ⟨R, 2, none⟩ (.slice (some ⟨g, 0, none⟩) (m + 1) cap)) := by
  have hlt := T.blk.lt
  have pR := T.hp.ne' (Or.inl T.lo)
  have hR := T.hh.ne' (Or.inl T.lo)
  have b1 : Blk w' R #[.string s, hv, pv] 71 := T.blk.far hg hlt (fun q => pR q.symm)
  have h1 : OwnNums w' base 2 .i64 hv (hdL s n) := World.ownsRow.kept T.hh hg (by
    by_cases q : hv.ownBlock = none
    · exact Or.inl q
    · right; intro r
      obtain ⟨k, hk⟩ := Option.ne_none_iff_exists'.1 q
      exact T.sep k hk (by rw [← r, hk]))
  have gs : w'.grownBy (w'.setCell ⟨R, 2, none⟩ (.slice (some ⟨g, 0, none⟩) (m + 1) cap)) (some R) := grown_set
  have sg : some g ≠ some R := fun q => by have := World.ownsRow.lt ho g rfl; cases q; have := T.lo; omega
  refine ⟨⟨b1.set 2 _, T.lo, Nat.le_trans T.bs (Nat.le_trans hg.size gs.size), World.ownsRow.kept h1 gs (Or.inr hR), ?_, ?_, T.hn, hm⟩, ?_⟩
  · rw [pwL_succ]; exact World.ownsRow.kept ho gs (Or.inr sg)
  · intro k hk q
    have e : g = k := by cases q; rfl
    subst e
    rcases hf with r | r
    · exact T.sep g hk r
    · have := (World.ownsRow.lt T.hh g hk).2; omega
  · refine ⟨gs.os.trans hg.os, gs.tape.trans hg.tape, gs.output.trans hg.output, Nat.le_trans hg.size gs.size, fun b hb hm' => ?_, fun b hb => ?_⟩
    · have n1 : some b ≠ pv.ownBlock := fun q => hm' (Or.inr (Or.inr q.symm))
      have n2 : some b ≠ some R := fun q => hm' (Or.inl (Option.some.inj q))
      exact (gs.block b (Nat.lt_of_lt_of_le hb hg.size) n2).trans (hg.block b hb n1)
    · rcases hb with q | q | q
      · exact Or.inl (Or.inl q)
      · exact Or.inl (Or.inr (Or.inl q))
      · have e : g = b := by cases q; rfl
        subst e
        rcases hf with r | r
        · exact Or.inl (Or.inr (Or.inr r))
        · exact Or.inr (by omega)
theorem Tbl.putH {base R : Nat} {s : ByteArray} {X w' : World} {hv pv : Value} {n m : Nat} (T : Tbl base R s X hv pv n m) (g cap : Nat) (hn : n + 1 ≤ s.size + 1)
    (ho : OwnNums w' base 2 .i64 (.slice (some ⟨g, 0, none⟩) (n + 1) cap) (hdL s n ++ [hd s n])) (hg : X.grownBy w' hv.ownBlock) (hf : hv.ownBlock = some g ∨ g = X.heap.size) :
    Tbl base R s (w'.setCell ⟨R, 1, none⟩ (.slice (some ⟨g, 0, none⟩) (n + 1) cap)) (.slice (some ⟨g, 0, none⟩) (n + 1) cap) pv (n + 1) m ∧ Step (Mine R hv pv) X (Mine R (.slice (some ⟨g, 0, none⟩) (n + 1) cap) pv) (w'.setCell ⟨R, 1, none⟩ (.slice (some ⟨g, 0, none⟩) (n + 1) cap)) := by
  have hlt := T.blk.lt
  have pR := T.hp.ne' (Or.inl T.lo)
  have hR := T.hh.ne' (Or.inl T.lo)
  have b1 : Blk w' R #[.string s, hv, pv] 71 := T.blk.far hg hlt (fun q => hR q.symm)
  have h1 : OwnNums w' base 2 .i64 pv (pwL m) := World.ownsRow.kept T.hp hg (by
    by_cases q : pv.ownBlock = none
    · exact Or.inl q
    · right; intro r
      obtain ⟨k, hk⟩ := Option.ne_none_iff_exists'.1 q
      exact T.sep k (by rw [← r, hk]) hk)
  have gs : w'.grownBy (w'.setCell ⟨R, 1, none⟩ (.slice (some ⟨g, 0, none⟩) (n + 1) cap)) (some R) := grown_set
  have sg : some g ≠ some R := fun q => by have := World.ownsRow.lt ho g rfl; cases q; have := T.lo; omega
  refine ⟨⟨b1.set 1 _, T.lo, Nat.le_trans T.bs (Nat.le_trans hg.size gs.size), ?_, World.ownsRow.kept h1 gs (Or.inr pR), ?_, hn, T.hm⟩, ?_⟩
  · rw [hdL_succ]; exact World.ownsRow.kept ho gs (Or.inr sg)
  · intro k hk q
    have e : g = k := by cases hk; rfl
    subst e
    rcases hf with r | r
    · exact T.sep g r q
    · have := (World.ownsRow.lt T.hp g q).2; omega
  · refine ⟨gs.os.trans hg.os, gs.tape.trans hg.tape, gs.output.trans hg.output, Nat.le_trans hg.size gs.size, fun b hb hm' => ?_, fun b hb => ?_⟩
    · have n1 : some b ≠ hv.ownBlock := fun q => hm' (Or.inr (Or.inl q.symm))
      have n2 : some b ≠ some R := fun q => hm' (Or.inl (Option.some.inj q))
      exact (gs.block b (Nat.lt_of_lt_of_le hb hg.size) n2).trans (hg.block b hb n1)
    · rcases hb with q | q | q
      · exact Or.inl (Or.inl q)
      · have e : g = b := by cases q; rfl
        subst e
        rcases hf with r | r
        · exact Or.inl (Or.inr (Or.inl r))
        · exact Or.inr (by omega)
      · exact Or.inl (Or.inr (Or.inr q))
end Go.Proofs.YtefnoeaehglihaaDoor
