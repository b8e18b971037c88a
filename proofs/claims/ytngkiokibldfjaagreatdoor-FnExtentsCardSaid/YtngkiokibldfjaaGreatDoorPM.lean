import Derived.Test.YtngkiokibldfjaaGreatDoorPH
import Derived.Deep.AppendLies
import Derived.Deep.RegionLaw
import Derived.Deep.CutRange
import Derived.Deep.RegionWith
namespace Go.Proofs.YtngkiokibldfjaaGreatDoor
open Go.RowKit
/-! A reader's tables of sums: the mathematics, and how they lie. -/
abbrev SP : Int := 2147483647
def pw : Nat → Int
  | 0 => 1
  | k + 1 => pw k * 65539 % 2147483647
theorem pw_bd : ∀ k, 0 ≤ pw k ∧ pw k < 2147483647
  | 0 => by decide
  | k + 1 => by unfold pw; omega
def hd (s : ByteArray) (k : Nat) : Int := sumL 0 (s.data.toList.take k)
theorem hd_bd (s : ByteArray) : ∀ k, 0 ≤ hd s k ∧ hd s k < 2147483647 := by
  intro k
  have h0 := sumL_bd (s.data.toList.take k) 0 (by decide) (by decide)
  refine ⟨h0.1, ?_⟩
  unfold hd
  rcases List.eq_nil_or_concat (s.data.toList.take k) with h | ⟨l, c, h⟩
  · rw [h]; decide
  · rw [h]; rw [List.concat_eq_append, sumL_snoc]; unfold sumStep; omega
theorem hd_step (s : ByteArray) (k : Nat) (h : k < s.size) : hd s (k + 1) = sumStep (hd s k) s[k] := by unfold hd; rw [take_snoc s k h, sumL_snoc]
theorem cong1 (x y k d P : Int) (h : x % P = y % P) : (x * k + d) % P = (y * k + d) % P := by
  rw [Int.add_emod, Int.mul_emod, h, ← Int.mul_emod, ← Int.add_emod]
theorem sum_lin' (a : Int) : ∀ (n : Nat) (l : List UInt8), l.length = n → sumL a l % 2147483647 = (sumL 0 l + a * pw l.length) % 2147483647
  | 0, l, h => by
    have : l = [] := List.eq_nil_of_length_eq_zero h
    subst this; simp [sumL, pw]
  | n + 1, l0, h => by
    obtain ⟨l, c, rfl⟩ : ∃ l c, l0 = l ++ [c] := by
      rcases List.eq_nil_or_concat l0 with q | ⟨l, c, q⟩
      · rw [q] at h; simp at h
      · exact ⟨l, c, by rw [q, List.concat_eq_append]⟩
    have ih := sum_lin' a n l (by simpa using h)
    rw [sumL_snoc, sumL_snoc, List.length_append]
    simp only [List.length_cons, List.length_nil]
    unfold sumStep
    show (sumL a l * 65539 + c.toNat + 1) % 2147483647 % 2147483647 = ((sumL 0 l * 65539 + c.toNat + 1) % 2147483647 + a * (pw l.length * 65539 % 2147483647)) % 2147483647
    rw [Int.emod_emod_of_dvd _ (Int.dvd_refl _), Int.emod_add_emod]
    have e1 : (sumL a l * 65539 + c.toNat + 1) % 2147483647 = ((sumL 0 l + a * pw l.length) * 65539 + (c.toNat + 1)) % 2147483647 := by
      rw [show sumL a l * 65539 + (c.toNat : Int) + 1 = sumL a l * 65539 + ((c.toNat : Int) + 1) by omega]
      exact cong1 _ _ _ _ _ ih
    rw [e1]
    have e2 : (sumL 0 l * 65539 + (c.toNat : Int) + 1 + a * (pw l.length * 65539 % 2147483647)) % 2147483647 = (sumL 0 l * 65539 + (c.toNat : Int) + 1 + a * (pw l.length * 65539)) % 2147483647 := by
      rw [Int.add_emod, Int.mul_emod a, Int.emod_emod_of_dvd _ (Int.dvd_refl _), ← Int.mul_emod, ← Int.add_emod]
    rw [e2]
    congr 1
    rw [Int.add_mul, Int.mul_assoc]
    omega
theorem sum_lin (a : Int) (l : List UInt8) : sumL a l % 2147483647 = (sumL 0 l + a * pw l.length) % 2147483647 := sum_lin' a l.length l rfl
theorem table_sum (s : ByteArray) (a n : Nat) (h : a + n ≤ s.size) (hn : n ≤ 400000) : (hd s (a + n) + ((6 + 2147483647 - hd s a) % 2147483647) * pw n) % 2147483647 = sumOf (s.extract a (a + n)) 5 := by
  have hz : (s.extract a (a + n)).size = n := by rw [ex_size s _ _ h]; omega
  have e5 : sumOf (s.extract a (a + n)) 5 = sumL 6 ((s.data.toList.drop a).take n) := by
    unfold sumOf; rw [if_neg (by omega), ex_data, Nat.add_sub_cancel_left]; rfl
  have ll : ((s.data.toList.drop a).take n).length = n := by simp; have : s.data.size = s.size := rfl; omega
  have eh : hd s (a + n) = sumL (hd s a) ((s.data.toList.drop a).take n) := by unfold hd; rw [List.take_add]; simp [sumL]
  have b6 : 0 ≤ sumL 6 ((s.data.toList.drop a).take n) ∧ sumL 6 ((s.data.toList.drop a).take n) < 2147483647 := by
    have h0 := sumL_bd ((s.data.toList.drop a).take n) 6 (by decide) (by decide)
    refine ⟨h0.1, ?_⟩
    rcases List.eq_nil_or_concat ((s.data.toList.drop a).take n) with h | ⟨l, c, h⟩
    · rw [h]; decide
    · rw [h]; rw [List.concat_eq_append, sumL_snoc]; unfold sumStep; omega
  rw [e5]
  have l1 := sum_lin (hd s a) ((s.data.toList.drop a).take n)
  have l2 := sum_lin 6 ((s.data.toList.drop a).take n)
  rw [ll] at l1 l2
  rw [← eh] at l1
  obtain ⟨y, hy⟩ : ∃ y, y = sumL 0 ((s.data.toList.drop a).take n) := ⟨_, rfl⟩
  rw [← hy] at l1 l2
  rw [Int.emod_eq_of_lt b6.1 b6.2] at l2
  rw [l2]
  have e3 : (hd s (a + n) + (6 + 2147483647 - hd s a) % 2147483647 * pw n) % 2147483647 = ((y + hd s a * pw n) + (6 + 2147483647 - hd s a) * pw n) % 2147483647 := by
    rw [Int.add_emod, l1, Int.mul_emod, Int.emod_emod_of_dvd _ (Int.dvd_refl _), ← Int.mul_emod, ← Int.add_emod]
  rw [e3]
  have e4 : (y + hd s a * pw n) + (6 + 2147483647 - hd s a) * pw n = (y + 6 * pw n) + 2147483647 * pw n := by
    rw [Int.sub_mul, Int.add_mul]; omega
  rw [e4, Int.add_mul_emod_self_left]
def hdL (s : ByteArray) (n : Nat) : List Int := (List.range n).map (hd s)
def pwL (m : Nat) : List Int := (List.range m).map pw
theorem hdL_len (s : ByteArray) (n : Nat) : (hdL s n).length = n := by simp [hdL]
theorem pwL_len (n : Nat) : (pwL n).length = n := by simp [pwL]
theorem hdL_succ (s : ByteArray) (n : Nat) : hdL s (n + 1) = hdL s n ++ [hd s n] := by simp [hdL, List.range_succ]
theorem pwL_succ (n : Nat) : pwL (n + 1) = pwL n ++ [pw n] := by simp [pwL, List.range_succ]
/-- the five cells of a shelf behind its reader -/
structure Sx where
  a : Value
  b : Value
  c : Value
  d : Value
  e : Value
def Mine (R : Nat) (hv pv : Value) (b : Nat) : Prop := b = R ∨ hv.ownBlock = some b ∨ pv.ownBlock = some b
structure Step (M : Nat → Prop) (w : World) (M' : Nat → Prop) (w' : World) : Prop where
  os : w'.os = w.os
  tape : w'.tape = w.tape
  output : w'.output = w.output
  size : w.heap.size ≤ w'.heap.size
  block : ∀ b, b < w.heap.size → ¬ M b → w'.heap[b]? = w.heap[b]?
  own : ∀ b, M' b → M b ∨ w.heap.size ≤ b
theorem Step.refl (M : Nat → Prop) (w : World) : Step M w M w := ⟨rfl, rfl, rfl, Nat.le_refl _, fun _ _ _ => rfl, fun _ h => Or.inl h⟩
theorem Step.of_below {M : Nat → Prop} {w w' : World} (h : Below w.heap.size w w') : Step M w M w' := ⟨h.os, h.tape, h.output, h.size, fun b hb _ => h.block b hb, fun _ h => Or.inl h⟩
theorem Step.trans {M M1 M2 : Nat → Prop} {w w1 w2 : World} (h : Step M w M1 w1) (k : Step M1 w1 M2 w2) : Step M w M2 w2 := by
  refine ⟨k.os.trans h.os, k.tape.trans h.tape, k.output.trans h.output, Nat.le_trans h.size k.size, fun b hb hm => ?_, fun b hb => ?_⟩
  · have h1 : ¬ M1 b := fun q => by rcases h.own b q with r | r; (exact hm r); omega
    exact (k.block b (Nat.lt_of_lt_of_le hb h.size) h1).trans (h.block b hb hm)
  · rcases k.own b hb with r | r
    · exact h.own b r
    · exact Or.inr (Nat.le_trans h.size r)
theorem Step.blk {M M' : Nat → Prop} {w w' : World} {b : Nat} {cs : Array Value} {t : TypeId} (h : Step M w M' w') (hb : Blk w b cs t) (hm : ¬ M b) : Blk w' b cs t := (h.block b hb.lt hm).trans hb
theorem Step.below {M M' : Nat → Prop} {n : Nat} {w0 w w' : World} (hb : Below n w0 w) (h : Step M w M' w') (hn : n ≤ w.heap.size) (hm : ∀ b, M b → n ≤ b) : Below n w0 w' :=
  ⟨h.os.trans hb.os, h.tape.trans hb.tape, h.output.trans hb.output, Nat.le_trans hb.size h.size, fun b hb' => (h.block b (by omega) (fun q => by have := hm b q; omega)).trans (hb.block b hb')⟩
theorem Step.drew {M M' : Nat → Prop} {w w' : World} (h : Step M w M' w') : Step M w M' w'.drew := ⟨h.os, h.tape, h.output, h.size, h.block, h.own⟩
/-- a reader at R, with the sums of the first n beginnings and m powers -/
structure Tbl (ex : Sx) (base R : Nat) (s : ByteArray) (w : World) (hv pv : Value) (n m : Nat) : Prop where
  blk : Blk w R #[.string s, hv, pv, ex.a, ex.b, ex.c, ex.d, ex.e] 72
  lo : R < base
  bs : base ≤ w.heap.size
  hh : OwnNums w base 2 .i64 hv (hdL s n)
  hp : OwnNums w base 2 .i64 pv (pwL m)
  sep : ∀ k, hv.ownBlock = some k → pv.ownBlock ≠ some k
  hn : n ≤ s.size + 1
  hm : m ≤ 1048577
theorem OwnNums.shape {w : World} {base : Nat} {e : TypeId} {k : IntKind} {v : Value} {xs : List Int} (h : OwnNums w base e k v xs) : (v = .slice none 0 0 ∧ xs.length = 0) ∨ ∃ g cap, v = .slice (some ⟨g, 0, none⟩) xs.length cap ∧ xs.length ≤ cap := by
  rcases h.2 with ⟨rfl, h0⟩ | ⟨g, cap, cur, rfl, hg, hh, hn, hm, hsz, htk⟩
  · exact Or.inl ⟨rfl, h0⟩
  · exact Or.inr ⟨g, cap, rfl, hn⟩
theorem OwnNums.at {w : World} {base : Nat} {e : TypeId} {k : IntKind} {xs : List Int} {g n cap : Nat} (h : OwnNums w base e k (.slice (some ⟨g, 0, none⟩) n cap) xs) (j : Nat) (hj : j < xs.length) : w.cell? ⟨g, j, none⟩ = some (.int k (xs.getD j 0)) := by
  have hc := World.ownsRow.cells h (g := g) rfl j (.int k (xs.getD j 0)) (by
    rw [List.getElem?_map, List.getElem?_eq_getElem hj]; simp [hj])
  have hp : (⟨g, 0, none⟩ : Addr).add j = ⟨g, 0 + j, none⟩ := by unfold Addr.add; split <;> simp_all
  rw [hp, Nat.zero_add] at hc; exact hc
theorem OwnNums.ne' {w : World} {base : Nat} {e : TypeId} {k : IntKind} {v : Value} {xs : List Int} {c : Nat} (h : OwnNums w base e k v xs) (hc : c < base ∨ w.heap.size ≤ c) : v.ownBlock ≠ some c := fun q => by have := World.ownsRow.lt h c q; omega
theorem Tbl.far {ex : Sx} {base R : Nat} {s : ByteArray} {w w' : World} {hv pv : Value} {n m : Nat} (T : Tbl ex base R s w hv pv n m) (hb : Below w.heap.size w w') : Tbl ex base R s w' hv pv n m :=
  ⟨Blk.next hb T.blk, T.lo, Nat.le_trans T.bs hb.size, World.ownsRow.kept T.hh (below_grown hb none) (Classical.em _), World.ownsRow.kept T.hp (below_grown hb none) (Classical.em _), T.sep, T.hn, T.hm⟩
theorem Tbl.alloc {ex : Sx} {base R : Nat} {s : ByteArray} {w : World} {hv pv : Value} {n m : Nat} (T : Tbl ex base R s w hv pv n m) (o : Obj) : Tbl ex base R s (w.alloc o) hv pv n m := T.far ((Below.refl _ _).alloc (Nat.le_refl _) o)
theorem Tbl.drew {ex : Sx} {base R : Nat} {s : ByteArray} {w : World} {hv pv : Value} {n m : Nat} (T : Tbl ex base R s w hv pv n m) : Tbl ex base R s w.drew hv pv n m := T.far (Below.refl _ _).drew
theorem Tbl.putP {ex : Sx} {base R : Nat} {s : ByteArray} {X w' : World} {hv pv : Value} {n m : Nat} (T : Tbl ex base R s X hv pv n m) (g cap : Nat) (hm : m + 1 ≤ 1048577)
    (ho : OwnNums w' base 2 .i64 (.slice (some ⟨g, 0, none⟩) (m + 1) cap) (pwL m ++ [pw m])) (hg : X.grownBy w' pv.ownBlock) (hf : pv.ownBlock = some g ∨ g = X.heap.size) :
    Tbl ex base R s (w'.setCell ⟨R, 2, none⟩ (.slice (some ⟨g, 0, none⟩) (m + 1) cap)) hv (.slice (some ⟨g, 0, none⟩) (m + 1) cap) n (m + 1) ∧ Step (Mine R hv pv) X (Mine R hv (.slice (some ⟨g, 0, none⟩) (m + 1) cap)) (w'.setCell ⟨R, 2, none⟩ (.slice (some ⟨g, 0, none⟩) (m + 1) cap)) := by
  have hlt := T.blk.lt
  have pR := T.hp.ne' (Or.inl T.lo)
  have hR := T.hh.ne' (Or.inl T.lo)
  have b1 : Blk w' R #[.string s, hv, pv, ex.a, ex.b, ex.c, ex.d, ex.e] 72 := T.blk.far hg hlt (fun q => pR q.symm)
  have h1 : OwnNums w' base 2 .i64 hv (hdL s n) := World.ownsRow.kept T.hh hg (by
    by_cases q : hv.ownBlock = none
    · exact Or.inl q
    · right; intro r
      obtain ⟨k, hk⟩ := Option.ne_none_iff_exists'.1 q
      exact T.sep k hk (by rw [← r, hk]))
  have gs : w'.grownBy (w'.setCell ⟨R, 2, none⟩ (.slice (some ⟨g, 0, none⟩) (m + 1) cap)) (some R) := grown_set
  have sg : some g ≠ some R := fun q => by have := World.ownsRow.lt ho g rfl; cases q; have := T.lo; omega
  refine ⟨⟨b1.set 2 _, T.lo, Nat.le_trans T.bs (Nat.le_trans hg.size gs.size), World.ownsRow.kept h1 gs (Or.inr hR), ?_, ?_, T.hn, hm⟩, ?_⟩
  · rw [pwL_succ]; exact World.ownsRow.kept ho gs (Or.inr sg)
  · intro k hk q
    have e : g = k := by cases q; rfl
    subst e
    rcases hf with r | r
    · exact T.sep g hk r
    · have := (World.ownsRow.lt T.hh g hk).2; omega
  · refine ⟨gs.os.trans hg.os, gs.tape.trans hg.tape, gs.output.trans hg.output, Nat.le_trans hg.size gs.size, fun b hb hm' => ?_, fun b hb => ?_⟩
    · have n1 : some b ≠ pv.ownBlock := fun q => hm' (Or.inr (Or.inr q.symm))
      have n2 : some b ≠ some R := fun q => hm' (Or.inl (Option.some.inj q))
      exact (gs.block b (Nat.lt_of_lt_of_le hb hg.size) n2).trans (hg.block b hb n1)
    · rcases hb with q | q | q
      · exact Or.inl (Or.inl q)
      · exact Or.inl (Or.inr (Or.inl q))
      · have e : g = b := by cases q; rfl
        subst e
        rcases hf with r | r
        · exact Or.inl (Or.inr (Or.inr r))
        · exact Or.inr (by omega)
theorem Tbl.putH {ex : Sx} {base R : Nat} {s : ByteArray} {X w' : World} {hv pv : Value} {n m : Nat} (T : Tbl ex base R s X hv pv n m) (g cap : Nat) (hn : n + 1 ≤ s.size + 1)
    (ho : OwnNums w' base 2 .i64 (.slice (some ⟨g, 0, none⟩) (n + 1) cap) (hdL s n ++ [hd s n])) (hg : X.grownBy w' hv.ownBlock) (hf : hv.ownBlock = some g ∨ g = X.heap.size) :
    Tbl ex base R s (w'.setCell ⟨R, 1, none⟩ (.slice (some ⟨g, 0, none⟩) (n + 1) cap)) (.slice (some ⟨g, 0, none⟩) (n + 1) cap) pv (n + 1) m ∧ Step (Mine R hv pv) X (Mine R (.slice (some ⟨g, 0, none⟩) (n + 1) cap) pv) (w'.setCell ⟨R, 1, none⟩ (.slice (some ⟨g, 0, none⟩) (n + 1) cap)) := by
  have hlt := T.blk.lt
  have pR := T.hp.ne' (Or.inl T.lo)
  have hR := T.hh.ne' (Or.inl T.lo)
  have b1 : Blk w' R #[.string s, hv, pv, ex.a, ex.b, ex.c, ex.d, ex.e] 72 := T.blk.far hg hlt (fun q => hR q.symm)
  have h1 : OwnNums w' base 2 .i64 pv (pwL m) := World.ownsRow.kept T.hp hg (by
    by_cases q : pv.ownBlock = none
    · exact Or.inl q
    · right; intro r
      obtain ⟨k, hk⟩ := Option.ne_none_iff_exists'.1 q
      exact T.sep k (by rw [← r, hk]) hk)
  have gs : w'.grownBy (w'.setCell ⟨R, 1, none⟩ (.slice (some ⟨g, 0, none⟩) (n + 1) cap)) (some R) := grown_set
  have sg : some g ≠ some R := fun q => by have := World.ownsRow.lt ho g rfl; cases q; have := T.lo; omega
  refine ⟨⟨b1.set 1 _, T.lo, Nat.le_trans T.bs (Nat.le_trans hg.size gs.size), ?_, World.ownsRow.kept h1 gs (Or.inr pR), ?_, hn, T.hm⟩, ?_⟩
  · rw [hdL_succ]; exact World.ownsRow.kept ho gs (Or.inr sg)
  · intro k hk q
    have e : g = k := by cases hk; rfl
    subst e
    rcases hf with r | r
    · exact T.sep g r q
    · have := (World.ownsRow.lt T.hp g q).2; omega
  · refine ⟨gs.os.trans hg.os, gs.tape.trans hg.tape, gs.output.trans hg.output, Nat.le_trans hg.size gs.size, fun b hb hm' => ?_, fun b hb => ?_⟩
    · have n1 : some b ≠ hv.ownBlock := fun q => hm' (Or.inr (Or.inl q.symm))
      have n2 : some b ≠ some R := fun q => hm' (Or.inl (Option.some.inj q))
      exact (gs.block b (Nat.lt_of_lt_of_le hb hg.size) n2).trans (hg.block b hb n1)
    · rcases hb with q | q | q
      · exact Or.inl (Or.inl q)
      · have e : g = b := by cases q; rfl
        subst e
        rcases hf with r | r
        · exact Or.inl (Or.inr (Or.inl r))
        · exact Or.inr (by omega)
      · exact Or.inl (Or.inr (Or.inr q))
end Go.Proofs.YtngkiokibldfjaaGreatDoor
namespace Go.Proofs.YtngkiokibldfjaaGreatDoor
open Go.RowKit
/-! The program's sumTable: power, reach, of. -/
theorem Tryz.infoI64 : (Tryz.prog.info? 2).map (fun i => (i.zero, i.size, i.bytes)) = some (some (.int .i64 0), 1, 8) := by kernel_rfl
theorem append_i64 {P : Program} (base : Nat) (w : World) {ops : Array Oper} {rest : List Oper} {o : Oper} {a : Act} {Q : Exit → Act → World → Prop} (hgd : o.guard = none) (s x : Operand) (t : TypeId)
    (ho : o.op = .call { callee := .builtin .append, args := #[s, x], argTypes := #[t, t] })
    (e : TypeId) (ht : P.underlying t = some (.slice e)) (hinfo : (P.info? e).map (fun i => (i.zero, i.size, i.bytes)) = some (some (.int .i64 0), 1, 8))
    (v : Value) (xs : List Int) (y : Int) (hs : a.eval s = v) (hown : OwnNums w base e .i64 v xs) (hsz : base ≤ w.heap.size)
    (b : Nat) (hbox : RowAt w b e #[.int .i64 y]) (hx : a.eval x = .slice (some ⟨b, 0, none⟩) 1 1) (hlen : xs.length + 1 ≤ 17592186044414)
    (h : ∀ g cap w', OwnNums w' base e .i64 (.slice (some ⟨g, 0, none⟩) (xs.length + 1) cap) (xs ++ [y]) → w.grownBy w' v.ownBlock → (v.ownBlock = some g ∨ g = w.heap.size) → wpList P ops Q rest (a.put o.dst (.slice (some ⟨g, 0, none⟩) (xs.length + 1) cap)) w') :
    wpList P ops Q (o :: rest) a w := by
  obtain ⟨i0, hi, hz0, hz1, hz2⟩ := info_parts hinfo
  refine wpList_append_lies _ hgd s x t ho base e i0 (.int .i64 0) 1 8 ht hi hz0 hz1 hz2 rfl (by decide) v xs.length _ hs hown ⟨b, 0, none⟩ 1 1 [.int .i64 y] hx rfl ?_ ?_ (by decide) ?_ ?_ hsz w.heap.size rfl ?_
  · have := World.news_of_block (show w.heap[b]? = some (.cells #[.int .i64 y] e (0, 0)) from hbox); simpa using this
  · intro u hu; simp at hu; subst hu; rfl
  · unfold maxLen; omega
  · omega
  · intro g cap w' h1 h2 h3 h4
    exact h g cap w' (by simpa [OwnNums] using h1) h2 h3
theorem step_i64 {P : Program} (base : Nat) (w : World) {ops : Array Oper} {o : Oper} {a : Act} {K : Act → World → Prop} {Q : Exit → Act → World → Prop} {E : Prop} (hgd : o.guard = none) (s x : Operand) (t : TypeId)
    (ho : o.op = .call { callee := .builtin .append, args := #[s, x], argTypes := #[t, t] })
    (e : TypeId) (ht : P.underlying t = some (.slice e)) (hinfo : (P.info? e).map (fun i => (i.zero, i.size, i.bytes)) = some (some (.int .i64 0), 1, 8))
    (v : Value) (xs : List Int) (y : Int) (hs : a.eval s = v) (hown : OwnNums w base e .i64 v xs) (hsz : base ≤ w.heap.size)
    (b : Nat) (hbox : RowAt w b e #[.int .i64 y]) (hx : a.eval x = .slice (some ⟨b, 0, none⟩) 1 1) (hlen : xs.length + 1 ≤ 17592186044414)
    (h : ∀ g cap w', OwnNums w' base e .i64 (.slice (some ⟨g, 0, none⟩) (xs.length + 1) cap) (xs ++ [y]) → w.grownBy w' v.ownBlock → (v.ownBlock = some g ∨ g = w.heap.size) → K (a.put o.dst (.slice (some ⟨g, 0, none⟩) (xs.length + 1) cap)) w') :
    if Region.wanted o (yielded ops a.tmps) = true then Oper.wp P o a w K Q else E := by
  obtain ⟨i0, hi, hz0, hz1, hz2⟩ := info_parts hinfo
  refine step_append_lies _ hgd s x t ho base e i0 (.int .i64 0) 1 8 ht hi hz0 hz1 hz2 rfl (by decide) v xs.length _ hs hown ⟨b, 0, none⟩ 1 1 [.int .i64 y] hx rfl ?_ ?_ (by decide) ?_ ?_ hsz w.heap.size rfl ?_
  · have := World.news_of_block (show w.heap[b]? = some (.cells #[.int .i64 y] e (0, 0)) from hbox); simpa using this
  · intro u hu; simp at hu; subst hu; rfl
  · unfold maxLen; omega
  · omega
  · intro g cap w' h1 h2 h3 h4
    exact h g cap w' (by simpa [OwnNums] using h1) h2 h3
set_option maxRecDepth 20000 in
set_option maxHeartbeats 4000000 in
theorem power_all (ex : Sx) (base R : Nat) (s : ByteArray) (k : Nat) (hk : k ≤ s.size) (hs : s.size ≤ 1048576) (hv pv : Value) (n m : Nat) (w : World) (T : Tbl ex base R s w hv pv n m) :
    Calls Tryz.prog 128 #[.pointer (some ⟨R, 1, none⟩), .int .i64 (k : Nat)] w fun e w' => e = .returned (.int .i64 (pw k)) ∧ ∃ pv' m', Tbl ex base R s w' hv pv' n m' ∧ Step (Mine R hv pv) w (Mine R hv pv') w' := by
  have HT0 := hid T
  clear T
  rcases Nat.eq_zero_or_pos m with hm | hm
  · subst hm
    have k2 := HT0.out.blk.cell 2 _ rfl
    have f2 := HT0.out.blk.free 2
    obtain ⟨a0, cap0, hpv⟩ : ∃ a0 cap0, pv = .slice a0 0 cap0 := by
      rcases HT0.out.hp.shape with ⟨q, q2⟩ | ⟨g0, cap0, hpv, hcap0⟩
      · exact ⟨_, _, q⟩
      · exact ⟨_, _, hpv⟩
    subst hpv
    have T1 := hid (HT0.out.alloc (.cells #[.int .i64 1] 2))
    have O1 := hid T1.out.hp
    have Z1 := hid T1.out.bs
    have X1 : Hid (RowAt (w.alloc (.cells #[.int .i64 1] 2)) w.heap.size 2 #[.int .i64 1]) := RowAt.new w _ _
    have NR : Hid (some R ≠ (Value.slice a0 0 cap0).ownBlock) := fun q => HT0.out.hp.ne' (Or.inl HT0.out.lo) q.symm
    go_enter Tryz.func128, Tryz.ntmps128
    go_wp2_with (first | (at_builtin; (refine append_i64 base _ rfl (.tmp 15) (.tmp 16) 63 rfl 2 Tryz.underlying63 Tryz.infoI64 _ (pwL 0) 1 rfl O1.out Z1.out w.heap.size X1.out rfl (by decide) ?_; intro g7 c7 w7 hO7 hg7 hf7; have B7 := T1.out.blk.far hg7 T1.out.blk.lt NR.out; have y1 := B7.cell 2 _ rfl; have y2 := B7.free 2)) | go_in)
    obtain ⟨T8, S8⟩ := T1.out.putP g7 c7 (by omega) hO7 hg7 hf7
    have HT8 := hid T8
    have HS8 : Hid (Step (Mine R hv (.slice a0 0 cap0)) w (Mine R hv (.slice (some ⟨g7, 0, none⟩) (0 + 1) c7)) (w7.setCell ⟨R, 2, none⟩ (.slice (some ⟨g7, 0, none⟩) (0 + 1) c7))) := (Step.of_below ((Below.refl _ _).alloc (Nat.le_refl _) _)).trans S8
    clear T8 S8 hO7 hg7 hf7 B7 y1 y2 T1 O1 Z1 X1 NR k2 f2
    go_loopw [] (fun wr => ∃ pv' m', 0 < m' ∧ Tbl ex base R s wr hv pv' n m' ∧ Step (Mine R hv (.slice a0 0 cap0)) w (Mine R hv pv') wr) (fun wr => match wr.cell? ⟨R, 2, none⟩ with | some (.slice _ l _) => k + 1 - l | _ => 0)
    case atStart => exact ⟨_, 0 + 1, by decide, HT8.out, HS8.out⟩
    case round =>
      obtain ⟨pv', m', hm0, hT, hS⟩ := hrel
      have HT := hid hT
      have HS := hid hS
      clear hT hS
      rcases HT.out.hp.shape with ⟨q, q2⟩ | ⟨g, cap, hpv, hcap⟩
      · rw [pwL_len] at q2; omega
      rw [pwL_len] at hpv hcap
      subst hpv
      have k2 := HT.out.blk.cell 2 _ rfl
      have f2 := HT.out.blk.free 2
      by_cases hle : m' ≤ k
      · have d0 : decide ((m' : Int) ≤ (k : Int)) = true := by simp; omega
        obtain ⟨j, rfl⟩ : ∃ j, m' = j + 1 := ⟨m' - 1, by omega⟩
        have hmx := HT.out.hm
        have cj : wr.cell? ⟨g, j, none⟩ = some (.int .i64 (pw j)) := by
          have := HT.out.hp.at j (by rw [pwL_len]; omega)
          rw [this]; simp [pwL]
        have e0 : ((j + 1 : Nat) : Int) - 1 = (j : Int) := by omega
        have wj : IntKind.i64.wrap (j : Int) = (j : Int) := by simp [IntKind.wrap, IntKind.bits, IntKind.signed]; omega
        have jj0 : (0 : Int) ≤ (j : Int) := by omega
        have jj1 : (j : Int) < (j : Int) + 1 := by omega
        have bj := pw_bd j
        have ey : Hid (pw (j + 1) = pw j * 65539 % 2147483647) := rfl
        obtain ⟨x, hx⟩ : ∃ x, x = pw j := ⟨_, rfl⟩
        rw [← hx] at cj bj ey
        obtain ⟨b0, b1⟩ := bj
        clear hx
        have wx : IntKind.i64.wrap (x * 65539) = x * 65539 := by simp [IntKind.wrap, IntKind.bits, IntKind.signed]; omega
        have tm : (x * 65539).tmod 2147483647 = x * 65539 % 2147483647 := Int.tmod_eq_emod_of_nonneg (by omega)
        have T6 := hid ((HT.out.alloc (.cells #[.int .i64 (x * 65539 % 2147483647)] 2)).drew)
        have O6 := hid T6.out.hp
        have Z6 := hid T6.out.bs
        have X6 : Hid (RowAt (wr.alloc (.cells #[.int .i64 (x * 65539 % 2147483647)] 2)).drew wr.heap.size 2 #[.int .i64 (x * 65539 % 2147483647)]) := (RowAt.new wr _ _).drew
        have k6 := T6.out.blk.cell 2 _ rfl
        have Y6 : Hid ((pwL (j + 1)).length + 1 ≤ 17592186044414) := by show _ ≤ _; rw [pwL_len]; omega
        have NR : Hid (some R ≠ (Value.slice (some ⟨g, 0, none⟩) (j + 1) cap).ownBlock) := fun q => HT.out.hp.ne' (Or.inl HT.out.lo) q.symm
        have ll : (pwL (j + 1)).length + 1 = j + 1 + 1 := by rw [pwL_len]
        go_wp2_with fail
        go_region_law (refine step_i64 base _ (by rfl) _ _ 63 (by rfl) 2 Tryz.underlying63 Tryz.infoI64 _ (pwL (j + 1)) (x * 65539 % 2147483647) (by rfl) O6.out Z6.out wr.heap.size X6.out (by rfl) Y6.out ?_; intro g7 c7 w7 hO7 hg7 hf7; have B7 := T6.out.blk.far hg7 T6.out.blk.lt NR.out; have y1 := B7.cell 2 _ rfl; have y2 := B7.free 2)
        all_goals
          have hO8 : OwnNums w7 base 2 .i64 (.slice (some ⟨g7, 0, none⟩) (j + 1 + 1) c7) (pwL (j + 1) ++ [pw (j + 1)]) := by rw [ey.out, ← ll]; exact hO7
          obtain ⟨T8, S8⟩ := T6.out.putP g7 c7 (by omega) hO8 hg7 hf7
          have HT8 := hid T8
          have HS8 : Hid (Step (Mine R hv (.slice a0 0 cap0)) w (Mine R hv (.slice (some ⟨g7, 0, none⟩) (j + 1 + 1) c7)) (w7.setCell ⟨R, 2, none⟩ (.slice (some ⟨g7, 0, none⟩) (j + 1 + 1) c7))) := (HS.out.trans (Step.of_below (((Below.refl _ _).alloc (Nat.le_refl _) _).drew))).trans S8
          have k8 : Hid ((w7.setCell ⟨R, 2, none⟩ (.slice (some ⟨g7, 0, none⟩) (j + 1 + 1) c7)).cell? ⟨R, 2, none⟩ = some (.slice (some ⟨g7, 0, none⟩) (j + 1 + 1) c7)) := HT8.out.blk.cell 2 _ rfl
          have k9 : Hid (wr.cell? ⟨R, 2, none⟩ = some (.slice (some ⟨g, 0, none⟩) (j + 1) cap)) := HT.out.blk.cell 2 _ rfl
          have m8 : Hid (j + 1 ≤ k) := hle
          clear T8 S8 hO7 hO8 hg7 hf7 B7 y1 y2 T6 O6 Z6 X6 k6 HS HT cj k2 f2
        all_goals go_wp2
        all_goals
          go_roundw
          case rel => exact ⟨.slice (some ⟨g7, 0, none⟩) (j + 1 + 1) c7, j + 1 + 1, by omega, HT8.out, HS8.out⟩
          case measure => rw [k8.out, k9.out]; have := m8.out; show k + 1 - (j + 1 + 1) < k + 1 - (j + 1); omega
      · have d0 : decide ((m' : Int) ≤ (k : Int)) = false := by simp; omega
        have ck : wr.cell? ⟨g, k, none⟩ = some (.int .i64 (pw k)) := by
          have := HT.out.hp.at k (by rw [pwL_len]; omega)
          rw [this]; simp [pwL, show k < m' by omega]
        have i1 : (k : Int) < (m' : Int) := by omega
        have i0 : (0 : Int) ≤ (k : Int) := by omega
        go_wp2
        go_ret
        exact ⟨rfl, _, _, HT.out, HS.out⟩

  · rcases HT0.out.hp.shape with ⟨q, q2⟩ | ⟨g0, cap0, hpv, hcap0⟩
    · rw [pwL_len] at q2; omega
    rw [pwL_len] at hpv hcap0
    subst hpv
    have k2 := HT0.out.blk.cell 2 _ rfl
    have d1 : ((m : Int) == 0) = false := by simp; omega
    go_enter Tryz.func128, Tryz.ntmps128
    go_wp2_with fail
    go_loopw [] (fun wr => ∃ pv' m', 0 < m' ∧ Tbl ex base R s wr hv pv' n m' ∧ Step (Mine R hv (.slice (some ⟨g0, 0, none⟩) m cap0)) w (Mine R hv pv') wr) (fun wr => match wr.cell? ⟨R, 2, none⟩ with | some (.slice _ l _) => k + 1 - l | _ => 0)
    case atStart => exact ⟨_, m, hm, HT0.out, Step.refl _ _⟩
    case round =>
      obtain ⟨pv', m', hm0, hT, hS⟩ := hrel
      have HT := hid hT
      have HS := hid hS
      clear hT hS
      rcases HT.out.hp.shape with ⟨q, q2⟩ | ⟨g, cap, hpv, hcap⟩
      · rw [pwL_len] at q2; omega
      rw [pwL_len] at hpv hcap
      subst hpv
      have k2 := HT.out.blk.cell 2 _ rfl
      have f2 := HT.out.blk.free 2
      by_cases hle : m' ≤ k
      · have d0 : decide ((m' : Int) ≤ (k : Int)) = true := by simp; omega
        obtain ⟨j, rfl⟩ : ∃ j, m' = j + 1 := ⟨m' - 1, by omega⟩
        have hmx := HT.out.hm
        have cj : wr.cell? ⟨g, j, none⟩ = some (.int .i64 (pw j)) := by
          have := HT.out.hp.at j (by rw [pwL_len]; omega)
          rw [this]; simp [pwL]
        have e0 : ((j + 1 : Nat) : Int) - 1 = (j : Int) := by omega
        have wj : IntKind.i64.wrap (j : Int) = (j : Int) := by simp [IntKind.wrap, IntKind.bits, IntKind.signed]; omega
        have jj0 : (0 : Int) ≤ (j : Int) := by omega
        have jj1 : (j : Int) < (j : Int) + 1 := by omega
        have bj := pw_bd j
        have ey : Hid (pw (j + 1) = pw j * 65539 % 2147483647) := rfl
        obtain ⟨x, hx⟩ : ∃ x, x = pw j := ⟨_, rfl⟩
        rw [← hx] at cj bj ey
        obtain ⟨b0, b1⟩ := bj
        clear hx
        have wx : IntKind.i64.wrap (x * 65539) = x * 65539 := by simp [IntKind.wrap, IntKind.bits, IntKind.signed]; omega
        have tm : (x * 65539).tmod 2147483647 = x * 65539 % 2147483647 := Int.tmod_eq_emod_of_nonneg (by omega)
        have T6 := hid ((HT.out.alloc (.cells #[.int .i64 (x * 65539 % 2147483647)] 2)).drew)
        have O6 := hid T6.out.hp
        have Z6 := hid T6.out.bs
        have X6 : Hid (RowAt (wr.alloc (.cells #[.int .i64 (x * 65539 % 2147483647)] 2)).drew wr.heap.size 2 #[.int .i64 (x * 65539 % 2147483647)]) := (RowAt.new wr _ _).drew
        have k6 := T6.out.blk.cell 2 _ rfl
        have Y6 : Hid ((pwL (j + 1)).length + 1 ≤ 17592186044414) := by show _ ≤ _; rw [pwL_len]; omega
        have NR : Hid (some R ≠ (Value.slice (some ⟨g, 0, none⟩) (j + 1) cap).ownBlock) := fun q => HT.out.hp.ne' (Or.inl HT.out.lo) q.symm
        have ll : (pwL (j + 1)).length + 1 = j + 1 + 1 := by rw [pwL_len]
        go_wp2_with fail
        go_region_law (refine step_i64 base _ (by rfl) _ _ 63 (by rfl) 2 Tryz.underlying63 Tryz.infoI64 _ (pwL (j + 1)) (x * 65539 % 2147483647) (by rfl) O6.out Z6.out wr.heap.size X6.out (by rfl) Y6.out ?_; intro g7 c7 w7 hO7 hg7 hf7; have B7 := T6.out.blk.far hg7 T6.out.blk.lt NR.out; have y1 := B7.cell 2 _ rfl; have y2 := B7.free 2)
        all_goals
          have hO8 : OwnNums w7 base 2 .i64 (.slice (some ⟨g7, 0, none⟩) (j + 1 + 1) c7) (pwL (j + 1) ++ [pw (j + 1)]) := by rw [ey.out, ← ll]; exact hO7
          obtain ⟨T8, S8⟩ := T6.out.putP g7 c7 (by omega) hO8 hg7 hf7
          have HT8 := hid T8
          have HS8 : Hid (Step (Mine R hv (.slice (some ⟨g0, 0, none⟩) m cap0)) w (Mine R hv (.slice (some ⟨g7, 0, none⟩) (j + 1 + 1) c7)) (w7.setCell ⟨R, 2, none⟩ (.slice (some ⟨g7, 0, none⟩) (j + 1 + 1) c7))) := (HS.out.trans (Step.of_below (((Below.refl _ _).alloc (Nat.le_refl _) _).drew))).trans S8
          have k8 : Hid ((w7.setCell ⟨R, 2, none⟩ (.slice (some ⟨g7, 0, none⟩) (j + 1 + 1) c7)).cell? ⟨R, 2, none⟩ = some (.slice (some ⟨g7, 0, none⟩) (j + 1 + 1) c7)) := HT8.out.blk.cell 2 _ rfl
          have k9 : Hid (wr.cell? ⟨R, 2, none⟩ = some (.slice (some ⟨g, 0, none⟩) (j + 1) cap)) := HT.out.blk.cell 2 _ rfl
          have m8 : Hid (j + 1 ≤ k) := hle
          clear T8 S8 hO7 hO8 hg7 hf7 B7 y1 y2 T6 O6 Z6 X6 k6 HS HT cj k2 f2
        all_goals go_wp2
        all_goals
          go_roundw
          case rel => exact ⟨.slice (some ⟨g7, 0, none⟩) (j + 1 + 1) c7, j + 1 + 1, by omega, HT8.out, HS8.out⟩
          case measure => rw [k8.out, k9.out]; have := m8.out; show k + 1 - (j + 1 + 1) < k + 1 - (j + 1); omega
      · have d0 : decide ((m' : Int) ≤ (k : Int)) = false := by simp; omega
        have ck : wr.cell? ⟨g, k, none⟩ = some (.int .i64 (pw k)) := by
          have := HT.out.hp.at k (by rw [pwL_len]; omega)
          rw [this]; simp [pwL, show k < m' by omega]
        have i1 : (k : Int) < (m' : Int) := by omega
        have i0 : (0 : Int) ≤ (k : Int) := by omega
        go_wp2
        go_ret
        exact ⟨rfl, _, _, HT.out, HS.out⟩

end Go.Proofs.YtngkiokibldfjaaGreatDoor
namespace Go.Proofs.YtngkiokibldfjaaGreatDoor
open Go.RowKit
/-! The program's sumTable: reach. -/
set_option maxRecDepth 20000 in
set_option maxHeartbeats 4000000 in
theorem reach_all (ex : Sx) (base R : Nat) (s : ByteArray) (k : Nat) (hk : k ≤ s.size) (hs : s.size ≤ 1048576) (hv pv : Value) (n m : Nat) (w : World) (T : Tbl ex base R s w hv pv n m) :
    Calls Tryz.prog 127 #[.pointer (some ⟨R, 1, none⟩), .string s, .int .i64 (k : Nat)] w fun e w' => e = .returned (.tuple #[]) ∧ ∃ hv' n', Tbl ex base R s w' hv' pv n' m ∧ k < n' ∧ Step (Mine R hv pv) w (Mine R hv' pv) w' := by
  have HT0 := hid T
  clear T
  rcases Nat.eq_zero_or_pos n with hn | hn
  · subst hn
    have k2 := HT0.out.blk.cell 1 _ rfl
    have f2 := HT0.out.blk.free 1
    obtain ⟨a0, cap0, hpv⟩ : ∃ a0 cap0, hv = .slice a0 0 cap0 := by
      rcases HT0.out.hh.shape with ⟨q, q2⟩ | ⟨g0, cap0, hpv, hcap0⟩
      · exact ⟨_, _, q⟩
      · exact ⟨_, _, hpv⟩
    subst hpv
    have T1 := hid (HT0.out.alloc (.cells #[.int .i64 0] 2))
    have O1 := hid T1.out.hh
    have Z1 := hid T1.out.bs
    have X1 : Hid (RowAt (w.alloc (.cells #[.int .i64 0] 2)) w.heap.size 2 #[.int .i64 0]) := RowAt.new w _ _
    have NR : Hid (some R ≠ (Value.slice a0 0 cap0).ownBlock) := fun q => HT0.out.hh.ne' (Or.inl HT0.out.lo) q.symm
    go_enter Tryz.func127, Tryz.ntmps127
    go_wp2_with (first | (at_builtin; (refine append_i64 base _ rfl (.tmp 17) (.tmp 18) 63 rfl 2 Tryz.underlying63 Tryz.infoI64 _ (hdL s 0) 0 rfl O1.out Z1.out w.heap.size X1.out rfl (by simp [hdL]) ?_; intro g7 c7 w7 hO7 hg7 hf7; have B7 := T1.out.blk.far hg7 T1.out.blk.lt NR.out; have y1 := B7.cell 1 _ rfl; have y2 := B7.free 1; obtain ⟨T8, S8⟩ := T1.out.putH g7 c7 (by omega) hO7 hg7 hf7; have k8 := T8.blk.cell 1 _ rfl; have HT8 := hid T8; have HS8 := hid S8; clear T8 S8)) | go_in)
    have HS9 : Hid (Step (Mine R (.slice a0 0 cap0) pv) w (Mine R (.slice (some ⟨g7, 0, none⟩) (0 + 1) c7) pv) (w7.setCell ⟨R, 1, none⟩ (.slice (some ⟨g7, 0, none⟩) (0 + 1) c7))) := (Step.of_below ((Below.refl _ _).alloc (Nat.le_refl _) _)).trans HS8.out
    clear hO7 hg7 hf7 B7 y1 y2 T1 O1 Z1 X1 NR k2 f2 HS8 k8
    go_loopw [6] (fun i wr => ∃ (hv' : Value) (n' : Nat), 0 < n' ∧ i = .int .i64 ((n' : Int) - 1) ∧ Tbl ex base R s wr hv' pv n' m ∧ Step (Mine R (.slice a0 0 cap0) pv) w (Mine R hv' pv) wr) (fun i _ => k + 1 - (intOf i).toNat)
    case atStart => exact ⟨_, 0 + 1, by decide, by first | rfl | (simp [hdL, wrap64]), HT8.out, HS9.out⟩
    case round =>
      obtain ⟨hv', n', hn0, rfl, hT, hS⟩ := hrel
      have HT := hid hT
      have HS := hid hS
      clear hT hS
      rcases HT.out.hh.shape with ⟨q, q2⟩ | ⟨g, cap, hpv, hcap⟩
      · rw [hdL_len] at q2; omega
      rw [hdL_len] at hpv hcap
      subst hpv
      obtain ⟨j, rfl⟩ : ∃ j, n' = j + 1 := ⟨n' - 1, by omega⟩
      rw [show ((j + 1 : Nat) : Int) - 1 = (j : Int) by omega]
      have k2 := HT.out.blk.cell 1 _ rfl
      have f2 := HT.out.blk.free 1
      by_cases hle : j < k
      · have d0 : decide ((j : Int) < (k : Int)) = true := by simp; omega
        have cj : wr.cell? ⟨g, j, none⟩ = some (.int .i64 (hd s j)) := by
          have := HT.out.hh.at j (by rw [hdL_len]; omega)
          rw [this]; simp [hdL]
        have bj := hd_bd s j
        have hjs : j < s.size := by omega
        have ey : Hid (hd s (j + 1) = sumL (hd s j) (s.extract j (j + 1)).data.toList) := by show _ = _; rw [hd_step s j hjs, ex_one s j hjs]; rfl
        have SO := fun w => hid (isumOn (hd s j) (s.extract j (j + 1)) bj.1 (by omega) (by rw [ex_size s _ _ (by omega)]; omega) w)
        have hsl : ∀ wx, (Instr.slice 9 (.string s) (some (.int .i64 (j : Int))) (some (.int .i64 ((j : Int) + 1))) none).run Tryz.prog wx = .ok (.string (s.extract j (j + 1))) wx := by
          intro wx
          rw [run_slice_string_if _ _ _ _ _ _ _ Tryz.underlying9, if_pos (by omega), if_pos (by omega)]
          rw [show ((j : Int) + 1).toNat = j + 1 by omega, Int.toNat_natCast]
        obtain ⟨x, hx⟩ : ∃ x, x = hd s j := ⟨_, rfl⟩
        obtain ⟨c1, hc1⟩ : ∃ c, c = s.extract j (j + 1) := ⟨_, rfl⟩
        rw [← hc1] at ey SO hsl
        rw [← hx] at cj ey SO
        obtain ⟨y, hy⟩ : ∃ y, y = sumL x c1.data.toList := ⟨_, rfl⟩
        rw [← hy] at ey SO
        have wj : IntKind.i64.wrap ((j : Int) + 1) = (j : Int) + 1 := by simp [IntKind.wrap, IntKind.bits, IntKind.signed]; omega
        have jj0 : (0 : Int) ≤ (j : Int) := by omega
        have jj1 : (j : Int) < (j : Int) + 1 := by omega
        clear hx hc1 hy bj
        have T6 := hid ((HT.out.alloc (.cells #[.int .i64 y] 2)).drew)
        have O6 := hid T6.out.hh
        have Z6 := hid T6.out.bs
        have X6 : Hid (RowAt (wr.alloc (.cells #[.int .i64 y] 2)).drew wr.heap.size 2 #[.int .i64 y]) := (RowAt.new wr _ _).drew
        have k6 := T6.out.blk.cell 1 _ rfl
        have Y6 : Hid ((hdL s (j + 1)).length + 1 ≤ 17592186044414) := by show _ ≤ _; rw [hdL_len]; omega
        have NR : Hid (some R ≠ (Value.slice (some ⟨g, 0, none⟩) (j + 1) cap).ownBlock) := fun q => HT.out.hh.ne' (Or.inl HT.out.lo) q.symm
        have ll : (hdL s (j + 1)).length + 1 = j + 1 + 1 := by rw [hdL_len]
        go_wp2_with fail
        go_region_law (first
          | (go_simp; go_at_call 104; refine (SO _).out.mono ?_; rintro e v5 ⟨rfl, rfl⟩; dsimp only)
          | (refine step_i64 base _ (by rfl) _ _ 63 (by rfl) 2 Tryz.underlying63 Tryz.infoI64 _ (hdL s (j + 1)) y (by rfl) O6.out Z6.out wr.heap.size X6.out (by rfl) Y6.out ?_; intro g7 c7 w7 hO7 hg7 hf7; have B7 := T6.out.blk.far hg7 T6.out.blk.lt NR.out; have y1 := B7.cell 1 _ rfl; have y2 := B7.free 1))
        all_goals
          have hO8 : OwnNums w7 base 2 .i64 (.slice (some ⟨g7, 0, none⟩) (j + 1 + 1) c7) (hdL s (j + 1) ++ [hd s (j + 1)]) := by rw [ey.out, ← ll]; exact hO7
          obtain ⟨T8, S8⟩ := T6.out.putH g7 c7 (by omega) hO8 hg7 hf7
          have HT8 := hid T8
          have HS8 : Hid (Step (Mine R (.slice a0 0 cap0) pv) w (Mine R (.slice (some ⟨g7, 0, none⟩) (j + 1 + 1) c7) pv) (w7.setCell ⟨R, 1, none⟩ (.slice (some ⟨g7, 0, none⟩) (j + 1 + 1) c7))) := (HS.out.trans (Step.of_below (((Below.refl _ _).alloc (Nat.le_refl _) _).drew))).trans S8
          have m8 : Hid (j < k) := hle
          clear T8 S8 hO7 hO8 hg7 hf7 B7 y1 y2 T6 O6 Z6 X6 k6 HS HT cj k2 f2
        all_goals go_wp2
        all_goals
          go_roundw
          case rel => exact ⟨.slice (some ⟨g7, 0, none⟩) (j + 1 + 1) c7, j + 1 + 1, by omega, by rw [show ((j + 1 + 1 : Nat) : Int) - 1 = (j : Int) + 1 by omega], HT8.out, HS8.out⟩
          case measure => have := m8.out; simp [intOf]; omega
      · have d0 : decide ((j : Int) < (k : Int)) = false := by simp; omega
        go_wp2
        go_end0
        exact ⟨rfl, _, _, HT.out, by omega, HS.out⟩

  · rcases HT0.out.hh.shape with ⟨q, q2⟩ | ⟨g0, cap0, hpv, hcap0⟩
    · rw [hdL_len] at q2; omega
    rw [hdL_len] at hpv hcap0
    subst hpv
    have k2 := HT0.out.blk.cell 1 _ rfl
    have d1 : ((n : Int) == 0) = false := by simp; omega
    have wn : IntKind.i64.wrap ((n : Int) - 1) = (n : Int) - 1 := by have := HT0.out.hn; simp [IntKind.wrap, IntKind.bits, IntKind.signed]; omega
    go_enter Tryz.func127, Tryz.ntmps127
    go_wp2_with fail
    go_loopw [6] (fun i wr => ∃ (hv' : Value) (n' : Nat), 0 < n' ∧ i = .int .i64 ((n' : Int) - 1) ∧ Tbl ex base R s wr hv' pv n' m ∧ Step (Mine R (.slice (some ⟨g0, 0, none⟩) n cap0) pv) w (Mine R hv' pv) wr) (fun i _ => k + 1 - (intOf i).toNat)
    case atStart => exact ⟨_, n, hn, rfl, HT0.out, Step.refl _ _⟩
    case round =>
      obtain ⟨hv', n', hn0, rfl, hT, hS⟩ := hrel
      have HT := hid hT
      have HS := hid hS
      clear hT hS
      rcases HT.out.hh.shape with ⟨q, q2⟩ | ⟨g, cap, hpv, hcap⟩
      · rw [hdL_len] at q2; omega
      rw [hdL_len] at hpv hcap
      subst hpv
      obtain ⟨j, rfl⟩ : ∃ j, n' = j + 1 := ⟨n' - 1, by omega⟩
      rw [show ((j + 1 : Nat) : Int) - 1 = (j : Int) by omega]
      have k2 := HT.out.blk.cell 1 _ rfl
      have f2 := HT.out.blk.free 1
      by_cases hle : j < k
      · have d0 : decide ((j : Int) < (k : Int)) = true := by simp; omega
        have cj : wr.cell? ⟨g, j, none⟩ = some (.int .i64 (hd s j)) := by
          have := HT.out.hh.at j (by rw [hdL_len]; omega)
          rw [this]; simp [hdL]
        have bj := hd_bd s j
        have hjs : j < s.size := by omega
        have ey : Hid (hd s (j + 1) = sumL (hd s j) (s.extract j (j + 1)).data.toList) := by show _ = _; rw [hd_step s j hjs, ex_one s j hjs]; rfl
        have SO := fun w => hid (isumOn (hd s j) (s.extract j (j + 1)) bj.1 (by omega) (by rw [ex_size s _ _ (by omega)]; omega) w)
        have hsl : ∀ wx, (Instr.slice 9 (.string s) (some (.int .i64 (j : Int))) (some (.int .i64 ((j : Int) + 1))) none).run Tryz.prog wx = .ok (.string (s.extract j (j + 1))) wx := by
          intro wx
          rw [run_slice_string_if _ _ _ _ _ _ _ Tryz.underlying9, if_pos (by omega), if_pos (by omega)]
          rw [show ((j : Int) + 1).toNat = j + 1 by omega, Int.toNat_natCast]
        obtain ⟨x, hx⟩ : ∃ x, x = hd s j := ⟨_, rfl⟩
        obtain ⟨c1, hc1⟩ : ∃ c, c = s.extract j (j + 1) := ⟨_, rfl⟩
        rw [← hc1] at ey SO hsl
        rw [← hx] at cj ey SO
        obtain ⟨y, hy⟩ : ∃ y, y = sumL x c1.data.toList := ⟨_, rfl⟩
        rw [← hy] at ey SO
        have wj : IntKind.i64.wrap ((j : Int) + 1) = (j : Int) + 1 := by simp [IntKind.wrap, IntKind.bits, IntKind.signed]; omega
        have jj0 : (0 : Int) ≤ (j : Int) := by omega
        have jj1 : (j : Int) < (j : Int) + 1 := by omega
        clear hx hc1 hy bj
        have T6 := hid ((HT.out.alloc (.cells #[.int .i64 y] 2)).drew)
        have O6 := hid T6.out.hh
        have Z6 := hid T6.out.bs
        have X6 : Hid (RowAt (wr.alloc (.cells #[.int .i64 y] 2)).drew wr.heap.size 2 #[.int .i64 y]) := (RowAt.new wr _ _).drew
        have k6 := T6.out.blk.cell 1 _ rfl
        have Y6 : Hid ((hdL s (j + 1)).length + 1 ≤ 17592186044414) := by show _ ≤ _; rw [hdL_len]; omega
        have NR : Hid (some R ≠ (Value.slice (some ⟨g, 0, none⟩) (j + 1) cap).ownBlock) := fun q => HT.out.hh.ne' (Or.inl HT.out.lo) q.symm
        have ll : (hdL s (j + 1)).length + 1 = j + 1 + 1 := by rw [hdL_len]
        go_wp2_with fail
        go_region_law (first
          | (go_simp; go_at_call 104; refine (SO _).out.mono ?_; rintro e v5 ⟨rfl, rfl⟩; dsimp only)
          | (refine step_i64 base _ (by rfl) _ _ 63 (by rfl) 2 Tryz.underlying63 Tryz.infoI64 _ (hdL s (j + 1)) y (by rfl) O6.out Z6.out wr.heap.size X6.out (by rfl) Y6.out ?_; intro g7 c7 w7 hO7 hg7 hf7; have B7 := T6.out.blk.far hg7 T6.out.blk.lt NR.out; have y1 := B7.cell 1 _ rfl; have y2 := B7.free 1))
        all_goals
          have hO8 : OwnNums w7 base 2 .i64 (.slice (some ⟨g7, 0, none⟩) (j + 1 + 1) c7) (hdL s (j + 1) ++ [hd s (j + 1)]) := by rw [ey.out, ← ll]; exact hO7
          obtain ⟨T8, S8⟩ := T6.out.putH g7 c7 (by omega) hO8 hg7 hf7
          have HT8 := hid T8
          have HS8 : Hid (Step (Mine R (.slice (some ⟨g0, 0, none⟩) n cap0) pv) w (Mine R (.slice (some ⟨g7, 0, none⟩) (j + 1 + 1) c7) pv) (w7.setCell ⟨R, 1, none⟩ (.slice (some ⟨g7, 0, none⟩) (j + 1 + 1) c7))) := (HS.out.trans (Step.of_below (((Below.refl _ _).alloc (Nat.le_refl _) _).drew))).trans S8
          have m8 : Hid (j < k) := hle
          clear T8 S8 hO7 hO8 hg7 hf7 B7 y1 y2 T6 O6 Z6 X6 k6 HS HT cj k2 f2
        all_goals go_wp2
        all_goals
          go_roundw
          case rel => exact ⟨.slice (some ⟨g7, 0, none⟩) (j + 1 + 1) c7, j + 1 + 1, by omega, by rw [show ((j + 1 + 1 : Nat) : Int) - 1 = (j : Int) + 1 by omega], HT8.out, HS8.out⟩
          case measure => have := m8.out; simp [intOf]; omega
      · have d0 : decide ((j : Int) < (k : Int)) = false := by simp; omega
        go_wp2
        go_end0
        exact ⟨rfl, _, _, HT.out, by omega, HS.out⟩

end Go.Proofs.YtngkiokibldfjaaGreatDoor
namespace Go.Proofs.YtngkiokibldfjaaGreatDoor
open Go.RowKit
/-! The program's sumTable: of. -/
theorem Tbl.mine_lt {ex : Sx} {base R : Nat} {s : ByteArray} {w : World} {hv pv : Value} {n m : Nat} (T : Tbl ex base R s w hv pv n m) {b : Nat} (h : Mine R hv pv b) : b < w.heap.size := by
  rcases h with h | h | h
  · have := T.lo; have := T.bs; omega
  · exact (World.ownsRow.lt T.hh b h).2
  · exact (World.ownsRow.lt T.hp b h).2
theorem Tbl.mine_lo {ex : Sx} {base R : Nat} {s : ByteArray} {w : World} {hv pv : Value} {n m : Nat} (T : Tbl ex base R s w hv pv n m) {b : Nat} (h : Mine R hv pv b) : R ≤ b := by
  rcases h with h | h | h
  · omega
  · have := (World.ownsRow.lt T.hh b h).1; have := T.lo; omega
  · have := (World.ownsRow.lt T.hp b h).1; have := T.lo; omega
set_option maxRecDepth 20000 in
set_option maxHeartbeats 4000000 in
theorem of_all (ex : Sx) (base R : Nat) (s : ByteArray) (a z : Nat) (haz : a + z ≤ s.size) (hz : z ≤ 400000) (hs : s.size ≤ 1048576) (hv pv : Value) (n m : Nat) (w : World) (T : Tbl ex base R s w hv pv n m) :
    Calls Tryz.prog 111 #[.pointer (some ⟨R, 1, none⟩), .string s, .agg #[.int .i64 (a : Nat), .int .i64 (z : Nat)], .int .i64 5] w fun e w' => e = .returned (.int .i64 (sumOf (s.extract a (a + z)) 5)) ∧ ∃ hv' pv' n' m', Tbl ex base R s w' hv' pv' n' m' ∧ Step (Mine R hv pv) w (Mine R hv' pv') w' := by
  have HT := hid T
  have nB : ¬ Mine R hv pv w.heap.size := fun q => by have := T.mine_lt q; omega
  have waz : IntKind.i64.wrap ((a : Int) + (z : Int)) = (a : Int) + (z : Int) := by simp [IntKind.wrap, IntKind.bits, IntKind.signed]; omega
  have RE := fun w T => hid (reach_all ex base R s (a + z) haz hs hv pv n m w T)
  rw [show ((a + z : Nat) : Int) = (a : Int) + (z : Int) by omega] at RE
  have TS := hid (table_sum s a z haz hz)
  clear T
  go_enter Tryz.func111, Tryz.ntmps111
  go_wp2_with fail
  refine (RE _ (HT.out.alloc _)).out.mono ?_
  rintro e w1 ⟨rfl, hv1, n1, T1, hn1, S1⟩
  have hB1 : Blk w1 w.heap.size #[.int .i64 (a : Nat), .int .i64 (z : Nat)] 106 := S1.blk (Blk.made w _ _) nB
  have S01 : Hid (Step (Mine R hv pv) w (Mine R hv1 pv) w1) := (Step.of_below ((Below.refl _ _).alloc (Nat.le_refl _) _)).trans S1
  have HT1 := hid T1
  rcases T1.hh.shape with ⟨q, q2⟩ | ⟨g1, c1, hpv, hcap⟩
  · rw [hdL_len] at q2; omega
  rw [hdL_len] at hpv hcap
  subst hpv
  have k1 := T1.blk.cell 1 _ rfl
  have b0 := hB1.cell 0 _ rfl
  have b1 := hB1.cell 1 _ rfl
  have ca : w1.cell? ⟨g1, a, none⟩ = some (.int .i64 (hd s a)) := by
    have := T1.hh.at a (by rw [hdL_len]; omega)
    rw [this]; simp [hdL, show a < n1 by omega]
  have bda := hd_bd s a
  obtain ⟨x, hx⟩ : ∃ x, x = hd s a := ⟨_, rfl⟩
  rw [← hx] at ca TS bda
  obtain ⟨x0, x1⟩ := bda
  have tm : (6 + 2147483647 - x).tmod 2147483647 = (6 + 2147483647 - x) % 2147483647 := Int.tmod_eq_emod_of_nonneg (by omega)
  have tm' : (2147483653 - x).tmod 2147483647 = (6 + 2147483647 - x) % 2147483647 := by rw [show (2147483653 : Int) - x = 6 + 2147483647 - x by omega]; exact tm
  have wz1 : IntKind.i64.wrap 2147483653 = 2147483653 := by decide
  have wz2 : IntKind.i64.wrap (2147483653 - x) = 2147483653 - x := by simp [IntKind.wrap, IntKind.bits, IntKind.signed]; omega
  obtain ⟨ah, hah⟩ : ∃ y, y = (6 + 2147483647 - x) % 2147483647 := ⟨_, rfl⟩
  have ah0 : 0 ≤ ah := by omega
  have ah1 : ah < 2147483647 := by omega
  rw [← hah] at tm' TS
  have nB1 : Hid (¬ Mine R (.slice (some ⟨g1, 0, none⟩) n1 c1) pv w.heap.size) := fun q => by rcases S1.own _ q with r | r; (exact nB r); (rw [World.size_alloc] at r; omega)
  have ce : w1.cell? ⟨g1, a + z, none⟩ = some (.int .i64 (hd s (a + z))) := by
    have := T1.hh.at (a + z) (by rw [hdL_len]; omega)
    rw [this]; simp [hdL, show a + z < n1 by omega]
  have bde := hd_bd s (a + z)
  obtain ⟨y, hy⟩ : ∃ x, x = hd s (a + z) := ⟨_, rfl⟩
  rw [← hy] at ce TS bde
  obtain ⟨y0, y1⟩ := bde
  have PW := fun w T => hid (power_all ex base R s z (by omega) hs (.slice (some ⟨g1, 0, none⟩) n1 c1) pv n1 m w T)
  have bdp := pw_bd z
  obtain ⟨pz, hpz⟩ : ∃ x, x = pw z := ⟨_, rfl⟩
  rw [← hpz] at PW TS bdp
  have m0 : 0 ≤ ah * pz := Int.mul_nonneg ah0 bdp.1
  have m1 : ah * pz ≤ 2147483646 * 2147483646 := Int.mul_le_mul (by omega) (by omega) bdp.1 (by decide)
  have wm : IntKind.i64.wrap (ah * pz) = ah * pz := by simp [IntKind.wrap, IntKind.bits, IntKind.signed]; omega
  have wa : IntKind.i64.wrap (y + ah * pz) = y + ah * pz := by simp [IntKind.wrap, IntKind.bits, IntKind.signed]; omega
  have ta : (y + ah * pz).tmod 2147483647 = (y + ah * pz) % 2147483647 := Int.tmod_eq_emod_of_nonneg (by omega)
  have ie0 : (0 : Int) ≤ (a : Int) + (z : Int) := by omega
  have ie1 : (a : Int) + (z : Int) < (n1 : Int) := by omega
  have iet : ((a : Int) + (z : Int)).toNat = a + z := by omega
  have FS := fun w => hid (ifirstSum 5 (by decide) (by decide) w)
  have ia0 : (0 : Int) ≤ (a : Int) := by omega
  have ia1 : (a : Int) < (n1 : Int) := by omega
  have HN1 := hid hn1
  have HBX := hid hB1
  have CE : Hid (hd s (a + z) = y) := hy.symm
  have HW1 : Hid (w.heap.size < w1.heap.size) := hB1.lt
  clear T1 S1 RE hB1 hx hn1 tm hah hy hpz bdp m0 m1
  go_wp2_with fail
  go_region_held3 (fun wx => (wx.cell? ⟨R, 1, none⟩ = some (.slice (some ⟨g1, 0, none⟩) n1 c1) ∧ wx.cell? ⟨w.heap.size, 0, none⟩ = some (.int .i64 (a : Nat))) ∧ wx.cell? ⟨g1, a, none⟩ = some (.int .i64 x)) (first | exact ⟨⟨k1, b0⟩, ca⟩ | (go_keep; done)) ((go_at_call 105; refine (FS _).out.mono ?_; rintro e v1 ⟨rfl, rfl⟩))
  go_wp2_with fail
  go_region_held3 (fun wx => (wx.cell? ⟨R, 1, none⟩ = some (.slice (some ⟨g1, 0, none⟩) n1 c1) ∧ wx.cell? ⟨w.heap.size, 1, none⟩ = some (.int .i64 (z : Nat))) ∧ wx.cell? ⟨g1, a + z, none⟩ = some (.int .i64 y)) (first | exact ⟨⟨k1, b1⟩, ce⟩ | exact ⟨⟨k9, b9⟩, c9⟩ | (go_keep; done)) ((go_at_call 128; refine (PW _ (by first | exact HT1.out | exact HT1.out.drew | exact HT1.out.drew.drew)).out.mono ?_; rintro e w9 ⟨rfl, pv9, m9, T9, S9⟩; have HT9 := hid T9; have HS9 := hid S9; have k9 : w9.cell? ⟨R, 1, none⟩ = some (.slice (some ⟨g1, 0, none⟩) n1 c1) := T9.blk.cell 1 _ rfl; have b9 : w9.cell? ⟨w.heap.size, 1, none⟩ = some (.int .i64 (z : Nat)) := (Step.blk S9 HBX.out nB1.out).cell 1 _ rfl; have c9 : w9.cell? ⟨g1, a + z, none⟩ = some (.int .i64 y) := (by rw [T9.hh.at (a + z) (by rw [hdL_len]; have := HN1.out; omega), ← CE.out]; have := HN1.out; simp [hdL, show a + z < n1 by omega]); clear T9 S9))
  all_goals go_wp2
  all_goals go_ret
  all_goals exact ⟨by rw [← TS.out]; rfl, _, _, _, _, HT9.out, S01.out.trans (by first | exact HS9.out | exact (Step.of_below (Below.refl _ _).drew).trans HS9.out | exact (Step.of_below (Below.refl _ _).drew.drew).trans HS9.out)⟩
end Go.Proofs.YtngkiokibldfjaaGreatDoor
