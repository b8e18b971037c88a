import Derived.WalkKit
import Derived.Laws.BytesArg
import Derived.Deep.AppendLies
import Derived.Deep.QuietTactic
namespace Go.Proofs.YtngkiokibldfjaaGreatDoor
open Go.RowKit

theorem hid {p : Prop} (h : p) : Hid p := h

/-! The bytes of a number: seven bits a byte, the lowest first. -/
def putL : Nat → Nat → List Int
  | 0, n => [(n : Int)]
  | f + 1, n => if n < 128 then [(n : Int)] else (128 + (n : Int) % 128) :: putL f (n / 128)

theorem putL_small (f n : Nat) (h : n < 128) : putL f n = [(n : Int)] := by
  cases f with
  | zero => rfl
  | succ f => simp [putL, h]
theorem putL_big (f n : Nat) (h : 128 ≤ n) : putL (f + 1) n = (128 + (n : Int) % 128) :: putL f (n / 128) := by
  simp [putL, show ¬ n < 128 by omega]
theorem putL_length : ∀ f n, (putL f n).length ≤ f + 1 := by
  intro f
  induction f with
  | zero => intro n; simp [putL]
  | succ f ih => intro n; unfold putL; split
                 · simp
                 · simp; exact ih _
theorem putL_range : ∀ f n, n < 128 ^ (f + 1) → ∀ x ∈ putL f n, 0 ≤ x ∧ x < 256 := by
  intro f
  induction f with
  | zero => intro n h x hx; simp [putL] at hx; subst hx; omega
  | succ f ih =>
    intro n h x hx
    by_cases hn : n < 128
    · rw [putL_small _ _ hn] at hx; simp at hx; subst hx; omega
    · rw [putL_big _ _ (by omega)] at hx
      rcases List.mem_cons.1 hx with rfl | hx
      · omega
      · refine ih (n / 128) ?_ x hx
        rw [Nat.div_lt_iff_lt_mul (by decide)]; rw [Nat.pow_succ] at h; exact h

/-- The slice value v owns the numbers xs, of kind k and type e, in blocks from base on. -/
def OwnNums (w : World) (base : Nat) (e : TypeId) (k : IntKind) (v : Value) (xs : List Int) : Prop := w.ownsRow base e 1 v xs.length (xs.map (Value.int k))
theorem OwnNums.empty (w : World) (e : TypeId) (k : IntKind) : OwnNums (w.alloc (.cells #[] e)) w.heap.size e k (.slice (some ⟨w.heap.size, 0, none⟩) 0 0) [] :=
  World.ownsRow_made w #[] 0 (Nat.le_refl _) (by decide) rfl

/-- What is owned as bytes is converted to a string as it lies. -/
theorem conv_owned {P : Program} (w : World) (src e dst : TypeId) (hs : P.underlying src = some (.slice e)) (he : P.underlying e = some (.int .u8)) (hd : P.underlying dst = some .string)
    {base : Nat} {v : Value} {xs : List Int} (hown : OwnNums w base e .u8 v xs) :
    (convert src dst v).run P w = .ok (.string (strOfNums xs)) w := by
  rcases hown.2 with ⟨rfl, h0⟩ | ⟨g, cap, cur, rfl, hg, hh, hn, hm, hsz, htk⟩
  · have : xs = [] := List.eq_nil_of_length_eq_zero h0
    subst this
    rw [run_convert_bytes_string w src dst e none 0 0 hs he hd]; rfl
  · refine run_convert_bytes_arg w src e hs he g 0 xs.length cap xs rfl ?_ dst hd
    intro i hi
    have hc := World.ownsRow.cells hown (g := g) rfl i (.int .u8 (xs.getD i 0)) (by
      rw [List.getElem?_map, List.getElem?_eq_getElem (by omega)]; simp [show i < xs.length by omega])
    have hp : (⟨g, 0, none⟩ : Addr).add i = ⟨g, 0 + i, none⟩ := by unfold Addr.add; split <;> simp_all
    rw [hp] at hc; exact hc

/-- One number is appended to a row of numbers that the call owns; the number lies in a box of its own, just made. -/
theorem append_num {P : Program} (W0 wr : World) {ops : Array Oper} {rest : List Oper} {o : Oper} {a : Act} {Q : Exit → Act → World → Prop} (hgd : o.guard = none) (s x : Operand) (t : TypeId)
    (ho : o.op = .call { callee := .builtin .append, args := #[s, x], argTypes := #[t, t] })
    (e : TypeId) (k : IntKind) (bt : Nat) (ht : P.underlying t = some (.slice e)) (hinfo : (P.info? e).map (fun i => (i.zero, i.size, i.bytes)) = some (some (.int k 0), 1, bt)) (hbt : bt ≤ 8)
    (v : Value) (xs : List Int) (b : Int) (hs : a.eval s = v) (hown : OwnNums wr W0.heap.size e k v xs) (hbel : Below W0.heap.size W0 wr)
    (hx : a.eval x = .slice (some ⟨wr.heap.size, 0, none⟩) 1 1) (hlen : xs.length ≤ 17592186044414)
    (h : ∀ v' w', OwnNums w' W0.heap.size e k v' (xs ++ [b]) → Below W0.heap.size W0 w' → (v'.ownBlock.isSome = true) → wpList P ops Q rest (a.put o.dst v') w') :
    wpList P ops Q (o :: rest) a (wr.alloc (.cells #[.int k b] e)) := by
  obtain ⟨i0, hi, hz0, hz1, hz2⟩ := info_parts hinfo
  have hsz := hbel.size
  refine wpList_append_own _ hgd s x t ho W0.heap.size e i0 (.int k 0) 1 bt ht hi hz0 hz1 hz2 rfl (by decide) v _ _ hs (World.ownsRow.alloc hown _) ⟨wr.heap.size, 0, none⟩ 1 1 [.int k b] hx rfl ?_ ?_ ?_ ?_ ?_ ?_
  · intro j u hj
    match j, hj with
    | 0, hj => simp at hj; subst hj; simp [Addr.add]
  · intro u hu; simp at hu; subst hu; rfl
  · unfold maxLen; omega
  · exact Nat.le_trans (Nat.mul_le_mul_left _ hbt) (by omega)
  · simp; omega
  · intro v' w' h1 h2 h3
    refine h v' w' (by simpa [OwnNums] using h1) (((hbel.alloc hsz _).grown h2 (by simp; omega) fun k hk => (World.ownsRow.lt hown k hk).1)) ?_
    rcases h1.2 with ⟨rfl, h0⟩ | ⟨g, cap, cur, rfl, _⟩
    · omega
    · rfl

theorem OwnNums.alloc {w : World} {base : Nat} {e : TypeId} {k : IntKind} {v : Value} {xs : List Int} (h : OwnNums w base e k v xs) (o : Obj) : OwnNums (w.alloc o) base e k v xs := World.ownsRow.alloc h o
theorem OwnNums.drew {w : World} {base : Nat} {e : TypeId} {k : IntKind} {v : Value} {xs : List Int} (h : OwnNums w base e k v xs) : OwnNums w.drew base e k v xs := World.ownsRow.drew h

/-- Some numbers are appended to a row of numbers that the call owns, as a step of a region that draws its order; they lie in a block of their own. -/
theorem step_append_nums {P : Program} (W0 w : World) {ops : Array Oper} {o : Oper} {a : Act} {K : Act → World → Prop} {Q : Exit → Act → World → Prop} {E : Prop} (hgd : o.guard = none) (s x : Operand) (t : TypeId)
    (ho : o.op = .call { callee := .builtin .append, args := #[s, x], argTypes := #[t, t] })
    (e : TypeId) (k : IntKind) (bt : Nat) (ht : P.underlying t = some (.slice e)) (hinfo : (P.info? e).map (fun i => (i.zero, i.size, i.bytes)) = some (some (.int k 0), 1, bt)) (hbt : bt ≤ 8)
    (v : Value) (xs bs : List Int) (hs : a.eval s = v) (hown : OwnNums w W0.heap.size e k v xs) (hbel : Below W0.heap.size W0 w)
    (b m : Nat) (hbox : w.heap[b]? = some (.cells (bs.map (Value.int k)).toArray e (0, 0))) (hx : a.eval x = .slice (some ⟨b, 0, none⟩) m m) (hm : bs.length = m) (hm0 : 0 < m) (hlen : xs.length + m ≤ 17592186044414)
    (h : ∀ g cap w', OwnNums w' W0.heap.size e k (.slice (some ⟨g, 0, none⟩) (xs.length + m) cap) (xs ++ bs) → Below W0.heap.size W0 w' → K (a.put o.dst (.slice (some ⟨g, 0, none⟩) (xs.length + m) cap)) w') :
    if Region.wanted o (yielded ops a.tmps) = true then Oper.wp P o a w K Q else E := by
  obtain ⟨i0, hi, hz0, hz1, hz2⟩ := info_parts hinfo
  have hsz := hbel.size
  refine step_append_lies _ hgd s x t ho W0.heap.size e i0 (.int k 0) 1 bt ht hi hz0 hz1 hz2 rfl (by decide) v xs.length _ hs hown ⟨b, 0, none⟩ m m (bs.map (Value.int k)) hx (by simp; omega) ?_ ?_ hm0 ?_ ?_ hsz w.heap.size rfl ?_
  · have := World.news_of_block hbox; simpa using this
  · intro u hu; obtain ⟨y, _, rfl⟩ := List.mem_map.1 hu; rfl
  · unfold maxLen; omega
  · exact Nat.le_trans (Nat.mul_le_mul_left _ hbt) (by omega)
  · intro g cap w' h1 h2 h3 h4
    refine h g cap w' (by subst hm; simpa [OwnNums] using h1) (hbel.grown h2 hsz fun k hk => (World.ownsRow.lt hown k hk).1)

/-- 'make([]T, 0, n)' of numbers. -/
theorem make_nums {P : Program} (W0 w : World) {ops : Array Oper} {rest : List Oper} {o : Oper} {a : Act} {Q : Exit → Act → World → Prop}
    (hg : o.guard = none) (l c : Operand) (t : TypeId) (hop : o.op = Op.makeSlice t l c)
    (e : TypeId) (k : IntKind) (bt : Nat) (ht : P.underlying t = some (.slice e)) (hinfo : (P.info? e).map (fun i => (i.zero, i.size, i.bytes)) = some (some (.int k 0), 1, bt)) (hbt : bt ≤ 8)
    (kl kc : IntKind) (C : Int) (n : Nat) (hl : a.eval l = .int kl 0) (hc : a.eval c = .int kc C) (hC : C = (n : Int)) (hn : n ≤ 17592186044416) (hbel : Below W0.heap.size W0 w)
    (hK : ∀ w', OwnNums w' W0.heap.size e k (.slice (some ⟨w.heap.size, 0, none⟩) 0 n) [] → Below W0.heap.size W0 w' → wpList P ops Q rest (a.put o.dst (.slice (some ⟨w.heap.size, 0, none⟩) 0 n)) w') :
    wpList P ops Q (o :: rest) a w := by
  obtain ⟨i0, hi, hz0, hz1, hz2⟩ := info_parts hinfo
  refine wpList_make_own w hg l c t hop W0.heap.size e i0 (.int k 0) 1 ht hi hz0 hz1 kl kc C n hl hc hC ?_ (by unfold maxLen; omega) hbel.size ?_
  · rw [hz2]; exact Nat.le_trans (Nat.mul_le_mul_right _ hbt) (by omega)
  · intro w' h1 h2
    exact hK w' h1 (hbel.grown h2 hbel.size (by intro k hk; cases hk))

theorem grown_trans {a b c : World} {r : Option Nat} (h : a.grownBy b r) (k : b.grownBy c r) : a.grownBy c r :=
  ⟨k.os.trans h.os, k.tape.trans h.tape, k.output.trans h.output, Nat.le_trans h.size k.size, fun j hj hne => (k.block j (Nat.lt_of_lt_of_le hj h.size) hne).trans (h.block j hj hne)⟩

/-- One number is appended to a row of numbers that the call owns: what became of the world is told as it stands. -/
theorem append_num2 {P : Program} (base : Nat) (wr : World) {ops : Array Oper} {rest : List Oper} {o : Oper} {a : Act} {Q : Exit → Act → World → Prop} (hgd : o.guard = none) (s x : Operand) (t : TypeId)
    (ho : o.op = .call { callee := .builtin .append, args := #[s, x], argTypes := #[t, t] })
    (e : TypeId) (k : IntKind) (bt : Nat) (ht : P.underlying t = some (.slice e)) (hinfo : (P.info? e).map (fun i => (i.zero, i.size, i.bytes)) = some (some (.int k 0), 1, bt)) (hbt : bt ≤ 8)
    (v : Value) (xs : List Int) (b : Int) (hs : a.eval s = v) (hown : OwnNums wr base e k v xs) (hsz : base ≤ wr.heap.size)
    (hx : a.eval x = .slice (some ⟨wr.heap.size, 0, none⟩) 1 1) (hlen : xs.length ≤ 17592186044414)
    (h : ∀ v' w', OwnNums w' base e k v' (xs ++ [b]) → wr.grownBy w' v.ownBlock → wpList P ops Q rest (a.put o.dst v') w') :
    wpList P ops Q (o :: rest) a (wr.alloc (.cells #[.int k b] e)) := by
  obtain ⟨i0, hi, hz0, hz1, hz2⟩ := info_parts hinfo
  refine wpList_append_own _ hgd s x t ho base e i0 (.int k 0) 1 bt ht hi hz0 hz1 hz2 rfl (by decide) v _ _ hs (World.ownsRow.alloc hown _) ⟨wr.heap.size, 0, none⟩ 1 1 [.int k b] hx rfl ?_ ?_ ?_ ?_ ?_ ?_
  · intro j u hj
    match j, hj with
    | 0, hj => simp at hj; subst hj; simp [Addr.add]
  · intro u hu; simp at hu; subst hu; rfl
  · unfold maxLen; omega
  · exact Nat.le_trans (Nat.mul_le_mul_left _ hbt) (by omega)
  · simp; omega
  · intro v' w' h1 h2 h3
    exact h v' w' (by simpa [OwnNums] using h1) (grown_trans (World.grownBy_alloc wr _ _) h2)
/-- Some numbers are appended to a row of numbers that the call owns; they lie in a block of their own, just made. -/
theorem append_nums2 {P : Program} (base : Nat) (wr : World) {ops : Array Oper} {rest : List Oper} {o : Oper} {a : Act} {Q : Exit → Act → World → Prop} (hgd : o.guard = none) (s x : Operand) (t : TypeId)
    (ho : o.op = .call { callee := .builtin .append, args := #[s, x], argTypes := #[t, t] })
    (e : TypeId) (k : IntKind) (bt : Nat) (ht : P.underlying t = some (.slice e)) (hinfo : (P.info? e).map (fun i => (i.zero, i.size, i.bytes)) = some (some (.int k 0), 1, bt)) (hbt : bt ≤ 8)
    (v : Value) (xs bs : List Int) (m : Nat) (cs : Array Value) (hcs : cs.toList = bs.map (Value.int k)) (hm : bs.length = m) (hs : a.eval s = v) (hown : OwnNums wr base e k v xs) (hsz : base ≤ wr.heap.size)
    (hx : a.eval x = .slice (some ⟨wr.heap.size, 0, none⟩) m m) (hlen : xs.length + m ≤ 17592186044414)
    (h : ∀ v' w', OwnNums w' base e k v' (xs ++ bs) → wr.grownBy w' v.ownBlock → wpList P ops Q rest (a.put o.dst v') w') :
    wpList P ops Q (o :: rest) a (wr.alloc (.cells cs e)) := by
  obtain ⟨i0, hi, hz0, hz1, hz2⟩ := info_parts hinfo
  refine wpList_append_own _ hgd s x t ho base e i0 (.int k 0) 1 bt ht hi hz0 hz1 hz2 rfl (by decide) v _ _ hs (World.ownsRow.alloc hown _) ⟨wr.heap.size, 0, none⟩ m m (bs.map (Value.int k)) hx (by simp; omega) ?_ ?_ ?_ ?_ ?_ ?_
  · have := World.news_of_block (heap_alloc_new wr (.cells cs e)); rw [hcs] at this; exact this
  · intro u hu; obtain ⟨y, _, rfl⟩ := List.mem_map.1 hu; rfl
  · unfold maxLen; omega
  · exact Nat.le_trans (Nat.mul_le_mul_left _ hbt) (by omega)
  · simp; omega
  · intro v' w' h1 h2 h3
    exact h v' w' (by subst hm; simpa [OwnNums] using h1) (grown_trans (World.grownBy_alloc wr _ _) h2)
/-- What turned in blocks of the call's own does not count below. -/
theorem grown_own {w wr w' : World} {c base : Nat} {r : Option Nat} (h : w.grownBy wr (some c)) (k : wr.grownBy w' r) (hr : ∀ g, r = some g → base ≤ g) (hb : w.heap.size ≤ base) : w.grownBy w' (some c) :=
  ⟨k.os.trans h.os, k.tape.trans h.tape, k.output.trans h.output, Nat.le_trans h.size k.size, fun j hj hne => (k.block j (Nat.lt_of_lt_of_le hj h.size) (by intro h2; have := hr j h2.symm; omega)).trans (h.block j hj hne)⟩
theorem OwnNums.kept {w w' : World} {base : Nat} {e : TypeId} {k : IntKind} {v : Value} {xs : List Int} {c : Nat} (h : OwnNums w base e k v xs) (hg : w.grownBy w' (some c)) (hc : c < base) : OwnNums w' base e k v xs :=
  World.ownsRow.kept h hg (by
    cases hv : v.ownBlock with
    | none => exact Or.inl rfl
    | some g => right; intro h2; have := (World.ownsRow.lt h g hv).1; have := Option.some.inj h2; omega)
theorem OwnNums.ne {w : World} {base : Nat} {e : TypeId} {k : IntKind} {v : Value} {xs : List Int} {c : Nat} (h : OwnNums w base e k v xs) (hc : c < base) : some c ≠ v.ownBlock := by
  intro h2
  have := (World.ownsRow.lt h c h2.symm).1
  omega
/-- A block of cells, none of them frozen. -/
def Blk (w : World) (b : Nat) (cs : Array Value) (t : TypeId) : Prop := w.heap[b]? = some (.cells cs t (0, 0))
theorem Blk.made (w : World) (cs : Array Value) (t : TypeId) : Blk (w.alloc (.cells cs t)) w.heap.size cs t := heap_alloc_new w _
theorem Blk.past {w : World} {b : Nat} {cs : Array Value} {t : TypeId} (h : Blk w b cs t) (hb : b < w.heap.size) (o : Obj) : Blk (w.alloc o) b cs t := (Below.heap_alloc w o b hb).trans h
theorem Blk.far {w w' : World} {b : Nat} {cs : Array Value} {t : TypeId} {r : Option Nat} (h : Blk w b cs t) (hg : w.grownBy w' r) (hb : b < w.heap.size) (hne : some b ≠ r) : Blk w' b cs t := (hg.block b hb hne).trans h
theorem Blk.cell {w : World} {b : Nat} {cs : Array Value} {t : TypeId} (h : Blk w b cs t) (o : Nat) (v : Value) (hv : cs[o]? = some v) : w.cell? ⟨b, o, none⟩ = some v := by rw [cell_of_row w b o cs t _ h]; exact hv
theorem Blk.free {w : World} {b : Nat} {cs : Array Value} {t : TypeId} (h : Blk w b cs t) (o : Nat) : w.frozen? ⟨b, o, none⟩ = false := by
  have h' : w.heap[b]? = some (.cells cs t (0, 0)) := h
  simp [World.frozen?, h']

theorem Blk.lt {w : World} {b : Nat} {cs : Array Value} {t : TypeId} (h : Blk w b cs t) : b < w.heap.size := by
  rcases Nat.lt_or_ge b w.heap.size with h1 | h1
  · exact h1
  · have h' : w.heap[b]? = some (.cells cs t (0, 0)) := h
    rw [Array.getElem?_eq_none h1] at h'; cases h'
theorem Blk.set {w : World} {b : Nat} {cs : Array Value} {t : TypeId} (h : Blk w b cs t) (o : Nat) (v : Value) : Blk (w.setCell ⟨b, o, none⟩ v) b (cs.setIfInBounds o v) t := by
  have h' : w.heap[b]? = some (.cells cs t (0, 0)) := h
  have hl := h.lt
  have h2 : w.heap[b] = .cells cs t (0, 0) := by rw [Array.getElem?_eq_getElem hl] at h'; exact Option.some.inj h'
  unfold Blk
  simp [World.setCell, hl, Array.getElem_modify, h2]
theorem Blk.drewN {w : World} {b : Nat} {cs : Array Value} {t : TypeId} (h : Blk w b cs t) (n : Nat) : Blk (w.drewN n) b cs t := h
theorem grown_set {w : World} {c : Nat} {u : Value} {o : Nat} : w.grownBy (w.setCell ⟨c, o, none⟩ u) (some c) :=
  ⟨rfl, rfl, rfl, by simp [World.setCell], fun k _ hne => Below.heap_setCell w _ u k (by intro h; exact hne (by rw [h]))⟩
theorem grown_drewN (w : World) (n : Nat) (r : Option Nat) : w.grownBy (w.drewN n) r := ⟨rfl, rfl, rfl, Nat.le_refl _, fun _ _ _ => rfl⟩
theorem below_grown {w w' : World} (h : Below w.heap.size w w') (r : Option Nat) : w.grownBy w' r := ⟨h.os, h.tape, h.output, h.size, fun k hk _ => h.block k hk⟩

/-- What a walk is told of a slice of integers that came in: nil; or it leads to a row of 'cap' cells. -/
def IsRow (k : IntKind) (w : World) (a : Option Addr) (len cap : Nat) (zs : List Int) : Prop :=
  (a = none ∧ len = 0 ∧ cap = 0 ∧ zs = []) ∨
  ∃ x, a = some x ∧ len ≤ cap ∧ cap ≤ maxLen ∧ zs.length = cap ∧ (∀ i, i < zs.length → w.cell? (x.add i) = some (.int k (zs.getD i 0))) ∧ ∀ n ∈ zs, (Lit.int k n).wf = true
theorem IsRow.le {k : IntKind} {w : World} {a : Option Addr} {len cap : Nat} {zs : List Int} (h : IsRow k w a len cap zs) : len ≤ cap ∧ cap ≤ maxLen := by
  rcases h with ⟨_, rfl, rfl, _⟩ | ⟨x, _, h1, h2, _⟩
  · exact ⟨Nat.le_refl _, by decide⟩
  · exact ⟨h1, h2⟩
theorem arr2 {α : Type} {cs : Array α} (h : cs.size = 2) : ∃ a b, cs = #[a, b] := by
  rcases cs with ⟨l⟩; match l, h with | [a, b], _ => exact ⟨a, b, rfl⟩
theorem arr3 {α : Type} {cs : Array α} (h : cs.size = 3) : ∃ a b c, cs = #[a, b, c] := by
  rcases cs with ⟨l⟩; match l, h with | [a, b, c], _ => exact ⟨a, b, c, rfl⟩
theorem arr4 {α : Type} {cs : Array α} (h : cs.size = 4) : ∃ a b c d, cs = #[a, b, c, d] := by
  rcases cs with ⟨l⟩; match l, h with | [a, b, c, d], _ => exact ⟨a, b, c, d, rfl⟩
end Go.Proofs.YtngkiokibldfjaaGreatDoor
