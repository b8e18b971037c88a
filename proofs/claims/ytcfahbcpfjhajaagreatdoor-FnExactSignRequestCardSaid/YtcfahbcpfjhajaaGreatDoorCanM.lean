import Derived.Test.YtcfahbcpfjhajaaGreatDoorS2
import Derived.Test.YtcfahbcpfjhajaaGreatDoorSum
import Derived.Lib.Join
namespace Go.Proofs.YtcfahbcpfjhajaaGreatDoor
open Go.RowKit
/-! The one form of a request: pairs sorted by name, headers looked up. -/
def nLt (a b : ByteArray) : Bool := Op.bytesLess a.toList b.toList
/-- the first one with the least name among the first k -/
def bstTo (o : Nat → Hp) : Nat → Nat
  | 0 => 0
  | k + 1 => if k = 0 then 0 else if nLt (o k).nm (o (bstTo o k)).nm then k else bstTo o k
theorem bstTo_lt (o : Nat → Hp) : ∀ k, 0 < k → bstTo o k < k
  | 0, h => absurd h (by omega)
  | k + 1, _ => by
    unfold bstTo
    by_cases e : k = 0
    · rw [if_pos e]; omega
    · rw [if_neg e]
      have := bstTo_lt o k (by omega)
      split <;> omega
def hAt (L : List Hp) (i : Nat) : Hp := L.getD i hp0
def lessOne (L : List Hp) (b : Nat) : List Hp := L.take b ++ L.drop (b + 1)
theorem lessOne_len (L : List Hp) (b : Nat) (h : b < L.length) : (lessOne L b).length = L.length - 1 := by
  unfold lessOne; simp; omega
def selL : Nat → List Hp → List Hp
  | 0, _ => []
  | f + 1, L => hAt L (bstTo (hAt L) L.length) :: selL f (lessOne L (bstTo (hAt L) L.length))
theorem mem_lessOne {L : List Hp} {b : Nat} {p : Hp} (h : p ∈ lessOne L b) : p ∈ L := by
  unfold lessOne at h
  rcases List.mem_append.1 h with h | h
  · exact List.mem_of_mem_take h
  · exact List.mem_of_mem_drop h
theorem hAt_mem {L : List Hp} {i : Nat} (h : i < L.length) : hAt L i ∈ L := by
  unfold hAt
  rw [List.getD_eq_getElem?_getD, List.getElem?_eq_getElem h]
  exact List.getElem_mem h
def canQ (L : List Hp) : List UInt8 := Lib.join (L.map prL) [38]
theorem join_snocC (sep x : List UInt8) : ∀ xs : List (List UInt8), xs ≠ [] → Lib.join (xs ++ [x]) sep = Lib.join xs sep ++ sep ++ x
  | [], h => absurd rfl h
  | y :: r, _ => by
    rw [List.cons_append, Lib.join_cons, Lib.join_cons]
    unfold Lib.joinTail
    rw [List.map_append, List.flatten_append]
    simp
theorem canQ_one (p : Hp) : canQ [p] = prL p := Lib.join_one _ _
theorem canQ_snoc (L : List Hp) (p : Hp) (h : L ≠ []) : canQ (L ++ [p]) = canQ L ++ [38] ++ prL p := by
  unfold canQ
  rw [List.map_append]
  exact join_snocC _ _ _ (by simpa using h)
/-- the first header of a name among the first k -/
def fndTo (o : Nat → Hp) (x : ByteArray) : Nat → Option Nat
  | 0 => none
  | k + 1 => match fndTo o x k with
    | some i => some i
    | none => if (o k).nm = x then some k else none
theorem fndTo_some {o : Nat → Hp} {x : ByteArray} : ∀ {k i : Nat}, fndTo o x k = some i → i < k ∧ (o i).nm = x
  | 0, i, h => by cases h
  | k + 1, i, h => by
    unfold fndTo at h
    cases e : fndTo o x k with
    | some j => rw [e] at h; cases h; have := fndTo_some e; exact ⟨by omega, this.2⟩
    | none =>
      rw [e] at h
      dsimp only at h
      split at h
      · cases h; exact ⟨by omega, by assumption⟩
      · cases h
theorem fndTo_none {o : Nat → Hp} {x : ByteArray} : ∀ {k : Nat}, fndTo o x k = none ↔ ∀ i, i < k → (o i).nm ≠ x
  | 0 => ⟨fun _ i hi => absurd hi (by omega), fun _ => rfl⟩
  | k + 1 => by
    have ih := fndTo_none (o := o) (x := x) (k := k)
    unfold fndTo
    cases e : fndTo o x k with
    | some j =>
      have hs := fndTo_some e
      constructor
      · intro h; cases h
      · intro h; exact absurd hs.2 (h j (by omega))
    | none =>
      dsimp only
      have h1 := ih.1 e
      constructor
      · intro h i hi
        split at h
        · cases h
        · rename_i hne
          by_cases q : i = k
          · rw [q]; exact hne
          · exact h1 i (by omega)
      · intro h
        rw [if_neg (h k (by omega))]
theorem fndTo_first {o : Nat → Hp} {x : ByteArray} {k n : Nat} (hk : k < n) (h0 : ∀ i, i < k → (o i).nm ≠ x) (h1 : (o k).nm = x) : fndTo o x n = some k := by
  induction n with
  | zero => omega
  | succ n ih =>
    unfold fndTo
    by_cases e : k = n
    · subst e
      rw [fndTo_none.2 h0]
      simp [h1]
    · rw [ih (by omega)]
def fndV (o : Nat → Hp) (x : ByteArray) (n : Nat) : Int := match fndTo o x n with
  | some i => (i : Int)
  | none => -1
def hvL (o : Nat → Hp) (n : Nat) (x : ByteArray) : ByteArray := match fndTo o x n with
  | some i => (o i).vl
  | none => ⟨#[]⟩
def sgL (o : Nat → Hp) (n : Nat) (ts : Nat → ByteArray) : Nat → List UInt8
  | 0 => []
  | k + 1 => sgL o n ts k ++ (ts k).data.toList ++ [58] ++ (hvL o n (ts k)).data.toList ++ [10]
def hpList (o : Nat → Hp) (n : Nat) : List Hp := (List.range n).map o
theorem hpList_len (o : Nat → Hp) (n : Nat) : (hpList o n).length = n := by simp [hpList]
theorem hAt_list (o : Nat → Hp) (n i : Nat) (h : i < n) : hAt (hpList o n) i = o i := by
  unfold hAt hpList
  rw [List.getD_eq_getElem?_getD, List.getElem?_map, List.getElem?_range h]
  rfl
def canL (r : Rq) (ts : Nat → ByteArray) (m : Nat) : List UInt8 :=
  r.mt.data.toList ++ [10] ++ escV r.pt ++ [10] ++ canQ (selL r.qs.n (hpList r.qs.o r.qs.n)) ++ [10] ++ sgL r.hs.o r.hs.n ts m ++ Lib.decDigits (sumOf r.bd 3).toNat
/-! Pairs that a call owns. -/
def hpL (L : List Hp) : List Value := L.flatMap fun p => [.string p.nm, .string p.vl]
theorem hpL_len (L : List Hp) : (hpL L).length = L.length * 2 := by
  induction L with
  | nil => rfl
  | cons p r ih => unfold hpL at ih ⊢; simp at ih ⊢; omega
theorem hpL_app (L M : List Hp) : hpL (L ++ M) = hpL L ++ hpL M := by simp [hpL]
theorem hpL_at : ∀ (L : List Hp) (i : Nat), i < L.length → (hpL L)[i * 2]? = some (.string (hAt L i).nm) ∧ (hpL L)[i * 2 + 1]? = some (.string (hAt L i).vl)
  | [], i, h => absurd h (by simp)
  | p :: r, 0, _ => ⟨rfl, rfl⟩
  | p :: r, i + 1, h => by
    have ih := hpL_at r i (by simpa using h)
    have e : hpL (p :: r) = .string p.nm :: .string p.vl :: hpL r := rfl
    rw [e, show (i + 1) * 2 = i * 2 + 1 + 1 by omega]
    exact ih
def OwnHp (w : World) (base : Nat) (v : Value) (L : List Hp) : Prop := w.ownsRow base 66 2 v L.length (hpL L)
theorem OwnHp.empty (w : World) : OwnHp (w.alloc (.cells #[] 66)) w.heap.size (.slice (some ⟨w.heap.size, 0, none⟩) 0 0) [] :=
  World.ownsRow_made w #[] 0 (Nat.le_refl _) (by decide) rfl
theorem OwnHp.next {X w : World} {base : Nat} {v : Value} {L : List Hp} (hb : Below X.heap.size X w) (h : OwnHp X base v L) : OwnHp w base v L :=
  World.ownsRow.kept h (below_grown hb none) (Classical.em _)
theorem OwnHp.mono {w : World} {base base' : Nat} {v : Value} {L : List Hp} (h : OwnHp w base v L) (hb : base' ≤ base) : OwnHp w base' v L := by
  obtain ⟨h1, h2⟩ := h
  refine ⟨h1, ?_⟩
  rcases h2 with h2 | ⟨g, cap, cur, e1, e2, e3⟩
  · exact .inl h2
  · exact .inr ⟨g, cap, cur, e1, by omega, e3⟩
/-- where they lie -/
theorem OwnHp.shape {w : World} {base : Nat} {v : Value} {L : List Hp} (h : OwnHp w base v L) (h0 : 0 < L.length) : ∃ g cap, v = .slice (some ⟨g, 0, none⟩) L.length cap ∧ base ≤ g ∧ g < w.heap.size ∧ L.length ≤ cap ∧ ∀ i, i < L.length → w.cell? ⟨g, i * 2, none⟩ = some (.string (hAt L i).nm) ∧ w.cell? ⟨g, i * 2 + 1, none⟩ = some (.string (hAt L i).vl) := by
  rcases h.2 with ⟨_, h1⟩ | ⟨g, cap, cur, he, hb, hr, hnc, hm, hsz, htk⟩
  · omega
  · have R : RowAt w g 66 cur := hr
    refine ⟨g, cap, he, hb, R.lt, hnc, fun i hi => ?_⟩
    obtain ⟨q0, q1⟩ := hpL_at L i hi
    have key : ∀ p, p < L.length * 2 → cur[p]? = (hpL L)[p]? := fun p hp => by
      rw [← htk, List.getElem?_take, if_pos hp, Array.getElem?_toList]
    rw [R.cell, R.cell, key _ (by omega), key _ (by omega)]
    exact ⟨q0, q1⟩
abbrev hz2 : Value := .agg #[.string ⟨#[]⟩, .string ⟨#[]⟩]
theorem append_hps {P : Program} (base : Nat) (wr : World) {ops : Array Oper} {rest : List Oper} {op : Oper} {a : Act} {Q : Exit → Act → World → Prop} (hgd : op.guard = none) (s x : Operand) (t : TypeId)
    (ho : op.op = .call { callee := .builtin .append, args := #[s, x], argTypes := #[t, t] })
    (ht : P.underlying t = some (.slice 66)) (hinfo : (P.info? 66).map (fun i => (i.zero, i.size, i.bytes)) = some (some hz2, 2, 32))
    (v : Value) (L : List Hp) (hs : a.eval s = v) (hown : OwnHp wr base v L) (hsz : base ≤ wr.heap.size)
    (b off m c : Nat) (M : List Hp) (hx : a.eval x = .slice (some ⟨b, off, none⟩) m c) (hm : M.length = m)
    (hc : ∀ k, k < m → wr.cell? ⟨b, off + k * 2, none⟩ = some (.string (hAt M k).nm) ∧ wr.cell? ⟨b, off + k * 2 + 1, none⟩ = some (.string (hAt M k).vl)) (hlen : L.length + m ≤ 1048576)
    (h : ∀ v' w', OwnHp w' base v' (L ++ M) → wr.grownBy w' v.ownBlock → wpList P ops Q rest (a.put op.dst v') w') :
    wpList P ops Q (op :: rest) a wr := by
  subst hm
  obtain ⟨i0, hi, hz0, hz1, hz2⟩ := info_parts hinfo
  refine wpList_append_own _ hgd s x t ho base 66 i0 _ 2 32 ht hi hz0 hz1 hz2 rfl (by decide) v L.length _ hs hown ⟨b, off, none⟩ M.length c (hpL M) hx (hpL_len M) ?_ ?_ ?_ ?_ hsz ?_
  · intro j u hj
    have hadd : (⟨b, off, none⟩ : Addr).add j = ⟨b, off + j, none⟩ := by unfold Addr.add; split <;> simp_all
    rw [hadd]
    have hl : j < M.length * 2 := by rw [← hpL_len]; exact (List.getElem?_eq_some_iff.1 hj).1
    rcases Nat.mod_two_eq_zero_or_one j with e | e
    · obtain ⟨k, rfl⟩ : ∃ k, j = k * 2 := ⟨j / 2, by omega⟩
      rw [(hpL_at M k (by omega)).1] at hj
      rw [(hc k (by omega)).1]; exact hj
    · obtain ⟨k, rfl⟩ : ∃ k, j = k * 2 + 1 := ⟨j / 2, by omega⟩
      rw [(hpL_at M k (by omega)).2] at hj
      rw [← Nat.add_assoc, (hc k (by omega)).2]; exact hj
  · intro u hu
    unfold hpL at hu
    obtain ⟨p, _, hp⟩ := List.mem_flatMap.1 hu
    simp at hp
    rcases hp with rfl | rfl <;> rfl
  · unfold maxLen; omega
  · omega
  · intro v' w' h1 h2 _
    exact h v' w' (by unfold OwnHp; rw [hpL_app, List.length_append]; exact h1) h2
end Go.Proofs.YtcfahbcpfjhajaaGreatDoor
