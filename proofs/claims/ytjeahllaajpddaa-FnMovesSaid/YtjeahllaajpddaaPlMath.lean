import Derived.Test.YtjeahllaajpddaaSNodes
import Derived.Test.YtjeahllaajpddaaAppF
namespace Go.Proofs.Ytjeahllaajpddaa
open Go.RowKit
/-! Which disks a key gets. -/
/-- disk i may be taken when those of l are -/
def okP (x sc : Nat → Int) (l : List Nat) (i : Nat) : Prop := i ∉ l ∧ 0 ≤ sc i ∧ x i ∉ l.map x
instance (x sc : Nat → Int) (l : List Nat) (i : Nat) : Decidable (okP x sc l i) := inferInstanceAs (Decidable (_ ∧ _ ∧ _))
/-- the best of those ahead of k; -1: none -/
def pk (x sc : Nat → Int) (l : List Nat) : Nat → Int
  | 0 => -1
  | k + 1 => if okP x sc l k ∧ (pk x sc l k < 0 ∨ sc (pk x sc l k).toNat < sc k) then (k : Int) else pk x sc l k
theorem pk_bd (x sc : Nat → Int) (l : List Nat) : ∀ k, -1 ≤ pk x sc l k ∧ pk x sc l k < k
  | 0 => by simp [pk]
  | k + 1 => by
    have := pk_bd x sc l k
    unfold pk
    split <;> omega
/-- m disks, if there are so many -/
def gr (x sc : Nat → Int) (n : Nat) : Nat → Option (List Nat)
  | 0 => some []
  | m + 1 => match gr x sc n m with
    | none => none
    | some l => if pk x sc l n < 0 then none else some (l ++ [(pk x sc l n).toNat])
theorem gr_len (x sc : Nat → Int) (n : Nat) : ∀ m l, gr x sc n m = some l → l.length = m
  | 0, l, h => by cases h; rfl
  | m + 1, l, h => by
    unfold gr at h
    cases hg : gr x sc n m with
    | none => rw [hg] at h; cases h
    | some l' =>
      rw [hg] at h
      dsimp only at h
      split at h
      · cases h
      · cases h; rw [List.length_append, gr_len x sc n m l' hg]; rfl
theorem gr_none (x sc : Nat → Int) (n m : Nat) : ∀ k, gr x sc n m = none → gr x sc n (m + k) = none
  | 0, h => h
  | k + 1, h => by
    show gr x sc n (m + k + 1) = none
    unfold gr
    rw [gr_none x sc n m k h]
/-- what PlaceKey answers: its code -/
def plC (key : ByteArray) (n : Nat) (x y : Nat → Int) (k : Int) : Int :=
  if NdOk n x y ∧ 1 ≤ k ∧ k ≤ 64 ∧ key.size ≤ 1000 then (if (gr x (fun i => scoreV key n x y (i : Int)) n k.toNat).isSome then 0 else 7) else 1
/-- its disks -/
def plL (key : ByteArray) (n : Nat) (x y : Nat → Int) (k : Int) : List Int :=
  if NdOk n x y ∧ 1 ≤ k ∧ k ≤ 64 ∧ key.size ≤ 1000 then ((gr x (fun i => scoreV key n x y (i : Int)) n k.toNat).getD []).map (fun i => ((i : Nat) : Int)) else []
theorem OwnNums.grown {w w' : World} {base : Nat} {e : TypeId} {k : IntKind} {v : Value} {xs : List Int} (h : OwnNums w base e k v xs) {r : Option Nat} (hg : w.grownBy w' r) (hne : v.ownBlock = none ∨ v.ownBlock ≠ r) : OwnNums w' base e k v xs := World.ownsRow.kept h hg hne
theorem append_fr {P : Program} (base : Nat) (wr : World) {ops : Array Oper} {rest : List Oper} {o : Oper} {a : Act} {Q : Exit → Act → World → Prop} (hgd : o.guard = none) (s x : Operand) (t : TypeId)
    (ho : o.op = .call { callee := .builtin .append, args := #[s, x], argTypes := #[t, t] })
    (e : TypeId) (k : IntKind) (bt : Nat) (ht : P.underlying t = some (.slice e)) (hinfo : (P.info? e).map (fun i => (i.zero, i.size, i.bytes)) = some (some (.int k 0), 1, bt)) (hbt : bt ≤ 8)
    (v : Value) (xs : List Int) (b : Int) (hs : a.eval s = v) (hown : OwnNums wr base e k v xs) (hsz : base ≤ wr.heap.size)
    (hx : a.eval x = .slice (some ⟨wr.heap.size, 0, none⟩) 1 1) (hlen : xs.length ≤ 1048576)
    (h : ∀ v' w', OwnNums w' base e k v' (xs ++ [b]) → wr.grownBy w' v.ownBlock → (v'.ownBlock = v.ownBlock ∨ ∀ q, v'.ownBlock = some q → wr.heap.size ≤ q) → wpList P ops Q rest (a.put o.dst v') w') :
    wpList P ops Q (o :: rest) a (wr.alloc (.cells #[.int k b] e)) := by
  obtain ⟨i0, hi, hz0, hz1, hz2⟩ := info_parts hinfo
  obtain ⟨v', w', hrun, r1, r2, r3⟩ := run_append_fresh (P := P) (wr.alloc (.cells #[.int k b] e)) base t o.type e i0 (.int k 0) 1 bt ht hi hz0 hz1 hz2 rfl (by decide) v xs.length (xs.map (Value.int k)) (World.ownsRow.alloc hown _) ⟨wr.heap.size, 0, none⟩ 1 1 [.int k b] rfl
    (fun j u hj => by match j, hj with | 0, hj => simp at hj; subst hj; exact (RowAt.new wr e #[.int k b]).cell 0) (fun u hu => by simp at hu; subst hu; rfl) (by unfold maxLen; omega) (Nat.le_trans (Nat.mul_le_mul_left _ hbt) (by omega)) (by rw [World.size_alloc]; omega)
  refine wpList_plain hgd fun K hK => ?_
  unfold Oper.wp execOp
  simp only [ho, resolve, invoke, builtin, Sem.run_bind, Sem.run_pure, Result.andThen_ok, List.map_toArray, List.map_cons, List.map_nil, hs, hx, hrun]
  refine hK _ _ (h v' w' (by unfold OwnNums; rw [List.length_append, List.map_append]; exact r1) (grown_trans (World.grownBy_alloc wr _ _) r2) ?_)
  rcases r3 with q | q
  · exact Or.inl q
  · exact Or.inr fun b hb => by have := q b hb; rw [World.size_alloc] at this; omega
set_option maxRecDepth 20000 in
set_option maxHeartbeats 1000000 in
theorem sIn (b cap : Nat) (xs : List Int) (v : Int) (hl : xs.length ≤ 1048576) (base : Nat) (w : World) (h : OwnNums w base 2 .i64 (.slice (some ⟨b, 0, none⟩) xs.length cap) xs) :
    Calls Try.prog 40 #[.slice (some ⟨b, 0, none⟩) xs.length cap, .int .i64 v] w fun e w' => e = .returned (.bool (decide (v ∈ xs))) ∧ w' = w := by
  have HC : Hid (∀ i, i < xs.length → w.cell? ⟨b, i, none⟩ = some (.int .i64 (xs.getD i 0))) := fun i hi => by
    have := World.ownsRow.cells h (g := b) rfl i (.int .i64 (xs.getD i 0)) (by rw [List.getElem?_map, List.getElem?_eq_getElem hi]; simp [hi])
    rw [Addr.add_lit, Nat.zero_add] at this
    exact this
  clear h
  obtain ⟨n, hn⟩ : ∃ n, n = xs.length := ⟨_, rfl⟩
  rw [← hn] at HC hl ⊢
  have HN := hid hn
  clear hn
  go_enter Try.func40, Try.ntmps40
  go_wp2_with fail
  go_loopw [5] (fun q wr => ∃ k : Nat, k ≤ n ∧ q = .int .i64 k ∧ (∀ i, i < k → xs.getD i 0 ≠ v) ∧ wr = w) (fun q _ => n - (intOf q).toNat)
  case atStart => exact ⟨0, Nat.zero_le _, rfl, fun i hi => absurd hi (by omega), rfl⟩
  case round =>
    obtain ⟨k, hk, rfl, hno, rfl⟩ := hrel
    have HNO := hid hno
    clear hno
    by_cases hlt : k < n
    · have hlt' : (k : Int) < (n : Int) := by omega
      have k0 : (0 : Int) ≤ (k : Int) := by omega
      have c0 := HC.out k hlt
      obtain ⟨X, hX⟩ : ∃ X, X = xs.getD k 0 := ⟨_, rfl⟩
      rw [← hX] at c0
      have HX := hid hX
      clear hX
      by_cases e : X = v
      · have E : Hid (decide (v ∈ xs) = true) := by
          show _ = _
          simp only [decide_eq_true_eq]
          rw [← e, HX.out, List.getD_eq_getElem?_getD, List.getElem?_eq_getElem (by rw [← HN.out]; exact hlt)]
          exact List.getElem_mem _
        have d0 : (X == v) = true := by simp [e]
        go_wp2
        go_ret
        exact ⟨by rw [E.out]; rfl, rfl⟩
      · have d0 : (X == v) = false := by simp [e]
        have N1 : Hid (∀ i, i < k + 1 → xs.getD i 0 ≠ v) := fun i hi => by
          by_cases q : i = k
          · rw [q, ← HX.out]; exact e
          · exact HNO.out i (by omega)
        go_wp2
        go_roundw
        case rel => exact ⟨k + 1, by omega, by go_num, N1.out, trivial⟩
        case measure => simp [intOf]; omega
    · have hlt' : ¬ (k : Int) < (n : Int) := by omega
      have E : Hid (decide (v ∈ xs) = false) := by
        show _ = _
        simp only [decide_eq_false_iff_not]
        intro hm
        obtain ⟨i, hi, he⟩ := List.getElem_of_mem hm
        exact HNO.out i (by have := HN.out; omega) (by rw [List.getD_eq_getElem?_getD, List.getElem?_eq_getElem hi]; exact he)
      go_wp2
      go_ret
      exact ⟨by rw [E.out]; rfl, rfl⟩
end Go.Proofs.Ytjeahllaajpddaa
