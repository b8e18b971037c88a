import Derived.Test.YtgoplcjjoiiagaaGreatDoorS2
import Derived.Test.YtgoplcjjoiiagaaGreatDoorSum
import Derived.Lib.Join
namespace Go.Proofs.YtgoplcjjoiiagaaGreatDoor
open Go.RowKit
/-! The one form of a request: pairs sorted by name, headers looked up. -/
def hAt (L : List Hp) (i : Nat) : Hp := L.getD i hp0
theorem hAt_mem {L : List Hp} {i : Nat} (h : i < L.length) : hAt L i ∈ L := by
  unfold hAt
  rw [List.getD_eq_getElem?_getD, List.getElem?_eq_getElem h]
  exact List.getElem_mem h
/-! Pairs that a call owns. -/
def hpL (L : List Hp) : List Value := L.flatMap fun p => [.string p.nm, .string p.vl]
theorem hpL_len (L : List Hp) : (hpL L).length = L.length * 2 := by
  induction L with
  | nil => rfl
  | cons p r ih => unfold hpL at ih ⊢; simp at ih ⊢; omega
theorem hpL_app (L M : List Hp) : hpL (L ++ M) = hpL L ++ hpL M := by simp [hpL]
theorem hpL_at : ∀ (L : List Hp) (i : Nat), i < L.length → (hpL L)[i * 2]? = some (.string (hAt L i).nm) ∧ (hpL L)[i * 2 + 1]? = some (.string (hAt L i).vl)
  | [], i, h => absurd h (by simp)
  | p :: r, 0, _ => ⟨rfl, rfl⟩
  | p :: r, i + 1, h => by
    have ih := hpL_at r i (by simpa using h)
    have e : hpL (p :: r) = .string p.nm :: .string p.vl :: hpL r := rfl
    rw [e, show (i + 1) * 2 = i * 2 + 1 + 1 by omega]
    exact ih
def OwnHp (w : World) (base : Nat) (v : Value) (L : List Hp) : Prop := w.ownsRow base 54 2 v L.length (hpL L)
theorem OwnHp.empty (w : World) : OwnHp (w.alloc (.cells #[] 54)) w.heap.size (.slice (some ⟨w.heap.size, 0, none⟩) 0 0) [] :=
  World.ownsRow_made w #[] 0 (Nat.le_refl _) (by decide) rfl
theorem OwnHp.next {X w : World} {base : Nat} {v : Value} {L : List Hp} (hb : Below X.heap.size X w) (h : OwnHp X base v L) : OwnHp w base v L :=
  World.ownsRow.kept h (below_grown hb none) (Classical.em _)
theorem OwnHp.mono {w : World} {base base' : Nat} {v : Value} {L : List Hp} (h : OwnHp w base v L) (hb : base' ≤ base) : OwnHp w base' v L := by
  obtain ⟨h1, h2⟩ := h
  refine ⟨h1, ?_⟩
  rcases h2 with h2 | ⟨g, cap, cur, e1, e2, e3⟩
  · exact .inl h2
  · exact .inr ⟨g, cap, cur, e1, by omega, e3⟩
/-- where they lie -/
theorem OwnHp.shape {w : World} {base : Nat} {v : Value} {L : List Hp} (h : OwnHp w base v L) (h0 : 0 < L.length) : ∃ g cap, v = .slice (some ⟨g, 0, none⟩) L.length cap ∧ base ≤ g ∧ g < w.heap.size ∧ L.length ≤ cap ∧ ∀ i, i < L.length → w.cell? ⟨g, i * 2, none⟩ = some (.string (hAt L i).nm) ∧ w.cell? ⟨g, i * 2 + 1, none⟩ = some (.string (hAt L i).vl) := by
  rcases h.2 with ⟨_, h1⟩ | ⟨g, cap, cur, he, hb, hr, hnc, hm, hsz, htk⟩
  · omega
  · have R : RowAt w g 54 cur := hr
    refine ⟨g, cap, he, hb, R.lt, hnc, fun i hi => ?_⟩
    obtain ⟨q0, q1⟩ := hpL_at L i hi
    have key : ∀ p, p < L.length * 2 → cur[p]? = (hpL L)[p]? := fun p hp => by
      rw [← htk, List.getElem?_take, if_pos hp, Array.getElem?_toList]
    rw [R.cell, R.cell, key _ (by omega), key _ (by omega)]
    exact ⟨q0, q1⟩
abbrev hz2 : Value := .agg #[.string ⟨#[]⟩, .string ⟨#[]⟩]
theorem append_hps {P : Program} (base : Nat) (wr : World) {ops : Array Oper} {rest : List Oper} {op : Oper} {a : Act} {Q : Exit → Act → World → Prop} (hgd : op.guard = none) (s x : Operand) (t : TypeId)
    (ho : op.op = .call { callee := .builtin .append, args := #[s, x], argTypes := #[t, t] })
    (ht : P.underlying t = some (.slice 54)) (hinfo : (P.info? 54).map (fun i => (i.zero, i.size, i.bytes)) = some (some hz2, 2, 32))
    (v : Value) (L : List Hp) (hs : a.eval s = v) (hown : OwnHp wr base v L) (hsz : base ≤ wr.heap.size)
    (b off m c : Nat) (M : List Hp) (hx : a.eval x = .slice (some ⟨b, off, none⟩) m c) (hm : M.length = m)
    (hc : ∀ k, k < m → wr.cell? ⟨b, off + k * 2, none⟩ = some (.string (hAt M k).nm) ∧ wr.cell? ⟨b, off + k * 2 + 1, none⟩ = some (.string (hAt M k).vl)) (hlen : L.length + m ≤ 1048576)
    (h : ∀ v' w', OwnHp w' base v' (L ++ M) → wr.grownBy w' v.ownBlock → wpList P ops Q rest (a.put op.dst v') w') :
    wpList P ops Q (op :: rest) a wr := by
  subst hm
  obtain ⟨i0, hi, hz0, hz1, hz2⟩ := info_parts hinfo
  refine wpList_append_own _ hgd s x t ho base 54 i0 _ 2 32 ht hi hz0 hz1 hz2 rfl (by decide) v L.length _ hs hown ⟨b, off, none⟩ M.length c (hpL M) hx (hpL_len M) ?_ ?_ ?_ ?_ hsz ?_
  · intro j u hj
    have hadd : (⟨b, off, none⟩ : Addr).add j = ⟨b, off + j, none⟩ := by unfold Addr.add; split <;> simp_all
    rw [hadd]
    have hl : j < M.length * 2 := by rw [← hpL_len]; exact (List.getElem?_eq_some_iff.1 hj).1
    rcases Nat.mod_two_eq_zero_or_one j with e | e
    · obtain ⟨k, rfl⟩ : ∃ k, j = k * 2 := ⟨j / 2, by omega⟩
      rw [(hpL_at M k (by omega)).1] at hj
      rw [(hc k (by omega)).1]; exact hj
    · obtain ⟨k, rfl⟩ : ∃ k, j = k * 2 + 1 := ⟨j / 2, by omega⟩
      rw [(hpL_at M k (by omega)).2] at hj
      rw [← Nat.add_assoc, (hc k (by omega)).2]; exact hj
  · intro u hu
    unfold hpL at hu
    obtain ⟨p, _, hp⟩ := List.mem_flatMap.1 hu
    simp at hp
    rcases hp with rfl | rfl <;> rfl
  · unfold maxLen; omega
  · omega
  · intro v' w' h1 h2 _
    exact h v' w' (by unfold OwnHp; rw [hpL_app, List.length_append]; exact h1) h2
end Go.Proofs.YtgoplcjjoiiagaaGreatDoor
