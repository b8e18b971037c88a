import Derived.Test.YtmhkelfmciepaaaGrS
import Derived.Laws.AppendOwnNone
namespace Go.Proofs.Ytmhkelfmciepaaa
open Go.RowKit
set_option linter.unusedVariables false
/-! Logs that a call owns. -/
def geL (L : List Ge) : List Value := L.flatMap fun e => [.int .i64 e.tm, .string e.tx]
theorem geL_len (L : List Ge) : (geL L).length = L.length * 2 := by
  induction L with
  | nil => rfl
  | cons f L ih => simp only [geL, List.flatMap_cons, List.length_append, List.length_cons] at ih ⊢; rw [ih]; simp; omega
theorem geL_app (A B : List Ge) : geL (A ++ B) = geL A ++ geL B := by simp [geL]
theorem geL_at : ∀ (L : List Ge) (k : Nat), k < L.length → (geL L)[k * 2]? = some (.int .i64 (geAt L k).tm) ∧ (geL L)[k * 2 + 1]? = some (.string (geAt L k).tx)
  | [], k, h => by simp at h
  | e :: L, 0, h => ⟨rfl, rfl⟩
  | e :: L, k + 1, h => by
    have q := geL_at L k (by simpa using h)
    have e1 : geL (e :: L) = .int .i64 e.tm :: .string e.tx :: geL L := rfl
    rw [e1, show (k + 1) * 2 = k * 2 + 1 + 1 by omega, List.getElem?_cons_succ, List.getElem?_cons_succ, List.getElem?_cons_succ, List.getElem?_cons_succ]
    exact q
theorem geL_one (L : List Ge) : ∀ u ∈ geL L, u.oneCell' = true := by
  intro u hu
  obtain ⟨e, _, hu⟩ := List.mem_flatMap.1 hu
  simp at hu
  rcases hu with rfl | rfl <;> rfl
def OwnGe (w : World) (base : Nat) (v : Value) (L : List Ge) : Prop := w.ownsRow base 46 2 v L.length (geL L)
theorem OwnGe.logR {w : World} {base : Nat} {v : Value} {L : List Ge} (h : OwnGe w base v L) : ∃ a c, v = .slice a L.length c ∧ LogR w a c L := by
  rcases h.2 with ⟨h0, h1⟩ | ⟨g, cap, cur, he, hb, hr, hnc, hm, hsz, htk⟩
  · exact ⟨none, 0, by rw [h0, h1], by omega, .inl ⟨h1, fun _ => rfl⟩⟩
  · have R : RowAt w g 46 cur := hr
    refine ⟨_, cap, he, hnc, .inr ⟨g, cur, rfl, R, fun k hk => ?_⟩⟩
    have hl := geL_len L
    have q := geL_at L k hk
    have e1 : ∀ p, p < L.length * 2 → cur[p]? = (geL L)[p]? := fun p hp => by
      have := congrArg (·[p]?) htk
      simp only [List.getElem?_take] at this
      rw [if_pos hp, Array.getElem?_toList] at this
      exact this
    rw [e1 _ (by omega), e1 _ (by omega)]
    exact q
theorem OwnGe.empty (w : World) : OwnGe (w.alloc (.cells #[] 46)) w.heap.size (.slice (some ⟨w.heap.size, 0, none⟩) 0 0) [] :=
  World.ownsRow_made w #[] 0 (Nat.le_refl _) (by decide) rfl
theorem Try.infoGe2 : (Try.prog.info? 46).map (fun i => (i.zero, i.size, i.bytes)) = some (some (.agg #[.int .i64 0, .string ⟨#[]⟩]), 2, 24) := by kernel_rfl
/-- one entry, in a box just made, is appended -/
theorem append_ge {ops : Array Oper} {rest : List Oper} {o : Oper} {a : Act} {Q : Exit → Act → World → Prop} (base : Nat) (wr : World) (hgd : o.guard = none) (s x : Operand)
    (ho : o.op = .call { callee := .builtin .append, args := #[s, x], argTypes := #[26, 26] })
    (v : Value) (L : List Ge) (e : Ge) (hs : a.eval s = v) (hown : OwnGe wr base v L) (hsz : base ≤ wr.heap.size)
    (hx : a.eval x = .slice (some ⟨wr.heap.size, 0, none⟩) 1 1) (hlen : L.length ≤ 1048576)
    (h : ∀ v' w', OwnGe w' base v' (L ++ [e]) → wr.grownBy w' v.ownBlock → wpList Try.prog ops Q rest (a.put o.dst v') w') :
    wpList Try.prog ops Q (o :: rest) a (wr.alloc (.cells #[.int .i64 e.tm, .string e.tx] 46)) := by
  obtain ⟨i0, hi, hz0, hz1, hz2⟩ := info_parts Try.infoGe2
  refine wpList_append_own _ hgd s x 26 ho base 46 i0 _ 2 24 Try.underlying26 hi hz0 hz1 hz2 rfl (by decide) v L.length _ hs (World.ownsRow.alloc hown _) ⟨wr.heap.size, 0, none⟩ 1 1 [.int .i64 e.tm, .string e.tx] hx rfl ?_ ?_ ?_ ?_ ?_ ?_
  · intro j u hj
    have R := RowAt.new wr 46 #[.int .i64 e.tm, .string e.tx]
    match j, hj with
    | 0, hj => simp at hj; subst hj; exact R.cell 0
    | 1, hj => simp at hj; subst hj; exact R.cell 1
  · intro u hu; simp at hu; rcases hu with rfl | rfl <;> rfl
  · unfold maxLen; omega
  · omega
  · simp; omega
  · intro v' w' h1 h2 h3
    refine h v' w' ?_ (grown_trans (World.grownBy_alloc wr _ _) h2)
    unfold OwnGe
    rw [geL_app, List.length_append]
    exact h1
/-- entries of another log are appended -/
theorem append_ges {ops : Array Oper} {rest : List Oper} {o : Oper} {a : Act} {Q : Exit → Act → World → Prop} (base : Nat) (wr : World) (hgd : o.guard = none) (s x : Operand)
    (ho : o.op = .call { callee := .builtin .append, args := #[s, x], argTypes := #[26, 26] })
    (v : Value) (L M : List Ge) (hs : a.eval s = v) (hown : OwnGe wr base v L) (hsz : base ≤ wr.heap.size)
    (ad : Addr) (c : Nat) (hx : a.eval x = .slice (some ad) M.length c) (hM : ∀ k, k < M.length → wr.cell? (ad.add (k * 2)) = some (.int .i64 (geAt M k).tm) ∧ wr.cell? (ad.add (k * 2 + 1)) = some (.string (geAt M k).tx)) (hlen : L.length + M.length ≤ 1048576)
    (h : ∀ v' w', OwnGe w' base v' (L ++ M) → wr.grownBy w' v.ownBlock → wpList Try.prog ops Q rest (a.put o.dst v') w') :
    wpList Try.prog ops Q (o :: rest) a wr := by
  obtain ⟨i0, hi, hz0, hz1, hz2⟩ := info_parts Try.infoGe2
  refine wpList_append_own _ hgd s x 26 ho base 46 i0 _ 2 24 Try.underlying26 hi hz0 hz1 hz2 rfl (by decide) v L.length _ hs hown ad M.length c (geL M) hx (geL_len M) ?_ (geL_one M) ?_ ?_ hsz ?_
  · intro j u hj
    have hl : j < M.length * 2 := by rw [← geL_len]; exact (List.getElem?_eq_some_iff.1 hj).1
    have q := geL_at M (j / 2) (by omega)
    have q2 := hM (j / 2) (by omega)
    rcases (by omega : j = j / 2 * 2 ∨ j = j / 2 * 2 + 1) with e | e
    · rw [e] at hj ⊢
      rw [q.1] at hj
      rw [q2.1]; exact hj
    · rw [e] at hj ⊢
      rw [q.2] at hj
      rw [q2.2]; exact hj
  · unfold maxLen; omega
  · omega
  · intro v' w' h1 h2 h3
    refine h v' w' ?_ h2
    unfold OwnGe
    rw [geL_app, List.length_append]
    exact h1
end Go.Proofs.Ytmhkelfmciepaaa
