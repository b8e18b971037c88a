import Derived.Test.YtmhkelfmciepaaaGrO
import Derived.Test.YtmhkelfmciepaaaAI
namespace Go.Proofs.Ytmhkelfmciepaaa
open Go.RowKit
set_option linter.unusedVariables false
/-! A log is appended, as a step of a region that draws its order. -/
def selS (b : Bool) (v o : Value) : Value := cond b v o
theorem selS_t (v o : Value) : selS true v o = v := rfl
theorem selS_f (v o : Value) : selS false v o = o := rfl
theorem step_append_log {ops : Array Oper} {o : Oper} {a : Act} {K : Act → World → Prop} {Q : Exit → Act → World → Prop} {E : Prop} (base : Nat) (w : World) (hgd : o.guard = none) (s x : Operand)
    (ho : o.op = .call { callee := .builtin .append, args := #[s, x], argTypes := #[26, 26] })
    (v : Value) (L M : List Ge) (hs : a.eval s = v) (hown : OwnGe w base v L) (hsz : base ≤ w.heap.size) (ad : Option Addr) (c : Nat) (hx : a.eval x = .slice ad M.length c) (hM : LogR w ad c M) (hlen : L.length + M.length ≤ 1048576)
    (h : ∀ v' w', OwnGe w' base v' (L ++ M) → w.grownBy w' v.ownBlock → K (a.put o.dst v') w') :
    if Region.wanted o (yielded ops a.tmps) = true then Oper.wp Try.prog o a w K Q else E := by
  have hw : Region.wanted o (yielded ops a.tmps) = true := by simp [Region.wanted, hgd]
  rw [if_pos hw]
  obtain ⟨i0, hi, hz0, hz1, hz2⟩ := info_parts Try.infoGe2
  cases ad with
  | none =>
    have hl0 : M.length = 0 := by
      rcases hM.2 with ⟨h0, _⟩ | ⟨g, cs, hA, _⟩
      · exact h0
      · cases hA
    have hc0 : c = 0 := by
      rcases hM.2 with ⟨_, h0⟩ | ⟨g, cs, hA, _⟩
      · exact h0 rfl
      · cases hA
    have hm0 : M = [] := List.eq_nil_of_length_eq_zero hl0
    subst hm0 hc0
    have hrun := run_append_owned_none (P := Try.prog) (w := w) base 26 o.type 46 i0 2 Try.underlying26 hi v L.length _ hown
    unfold Oper.wp
    have hx' : a.eval x = .slice none 0 0 := hx
    simp [execOp, ho, resolve, invoke, builtin, hs, hx', hrun, Result.andThen]
    have := h v w (by rw [List.append_nil]; exact hown) (below_grown (Below.refl _ _) _)
    exact this
  | some ad =>
    refine wp_append_own w s x 26 ho base 46 i0 _ 2 24 Try.underlying26 hi hz0 hz1 hz2 rfl (by decide) v L.length _ hs hown ad M.length c (geL M) hx (geL_len M) ?_ (geL_one M) (by unfold maxLen; omega) (by omega) hsz ?_
    · intro j u hj
      have hl : j < M.length * 2 := by rw [← geL_len]; exact (List.getElem?_eq_some_iff.1 hj).1
      have q := geL_at M (j / 2) (by omega)
      rcases hM.2 with ⟨h0, _⟩ | ⟨g, cs, hA, hr, hcs⟩
      · omega
      · have ea : ad = ⟨g, 0, none⟩ := Option.some.inj hA
        have hadd : ∀ i, (⟨g, 0, none⟩ : Addr).add i = ⟨g, i, none⟩ := by intro i; unfold Addr.add; split <;> simp_all
        have q2 := hcs (j / 2) (by omega)
        rw [ea, hadd, hr.cell]
        rcases (by omega : j = j / 2 * 2 ∨ j = j / 2 * 2 + 1) with e | e
        · rw [e] at hj ⊢
          rw [q.1] at hj
          rw [q2.1]; exact hj
        · rw [e] at hj ⊢
          rw [q.2] at hj
          rw [q2.2]; exact hj
    · intro v' w' h1 h2 h3
      refine h v' w' ?_ h2
      unfold OwnGe
      rw [geL_app, List.length_append]
      exact h1
theorem LogR.box {w : World} {X : Nat} {e : Ge} (h : RowAt w X 46 #[.int .i64 e.tm, .string e.tx]) : LogR w (some ⟨X, 0, none⟩) 1 [e] :=
  ⟨Nat.le_refl _, .inr ⟨X, _, rfl, h, fun k hk => by
    have : k = 0 := by simp at hk; exact hk
    subst this
    exact ⟨rfl, rfl⟩⟩⟩
theorem OwnGe.ne {w : World} {B : Nat} {v : Value} {X : Nat} {e : Ge} (h : OwnGe w B v []) (hX : RowAt w X 46 #[.int .i64 e.tm, .string e.tx]) (hv : ∃ g, v = .slice (some ⟨g, 0, none⟩) 0 0) : some X ≠ v.ownBlock := by
  intro eq
  obtain ⟨g, rfl⟩ := hv
  have eg : X = g := Option.some.inj eq
  rcases h.2 with ⟨h0, _⟩ | ⟨g2, cap, cur, he, hb, hr, hnc, hm, hsz, htk⟩
  · cases h0
  · have e1 : g = g2 ∧ 0 = cap := by cases he; exact ⟨rfl, rfl⟩
    rw [← e1.1, ← eg] at hr
    have q : some (Obj.cells cur 46 (0, 0)) = some (Obj.cells #[.int .i64 e.tm, .string e.tx] 46 (0, 0)) := hr.symm.trans hX
    injection q with q
    injection q with q1
    rw [q1, ← e1.2] at hsz
    cases hsz
theorem OwnGe.alloc {w : World} {B : Nat} {v : Value} {L : List Ge} (h : OwnGe w B v L) (o : Obj) : OwnGe (w.alloc o) B v L := World.ownsRow.alloc h o
end Go.Proofs.Ytmhkelfmciepaaa
