import Derived.Test.YtngkiokibldfjaaGreatDoorPK
import Derived.Test.YtngkiokibldfjaaGreatDoorEA
import Derived.Test.YtngkiokibldfjaaGreatDoorLawEx
namespace Go.Proofs.YtngkiokibldfjaaGreatDoor
open Go.RowKit
set_option linter.unusedVariables false
/-! Operations of an extent that a call makes itself. -/
def opC (o : Op) : List Value := [.int .i64 o.kd, .string o.ky, .string o.dt, .int .i64 o.kp, .int .i64 o.at_, .int .i64 o.tn]
def opL (L : List Op) : List Value := L.flatMap opC
theorem opL_app (A B : List Op) : opL (A ++ B) = opL A ++ opL B := by simp [opL]
theorem opL_len (L : List Op) : (opL L).length = L.length * 6 := by
  induction L with
  | nil => rfl
  | cons f L ih => simp only [opL, List.flatMap_cons, List.length_append, List.length_cons] at ih ⊢; rw [ih]; simp [opC]; omega
theorem opL_at : ∀ (L : List Op) (k c : Nat), k < L.length → c < 6 → (opL L)[k * 6 + c]? = (opC (L.getD k opZ))[c]?
  | [], k, c, h, _ => by simp at h
  | o :: L, 0, c, h, hc => by
    simp only [opL, List.flatMap_cons, Nat.zero_mul, Nat.zero_add, List.getD_cons_zero]
    rw [List.getElem?_append_left (by simp [opC]; omega)]
  | o :: L, k + 1, c, h, hc => by
    simp only [opL, List.flatMap_cons, List.getD_cons_succ]
    rw [List.getElem?_append_right (by simp [opC]; omega), show (k + 1) * 6 + c - (opC o).length = k * 6 + c by simp [opC]; omega]
    exact opL_at L k c (by simpa using h) hc
def OwnOp (w : World) (base : Nat) (v : Value) (L : List Op) : Prop := w.ownsRow base 27 6 v L.length (opL L)
theorem OwnOp.empty (w : World) (B : Nat) (hB : B ≤ w.heap.size) : OwnOp (w.alloc (.cells #[] 27)) B (.slice (some ⟨w.heap.size, 0, none⟩) 0 0) [] :=
  orBase (World.ownsRow_made w #[] 0 (Nat.le_refl _) (by decide) rfl) hB
theorem OwnOp.below {w w' : World} {B : Nat} {v : Value} {L : List Op} (h : OwnOp w B v L) (hb : Below w.heap.size w w') : OwnOp w' B v L := orKeep h fun g cs _ r => r.below hb r.lt
theorem ownNe {w : World} {base k n X : Nat} {t t' : TypeId} {v : Value} {cs : List Value} {cs' : Array Value} (h : w.ownsRow base t k v n cs) (hr : RowAt w X t' cs') (ht : t' ≠ t) : v.ownBlock ≠ some X := fun e => by
  obtain ⟨_, _, cur, hc⟩ := orRow h e
  have : some (Obj.cells cs' t' (0, 0)) = some (Obj.cells cur t (0, 0)) := hr.symm.trans hc
  injection this with q
  injection q with q1 q2
  exact ht q2
theorem ownKeep {w w' : World} {base k n X : Nat} {t t' : TypeId} {v : Value} {cs : List Value} {cs' : Array Value} (h : w.ownsRow base t k v n cs) (hr : RowAt w X t' cs') (ht : t' ≠ t) (hg : w.grownBy w' v.ownBlock) : RowAt w' X t' cs' :=
  (hg.block X hr.lt (fun e => ownNe h hr ht e.symm)).trans hr
theorem ownSet {w : World} {base k n X i : Nat} {t t' : TypeId} {v u : Value} {cs : List Value} {cs' : Array Value} (h : w.ownsRow base t k v n cs) (hr : RowAt w X t' cs') (ht : t' ≠ t) : (w.setCell ⟨X, i, none⟩ u).ownsRow base t k v n cs :=
  orKeep h fun g cur e r => r.other _ _ fun q => ownNe h hr ht (e.trans (congrArg some q))
theorem OwnOp.slice {w : World} {B : Nat} {v : Value} {L : List Op} (h : OwnOp w B v L) : ∃ a c, v = .slice a L.length c := orSlice h
theorem OwnOp.exs {w : World} {B : Nat} {a : Option Addr} {c : Nat} {L : List Op} (h : OwnOp w B (.slice a L.length c) L) (i : Nat) (hi : i ≤ L.length) : Exs w a i c (fun k => L.getD k opZ) := by
  rcases h.2 with ⟨h0, h1⟩ | ⟨g, cap, cur, he, hb, hr, hnc, hm, hsz, htk⟩
  · exact ⟨by omega, .inl (by omega)⟩
  · injection he with e1 e2 e3
    subst e1 e3
    have R : RowAt w g 27 cur := hr
    refine ⟨by omega, .inr ⟨g, 0, rfl, R.lt, fun k hk => ?_⟩⟩
    have e1 : ∀ c, c < 6 → w.cell? ⟨g, k * 6 + c, none⟩ = (opC (L.getD k opZ))[c]? := fun c hc => by
      have := congrArg (·[k * 6 + c]?) htk
      simp only [List.getElem?_take] at this
      rw [if_pos (by omega), Array.getElem?_toList] at this
      rw [R.cell, ← opL_at L k c (by omega) hc]
      exact this
    rw [Nat.zero_add]
    exact ⟨e1 0 (by decide), e1 1 (by decide), e1 2 (by decide), e1 3 (by decide), e1 4 (by decide), e1 5 (by decide)⟩
theorem Tryz.infoOpO : (Tryz.prog.info? 27).map (fun i => (i.zero, i.size, i.bytes)) = some (some (.agg #[.int .i64 0, .string ⟨#[]⟩, .string ⟨#[]⟩, .int .i64 0, .int .i64 0, .int .i64 0]), 6, 64) := by kernel_rfl
theorem append_op {ops : Array Oper} {rest : List Oper} {o : Oper} {a : Act} {Q : Exit → Act → World → Prop} (base : Nat) (wr : World) (hgd : o.guard = none) (s x : Operand)
    (ho : o.op = .call { callee := .builtin .append, args := #[s, x], argTypes := #[24, 24] })
    (v : Value) (L : List Op) (y : Op) (hs : a.eval s = v) (hown : OwnOp wr base v L) (hsz : base ≤ wr.heap.size)
    (hx : a.eval x = .slice (some ⟨wr.heap.size, 0, none⟩) 1 1) (hlen : L.length ≤ 1048576)
    (h : ∀ v' w', OwnOp w' base v' (L ++ [y]) → wr.grownBy w' v.ownBlock → wpList Tryz.prog ops Q rest (a.put o.dst v') w') :
    wpList Tryz.prog ops Q (o :: rest) a (wr.alloc (.cells #[.int .i64 y.kd, .string y.ky, .string y.dt, .int .i64 y.kp, .int .i64 y.at_, .int .i64 y.tn] 27)) := by
  obtain ⟨i0, hi, hz0, hz1, hz2⟩ := info_parts Tryz.infoOpO
  refine wpList_append_own _ hgd s x 24 ho base 27 i0 _ 6 64 Tryz.underlying24 hi hz0 hz1 hz2 rfl (by decide) v L.length _ hs (World.ownsRow.alloc hown _) ⟨wr.heap.size, 0, none⟩ 1 1 [.int .i64 y.kd, .string y.ky, .string y.dt, .int .i64 y.kp, .int .i64 y.at_, .int .i64 y.tn] hx rfl ?_ ?_ ?_ ?_ ?_ ?_
  · intro j u hj
    have R := RowAt.new wr 27 #[.int .i64 y.kd, .string y.ky, .string y.dt, .int .i64 y.kp, .int .i64 y.at_, .int .i64 y.tn]
    match j, hj with
    | 0, hj => simp at hj; subst hj; exact R.cell 0
    | 1, hj => simp at hj; subst hj; exact R.cell 1
    | 2, hj => simp at hj; subst hj; exact R.cell 2
    | 3, hj => simp at hj; subst hj; exact R.cell 3
    | 4, hj => simp at hj; subst hj; exact R.cell 4
    | 5, hj => simp at hj; subst hj; exact R.cell 5
  · intro u hu; simp at hu; rcases hu with rfl | rfl | rfl | rfl | rfl | rfl <;> rfl
  · unfold maxLen; omega
  · omega
  · simp; omega
  · intro v' w' h1 h2 h3
    refine h v' w' ?_ (grown_trans (World.grownBy_alloc wr _ _) h2)
    unfold OwnOp
    rw [opL_app, List.length_append]
    exact h1
end Go.Proofs.YtngkiokibldfjaaGreatDoor
