import Derived.Test.YtekdphfifdfmbaaTbR
import Derived.Test.YtekdphfifdfmbaaSTab
namespace Go.Proofs.Ytekdphfifdfmbaa
open Go.RowKit
set_option linter.unusedVariables false
/-! spec.RunTable, from the empty table. -/
theorem Try.infoRn8 : (Try.prog.info? 28).map (fun i => (i.zero, i.size, i.bytes)) = some (some (.agg #[.slice none 0 0]), 1, 24) := by kernel_rfl
theorem Try.infoOu8 : (Try.prog.info? 129).map (fun i => (i.zero, i.size, i.bytes)) = some (some (.agg #[.int .i64 0, .string ⟨#[]⟩, .slice none 0 0]), 3, 48) := by kernel_rfl
/-- one run, in a box just made, is appended -/
theorem append_run {ops : Array Oper} {rest : List Oper} {o : Oper} {a : Act} {Q' : Exit → Act → World → Prop} (base : Nat) (wr : World) (hgd : o.guard = none) (s x : Operand)
    (ho : o.op = .call { callee := .builtin .append, args := #[s, x], argTypes := #[23, 23] })
    (v : Value) (Q : List (Value × List En)) (p : Value × List En) (hs : a.eval s = v) (hown : wr.ownsRow base 28 1 v Q.length (Q.map Prod.fst)) (hsz : base ≤ wr.heap.size)
    (hx : a.eval x = .slice (some ⟨wr.heap.size, 0, none⟩) 1 1) (h1c : p.1.oneCell' = true) (hlen : Q.length ≤ 1048576)
    (h : ∀ v' w', w'.ownsRow base 28 1 v' (Q ++ [p]).length ((Q ++ [p]).map Prod.fst) → wr.grownBy w' v.ownBlock → wpList Try.prog ops Q' rest (a.put o.dst v') w') :
    wpList Try.prog ops Q' (o :: rest) a (wr.alloc (.cells #[p.1] 28)) := by
  obtain ⟨i0, hi, hz0, hz1, hz2⟩ := info_parts Try.infoRn8
  refine wpList_append_own _ hgd s x 23 ho base 28 i0 _ 1 24 Try.underlying23 hi hz0 hz1 hz2 rfl (by decide) v Q.length _ hs (World.ownsRow.alloc hown _) ⟨wr.heap.size, 0, none⟩ 1 1 [p.1] hx rfl ?_ ?_ ?_ ?_ ?_ ?_
  · intro j u hj
    have R := RowAt.new wr 28 #[p.1]
    match j, hj with
    | 0, hj => simp at hj; subst hj; exact R.cell 0
  · intro u hu; simp at hu; rw [hu]; exact h1c
  · unfold maxLen; omega
  · omega
  · simp; omega
  · intro v' w' h1 h2 h3
    refine h v' w' ?_ (grown_trans (World.grownBy_alloc wr _ _) h2)
    rw [List.length_append, List.map_append]
    exact h1
/-- one answer, in a box just made, is appended -/
theorem append_out {ops : Array Oper} {rest : List Oper} {o : Oper} {a : Act} {Q' : Exit → Act → World → Prop} (base : Nat) (wr : World) (hgd : o.guard = none) (s x : Operand)
    (ho : o.op = .call { callee := .builtin .append, args := #[s, x], argTypes := #[97, 97] })
    (v : Value) (O : List (Ot × Value)) (p : Ot × Value) (hs : a.eval s = v) (hown : wr.ownsRow base 129 3 v O.length (ouL O)) (hsz : base ≤ wr.heap.size)
    (hx : a.eval x = .slice (some ⟨wr.heap.size, 0, none⟩) 1 1) (h1c : p.2.oneCell' = true) (hlen : O.length ≤ 1048576)
    (h : ∀ v' w', w'.ownsRow base 129 3 v' (O ++ [p]).length (ouL (O ++ [p])) → wr.grownBy w' v.ownBlock → wpList Try.prog ops Q' rest (a.put o.dst v') w') :
    wpList Try.prog ops Q' (o :: rest) a (wr.alloc (.cells #[.int .i64 p.1.cd, .string p.1.tx, p.2] 129)) := by
  obtain ⟨i0, hi, hz0, hz1, hz2⟩ := info_parts Try.infoOu8
  refine wpList_append_own _ hgd s x 97 ho base 129 i0 _ 3 48 Try.underlying97 hi hz0 hz1 hz2 rfl (by decide) v O.length _ hs (World.ownsRow.alloc hown _) ⟨wr.heap.size, 0, none⟩ 1 1 [.int .i64 p.1.cd, .string p.1.tx, p.2] hx rfl ?_ ?_ ?_ ?_ ?_ ?_
  · intro j u hj
    have R := RowAt.new wr 129 #[.int .i64 p.1.cd, .string p.1.tx, p.2]
    match j, hj with
    | 0, hj => simp at hj; subst hj; exact R.cell 0
    | 1, hj => simp at hj; subst hj; exact R.cell 1
    | 2, hj => simp at hj; subst hj; exact R.cell 2
  · intro u hu
    simp at hu
    rcases hu with rfl | rfl | rfl
    · rfl
    · rfl
    · exact h1c
  · unfold maxLen; omega
  · omega
  · simp; omega
  · intro v' w' h1 h2 h3
    refine h v' w' ?_ (grown_trans (World.grownBy_alloc wr _ _) h2)
    rw [List.length_append, ouL_app]
    exact h1
theorem RtI.rr1 {w W W1 : World} {X b rb base : Nat} {t : Tt} {vF vR : Value} {Q : List (Value × List En)} {vO : Value} {O : List (Ot × Value)} (h : RtI w W X b rb base t vF vR Q vO O) (hg : W.grownBy W1 vO.ownBlock) : RowAt W1 rb 99 #[.int .i64 0, .int .i64 0, .slice none 0 0, .slice none 0 0, vO] :=
  (hg.block rb h.rr.lt (fun e => by obtain ⟨_, _, cs, r⟩ := or_row h.ou e.symm; exact row_ne h.rr r (by decide) rfl)).trans h.rr
theorem RtI.tb1 {w W W1 : World} {X b rb base : Nat} {t : Tt} {vF vR : Value} {Q : List (Value × List En)} {vO : Value} {O : List (Ot × Value)} (h : RtI w W X b rb base t vF vR Q vO O) (hg : W.grownBy W1 vR.ownBlock) {g : Nat} {ty : TypeId} {cs : Array Value} (r : RowAt W g ty cs) (hn : ty ≠ 28) : RowAt W1 g ty cs :=
  (hg.block g r.lt (fun e => by obtain ⟨_, _, cs', r'⟩ := or_row h.rs e.symm; exact row_ne r r' hn rfl)).trans r
theorem RtI.fb1 {w W W1 : World} {X b rb base : Nat} {t : Tt} {vF vR : Value} {Q : List (Value × List En)} {vO : Value} {O : List (Ot × Value)} (h : RtI w W X b rb base t vF vR Q vO O) (hg : W.grownBy W1 vF.ownBlock) {g : Nat} {ty : TypeId} {cs : Array Value} (r : RowAt W g ty cs) (hn : ty ≠ 34) : RowAt W1 g ty cs :=
  (hg.block g r.lt (fun e => by obtain ⟨_, _, cs', r'⟩ := h.fr.row e.symm; exact row_ne r r' hn rfl)).trans r
theorem sl_one {w : World} {base k n : Nat} {t : TypeId} {v : Value} {cs : List Value} (h : w.ownsRow base t k v n cs) : v.oneCell' = true := by
  obtain ⟨a, c, hv⟩ := or_slice h
  rw [hv]; rfl
theorem own_lt {w w' : World} {base g : Nat} {v v' : Value} {L L' : List En} (h : OwnEn w base v L) (h' : OwnEn w' w.heap.size v' L') (e : v'.ownBlock = some g) : v.ownBlock ≠ some g := fun e2 => by
  have := (h.row e2).2.1
  have := (h'.row e).1
  omega
theorem tab0 : tabOk 0 0 0 (enA []) 0 (fun _ => ⟨none, 0, 0, enA []⟩) := ⟨⟨by decide, by decide, by decide, by decide⟩, ⟨by decide, runTo_zero _⟩, ⟨fun i hi => absurd hi (Nat.not_lt_zero _), by decide, List.nodup_nil, fun v hv => by cases hv⟩, by decide, fun j hj => absurd hj (Nat.not_lt_zero _)⟩
end Go.Proofs.Ytekdphfifdfmbaa
