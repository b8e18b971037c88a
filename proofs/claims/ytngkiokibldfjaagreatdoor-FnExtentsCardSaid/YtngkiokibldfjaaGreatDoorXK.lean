import Derived.Test.YtngkiokibldfjaaGreatDoorPK
import Derived.Test.YtngkiokibldfjaaGreatDoorPO
import Derived.Deep.RegionLaw
namespace Go.Proofs.YtngkiokibldfjaaGreatDoor
open Go.RowKit
set_option linter.unusedVariables false
/-! spec.RunExtent: what its last two cases lean on. -/
/-- all blocks but one stand, whatever was written in newer ones -/
theorem grown_far {w w1 w2 : World} {r : Option Nat} {u : Nat} (h : w.grownBy w1 (some u)) (hg : w1.grownBy w2 r) (hr : ∀ g, r = some g → w.heap.size ≤ g) : w.grownBy w2 (some u) :=
  ⟨hg.os.trans h.os, hg.tape.trans h.tape, hg.output.trans h.output, Nat.le_trans h.size hg.size, fun k hk hn => (hg.block k (Nat.lt_of_lt_of_le hk h.size) (fun e => by have := hr k e.symm; omega)).trans (h.block k hk hn)⟩
theorem grown_below {w w' : World} {r : Option Nat} (h : Below w.heap.size w w') : w.grownBy w' r := ⟨h.os, h.tape, h.output, h.size, fun k hk _ => h.block k hk⟩
theorem RowAt.gr {w w' : World} {u g : Nat} {t : TypeId} {cs : Array Value} (h : RowAt w g t cs) (hg : w.grownBy w' (some u)) (hn : g ≠ u) : RowAt w' g t cs := (hg.block g h.lt (fun e => hn (Option.some.inj e))).trans h
/-- all blocks but one stand: the state, where that one is no part of it -/
theorem XI.butu {w W W' : World} {X4 X7 base ub : Nat} {vD : Value} {d : ByteArray} {vO : Value} {O : List (XOt × Value)} (h : XI w W X4 X7 base vD d vO O) {ty : TypeId} {cs : Array Value} (hx : RowAt W ub ty cs) (hb : base ≤ ub) (h1 : ub ≠ X4) (h2 : ub ≠ X7) (h3 : ty ≠ 5) (h4 : vO.ownBlock ≠ some ub) (h5 : ty ≠ 9) (hg : W.grownBy W' (some ub)) : XI w W' X4 X7 base vD d vO O :=
  ⟨RowAt.gr h.res hg h1.symm, RowAt.gr h.rr hg h2.symm, h.dt.keep fun g e => hg.block g (h.dt.row e).2.1 (fun q => h.dt.ne hx h3 (by rw [e]; exact q)), orKeep h.ou fun g cs' e r => RowAt.gr r hg (fun q => h4 (by rw [e, q])), fun p hp => orKeep (h.oe p hp) fun g cs' _ r => RowAt.gr r hg (row_neX r hx h5.symm), h.bl.grown hg h.bl.size (fun g e => by cases e; have := h.nx.2.2.1; omega), Nat.le_trans h.sz hg.size, h.nx⟩
theorem rcF_in (s : ByteArray) (L : List Fr) (k : Nat) (f : Fr) (hf : L[k]? = some f) : rcF s L (k * 5 + 3) = .int .i64 (f.at' : Nat) ∧ rcF s L (k * 5 + 4) = .int .i64 (f.next : Nat) := by
  refine ⟨?_, ?_⟩
  · unfold rcF; rw [rcL_at s L k 3 f hf (by decide)]; rfl
  · unfold rcF; rw [rcL_at s L k 4 f hf (by decide)]; rfl
theorem decB_of (p : Nat) (t : ByteArray) (h : t.data.toList = Lib.decDigits p) : t = decB p := by
  cases t with
  | mk a => unfold decB; congr 1; rw [← h]
theorem Tryz.infoStX : (Tryz.prog.info? 9).map (fun i => (i.zero, i.size, i.bytes)) = some (some (.string ⟨#[]⟩), 1, 16) := by kernel_rfl
theorem step_append_strX (base : Nat) (w : World) {ops : Array Oper} {op : Oper} {a : Act} {K : Act → World → Prop} {Q : Exit → Act → World → Prop} {E : Prop} (hgd : op.guard = none) (s x : Operand)
    (ho : op.op = .call { callee := .builtin .append, args := #[s, x], argTypes := #[23, 23] })
    (v : Value) (xs : List ByteArray) (y : ByteArray) (hs : a.eval s = v) (hown : OwnStrs w base v xs) (hsz : base ≤ w.heap.size)
    (b : Nat) (R : RowAt w b 9 #[.string y]) (hx : a.eval x = .slice (some ⟨b, 0, none⟩) 1 1) (hlen : xs.length + 1 ≤ 1048576)
    (h : ∀ g cap w', OwnStrs w' base (.slice (some ⟨g, 0, none⟩) (xs.length + 1) cap) (xs ++ [y]) → w.grownBy w' v.ownBlock → (v.ownBlock = some g ∨ g = w.heap.size) → K (a.put op.dst (.slice (some ⟨g, 0, none⟩) (xs.length + 1) cap)) w') :
    if Region.wanted op (yielded ops a.tmps) = true then Oper.wp Tryz.prog op a w K Q else E := by
  obtain ⟨i0, hi, hz0, hz1, hz2⟩ := info_parts Tryz.infoStX
  refine step_append_lies _ hgd s x _ ho base 9 i0 _ 1 16 Tryz.underlying23 hi hz0 hz1 hz2 rfl (by decide) v xs.length (xs.map Value.string) hs hown ⟨b, 0, none⟩ 1 1 [.string y] hx rfl ?_ ?_ (by decide) ?_ ?_ hsz w.heap.size rfl ?_
  · intro j u hj
    have hadd : (⟨b, 0, none⟩ : Addr).add j = ⟨b, j, none⟩ := by unfold Addr.add; split <;> simp_all
    rw [hadd, R.cell]
    match j, hj with
    | 0, hj => exact hj
  · intro u hu; simp at hu; subst hu; rfl
  · unfold maxLen; omega
  · omega
  · intro g cap w' h1 h2 h3 _
    exact h g cap w' (by simpa [OwnStrs] using h1) h2 h3
theorem step_appendBX {ops : Array Oper} {o : Oper} {a : Act} {K : Act → World → Prop} {Q : Exit → Act → World → Prop} {E : Prop} (base : Nat) (w : World) (hgd : o.guard = none) (s x : Operand)
    (ho : o.op = .call { callee := .builtin .append, args := #[s, x], argTypes := #[22, 9] })
    (v : Value) (d b : ByteArray) (hs : a.eval s = v) (hown : OwnB w base v d) (hbase : base ≤ w.heap.size) (hx : a.eval x = .string b) (hlen : d.size + b.size ≤ 17592186044414)
    (h : ∀ v' w', OwnB w' base v' (d ++ b) → w.grownBy w' v.ownBlock → K (a.put o.dst v') w') : if Region.wanted o (yielded ops a.tmps) = true then Oper.wp Tryz.prog o a w K Q else E := by
  rw [if_pos (by simp [Region.wanted, hgd])]
  exact step_appendB (ops := ops) (E := E) base w hgd s x ho v d b hs hown hbase hx hlen h
end Go.Proofs.YtngkiokibldfjaaGreatDoor
