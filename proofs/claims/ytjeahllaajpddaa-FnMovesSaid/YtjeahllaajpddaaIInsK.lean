import Derived.Test.YtjeahllaajpddaaAppF
import Derived.Test.YtjeahllaajpddaaRows1
import Derived.Lib.AppendZerosOnto
import Derived.Lib.Overlaps
import Derived.Laws.IdiomCopy
import Derived.Deep.RegionHeld3
import Derived.Deep.RegionLaw
namespace Go.Proofs.Ytjeahllaajpddaa
open Go.RowKit
/-! What slices.Insert does with elements of k cells. -/
theorem run_copyK {P : Program} (w : World) (dT sT ty elem : TypeId) (k g o dLen dCap : Nat) (a : Addr) (sLen sCap : Nat) (cur : Array Value) (t : TypeId) (cs : List Value)
    (hu : P.underlying dT = some (.slice elem)) (hs : (P.info? elem).map (·.size) = some k)
    (hg : w.heap[g]? = some (.cells cur t (0, 0))) (hn : cs.length = Nat.min sLen dLen * k)
    (hsrc : ∀ j v, cs[j]? = some v → w.cell? (a.add j) = some v) (hfit : o + cs.length ≤ cur.size) (h1 : ∀ v ∈ cs, v.oneCell' = true) :
    (Builtin.copy_ #[dT, sT] ty #[.slice (some ⟨g, o, none⟩) dLen dCap, .slice (some a) sLen sCap]).run P w =
      .ok (goInt (Nat.min sLen dLen)) (w.setRow g (cur.toList.take o ++ cs ++ cur.toList.drop (o + cs.length)).toArray) := by
  have hl := run_firstCells_some (P := P) w k (Nat.min sLen dLen) a sLen sCap cs hn hsrc
  have hst := run_storeCells_at P g o t cs 0 cur w hg (by simpa using hfit) h1
  cases hq : P.info? elem with
  | none => simp [hq] at hs
  | some i =>
    have hi : i.size = k := by simpa [hq] using hs
    simp [Builtin.copy_, run_underlying hu, Builtin.lenOf, sizeOf, typeInfo, hq, hi, hl, hst]
/-- an operation whose run is known -/
theorem list_copyK {P : Program} (w : World) {ops : Array Oper} {rest : List Oper} {o : Oper} {a : Act} {Q : Exit → Act → World → Prop} (hgd : o.guard = none) (d s : Operand) (t : TypeId)
    (ho : o.op = .call { callee := .builtin .copy, args := #[d, s], argTypes := #[t, t] }) (v u : Value) (hd : a.eval d = v) (hs : a.eval s = u) {v' : Value} {w' : World}
    (hr : (Builtin.copy_ #[t, t] o.type #[v, u]).run P w = .ok v' w') (h : wpList P ops Q rest (a.put o.dst v') w') : wpList P ops Q (o :: rest) a w := by
  refine wpList_plain hgd fun K hK => ?_
  unfold Oper.wp execOp
  simp only [ho, resolve, invoke, builtin, Sem.run_bind, Sem.run_pure, Result.andThen_ok, List.map_toArray, List.map_cons, List.map_nil, hd, hs, hr]
  exact hK _ _ h
theorem step_copyK {P : Program} {ops : Array Oper} {o : Oper} {a : Act} {w : World} {K : Act → World → Prop} {Q : Exit → Act → World → Prop} {E : Prop}
    (hg : o.guard = none) (d x : Operand) (t : TypeId) (ho : o.op = Op.call { callee := Callee.builtin Builtin.copy, args := #[d, x], argTypes := #[t, t] })
    (v u : Value) (hd : a.eval d = v) (hx : a.eval x = u) {v' : Value} {w' : World} (hr : (Builtin.copy_ #[t, t] o.type #[v, u]).run P w = .ok v' w') (hK : K (a.put o.dst v') w') :
    if Region.wanted o (yielded ops a.tmps) = true then Oper.wp P o a w K Q else E := by
  rw [if_pos (by simp [Region.wanted, hg])]
  unfold Oper.wp execOp
  simp only [ho, resolve, invoke, builtin, Sem.run_bind, Sem.run_pure, Result.andThen_ok, List.map_toArray, List.map_cons, List.map_nil, hd, hx, hr]
  exact hK
theorem list_appZ {P : Program} (w : World) {ops : Array Oper} {rest : List Oper} {o : Oper} {a : Act} {Q : Exit → Act → World → Prop} (hgd : o.guard = none) (d s : Operand) (t t' : TypeId)
    (ho : o.op = .call { callee := .builtin .append, args := #[d, s], argTypes := #[t, t'] }) (v u : Value) (hd : a.eval d = v) (hs : a.eval s = u) {v' : Value} {w' : World}
    (hr : (Builtin.append_ #[t, t'] o.type #[v, u]).run P w = .ok v' w') (h : wpList P ops Q rest (a.put o.dst v') w') : wpList P ops Q (o :: rest) a w := by
  refine wpList_plain hgd fun K hK => ?_
  unfold Oper.wp execOp
  simp only [ho, resolve, invoke, builtin, Sem.run_bind, Sem.run_pure, Result.andThen_ok, List.map_toArray, List.map_cons, List.map_nil, hd, hs, hr]
  exact hK _ _ h
theorem setRow_grown (w : World) (g : Nat) (c : Array Value) : w.grownBy (w.setRow g c) (some g) :=
  ⟨rfl, rfl, rfl, by simp [World.setRow], fun k _ hk => by
    simp only [World.setRow, Array.getElem?_modify]
    rw [if_neg (fun e => hk (by rw [e]))]⟩
theorem drew_grown (w : World) (r : Option Nat) : w.grownBy w.drew r := below_grown (Below.refl _ _).drew _
/-- the row in place -/
theorem ins_rows (cur xs vs : List Value) (n i cap : Nat) (hi : i < n) (hc : n + 1 ≤ cap) (hl : cur.length = cap * 3) (hx : cur.take (n * 3) = xs) (hv : vs.length = 3) (A : List Value)
    (hA : A = cur.take ((i + 1) * 3) ++ xs.drop (i * 3) ++ cur.drop ((i + 1) * 3 + (xs.drop (i * 3)).length)) :
    A.length = cap * 3 ∧ (A.take (i * 3) ++ vs ++ A.drop (i * 3 + vs.length)).length = cap * 3 ∧ (A.take (i * 3) ++ vs ++ A.drop (i * 3 + vs.length)).take ((n + 1) * 3) = xs.take (i * 3) ++ vs ++ xs.drop (i * 3) := by
  have hxl : xs.length = n * 3 := by rw [← hx, List.length_take]; omega
  have hdl : (xs.drop (i * 3)).length = n * 3 - i * 3 := by rw [List.length_drop, hxl]
  have hAl : A.length = cap * 3 := by rw [hA]; simp only [List.length_append, List.length_take, List.length_drop, hl, hxl]; omega
  have h1 : A.take (i * 3) = xs.take (i * 3) := by
    rw [hA, ← hx, List.append_assoc, List.take_append_of_le_length (by rw [List.length_take]; omega), List.take_take, List.take_take]
    congr 1; omega
  have h2 : A.drop (i * 3 + vs.length) = xs.drop (i * 3) ++ cur.drop ((i + 1) * 3 + (xs.drop (i * 3)).length) := by
    rw [hA, List.append_assoc, List.drop_left' (by rw [List.length_take, hv]; omega)]
  refine ⟨hAl, ?_, ?_⟩
  · simp only [List.length_append, List.length_take, List.length_drop, hAl, hv]; omega
  · rw [h1, h2, ← List.append_assoc]
    apply List.take_left'
    simp only [List.length_append, List.length_take, hdl, hxl, hv]; omega
/-- a new row -/
theorem ins_rows2 (R xs vs : List Value) (n i cap : Nat) (hi : i < n) (hc : n + 1 ≤ cap) (hl : R.length = cap * 3) (hxl : xs.length = n * 3) (hx : R.take (i * 3) = xs.take (i * 3)) (hv : vs.length = 3) (A : List Value)
    (hA : A = R.take (i * 3) ++ vs ++ R.drop (i * 3 + vs.length)) :
    A.length = cap * 3 ∧ (A.take ((i + 1) * 3) ++ xs.drop (i * 3) ++ A.drop ((i + 1) * 3 + (xs.drop (i * 3)).length)).length = cap * 3 ∧ (A.take ((i + 1) * 3) ++ xs.drop (i * 3) ++ A.drop ((i + 1) * 3 + (xs.drop (i * 3)).length)).take ((n + 1) * 3) = xs.take (i * 3) ++ vs ++ xs.drop (i * 3) := by
  have hdl : (xs.drop (i * 3)).length = n * 3 - i * 3 := by rw [List.length_drop, hxl]
  have hAl : A.length = cap * 3 := by rw [hA]; simp only [List.length_append, List.length_take, List.length_drop, hl, hv]; omega
  have h1 : A.take ((i + 1) * 3) = xs.take (i * 3) ++ vs := by
    rw [hA, hx]
    apply List.take_left'
    simp only [List.length_append, List.length_take, hxl, hv]; omega
  refine ⟨hAl, ?_, ?_⟩
  · simp only [List.length_append, List.length_take, List.length_drop, hAl, hdl]; omega
  · rw [h1]
    apply List.take_left'
    simp only [List.length_append, List.length_take, hdl, hxl, hv]; omega
end Go.Proofs.Ytjeahllaajpddaa
