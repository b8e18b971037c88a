import Derived.OwnWalkIn
import Derived.ArgAppend
import Derived.Laws.OwnMore
import Derived.Test.YtngkiokibldfjaaGreatDoorBase
import Derived.Test.YtngkiokibldfjaaGreatDoorPA
import Derived.Lib.AppendZerosOnto
import Derived.Lib.Overlaps
import Derived.Laws.IdiomCopy
import Derived.Deep.RegionHeld3
import Derived.Deep.RegionLaw
import Derived.Test.YtngkiokibldfjaaGreatDoorProg
import Derived.Lib.SliceRun
namespace Go.Proofs.YtngkiokibldfjaaGreatDoor
open Go.RowKit
/-! An append, and that the row behind it is the old one or a new one. -/
theorem run_append_fresh {P : Program} (w : World) (base : Nat) (t ty e : TypeId) (i : TypeInfo) (z : Value) (size bytes : Nat) (ht : P.underlying t = some (.slice e)) (hi : P.info? e = some i) (hz : i.zero = some z)
    (hsize : i.size = size) (hby : i.bytes = bytes) (hzs : z.cells.size = size) (hsz : 0 < size)
    (v : Value) (n : Nat) (xs : List Value) (hown : w.ownsRow base e size v n xs)
    (a : Addr) (m c : Nat) (news : List Value) (hl : news.length = m * size) (hnews : ∀ j u, news[j]? = some u → w.cell? (a.add j) = some u) (h1 : ∀ u ∈ news, u.oneCell' = true)
    (h63 : n + m ≤ maxLen) (hbytes : (n + m) * bytes ≤ 140737488355328) (hbase : base ≤ w.heap.size) :
    ∃ v' w', (Builtin.append_ #[t, t] ty #[v, .slice (some a) m c]).run P w = .ok v' w' ∧ w'.ownsRow base e size v' (n + m) (xs ++ news) ∧ w.grownBy w' v.ownBlock ∧
      (v'.ownBlock = v.ownBlock ∨ ∀ k, v'.ownBlock = some k → w.heap.size ≤ k) := by
  obtain ⟨v', w', hr, k1, k2, _⟩ := run_append_own w base t ty e i z size bytes ht hi hz hsize hby hzs hsz v n xs hown a m c news hl hnews h1 h63 hbytes hbase
  refine ⟨v', w', hr, k1, k2, ?_⟩
  rcases hown.2 with ⟨rfl, rfl⟩ | ⟨g, cap, cur, rfl, hb, hg, hn, hm, hs, ht'⟩
  · right
    obtain ⟨v2, w2, hr2, k3, _, _⟩ := run_append_own w w.heap.size t ty e i z size bytes ht hi hz hsize hby hzs hsz (.slice none 0 0) 0 xs ⟨hown.1, .inl ⟨rfl, rfl⟩⟩ a m c news hl hnews h1 h63 hbytes (Nat.le_refl _)
    rw [hr] at hr2; cases hr2
    exact fun k hk => (k3.lt k hk).1
  · by_cases hroom : n + m ≤ cap
    · left
      obtain ⟨w2, hr2, _, _⟩ := run_append_fits w base t ty e i size ht hi hsize g n cap xs hown a m c news hl hnews h1 hroom
      rw [hr] at hr2; cases hr2; rfl
    · right
      obtain ⟨v2, w2, hr2, k3, _⟩ := run_append_arg_grows w t ty e i z size bytes ht hi hz hsize hby hzs hsz ⟨g, 0, none⟩ n cap xs hown.1 (hown.cells rfl) a m c news hl hnews (by omega) h63 hbytes
      rw [hr] at hr2; cases hr2
      exact fun k hk => (k3.lt k hk).1
theorem wpListIn_append_fresh {F : Fence} {n : Nat} {P : Program} (w : World) {ops : Array Oper} {rest : List Oper} {o : Oper} {a : Act} {Q : Exit → Act → World → Prop}
    (hg : o.guard = none) (s x : Operand) (t : TypeId) (hop : o.op = Op.call { callee := Callee.builtin Builtin.append, args := #[s, x], argTypes := #[t, t] })
    (base : Nat) (e : TypeId) (i : TypeInfo) (z : Value) (size bytes : Nat) (h1 : P.underlying t = some (.slice e)) (h2 : P.info? e = some i) (h3 : i.zero = some z) (h4 : i.size = size) (h5 : i.bytes = bytes) (h6 : z.cells.size = size) (h7 : 0 < size)
    (v : Value) (k : Nat) (xs : List Value) (hs : a.eval s = v) (hown : w.ownsRow base e size v k xs) (ad : Addr) (m c : Nat) (news : List Value) (hx : a.eval x = .slice (some ad) m c) (hn : news.length = m * size)
    (hc : ∀ j u, news[j]? = some u → w.cell? (ad.add j) = some u) (h1c : ∀ u ∈ news, u.oneCell' = true) (b1 : k + m ≤ maxLen) (b2 : (k + m) * bytes ≤ 140737488355328) (b3 : base ≤ w.heap.size)
    (hK : ∀ v' w', w'.ownsRow base e size v' (k + m) (xs ++ news) → w.grownBy w' v.ownBlock → (v'.ownBlock = v.ownBlock ∨ ∀ q, v'.ownBlock = some q → w.heap.size ≤ q) → wpListIn F n P ops Q rest (a.put o.dst v') w') :
    wpListIn F n P ops Q (o :: rest) a w := by
  obtain ⟨v', w', hrun, r1, r2, r3⟩ := run_append_fresh (P := P) w base t o.type e i z size bytes h1 h2 h3 h4 h5 h6 h7 v k xs hown ad m c news hn hc h1c b1 b2 b3
  refine wpListIn_plain hg fun K hK' => ⟨?_, ?_⟩
  · simp [Oper.about, hop, resolve, Target.leads, Sem.run_pure]
  · rw [Oper.semAt_plain F _ _ (by rw [hop]; intro q hq; cases hq)]
    simp [execOp, hop, resolve, invoke, builtin, hs, hx, hrun, Result.andThen]
    exact hK' _ _ (hK v' w' r1 r2 r3)
end Go.Proofs.YtngkiokibldfjaaGreatDoor
namespace Go.Proofs.YtngkiokibldfjaaGreatDoor
open Go.RowKit
/-! What slices.Insert does with elements of k cells. -/
theorem run_copyK {P : Program} (w : World) (dT sT ty elem : TypeId) (k g o dLen dCap : Nat) (a : Addr) (sLen sCap : Nat) (cur : Array Value) (t : TypeId) (cs : List Value)
    (hu : P.underlying dT = some (.slice elem)) (hs : (P.info? elem).map (·.size) = some k)
    (hg : w.heap[g]? = some (.cells cur t (0, 0))) (hn : cs.length = Nat.min sLen dLen * k)
    (hsrc : ∀ j v, cs[j]? = some v → w.cell? (a.add j) = some v) (hfit : o + cs.length ≤ cur.size) (h1 : ∀ v ∈ cs, v.oneCell' = true) :
    (Builtin.copy_ #[dT, sT] ty #[.slice (some ⟨g, o, none⟩) dLen dCap, .slice (some a) sLen sCap]).run P w =
      .ok (goInt (Nat.min sLen dLen)) (w.setRow g (cur.toList.take o ++ cs ++ cur.toList.drop (o + cs.length)).toArray) := by
  have hl := run_firstCells_some (P := P) w k (Nat.min sLen dLen) a sLen sCap cs hn hsrc
  have hst := run_storeCells_at P g o t cs 0 cur w hg (by simpa using hfit) h1
  cases hq : P.info? elem with
  | none => simp [hq] at hs
  | some i =>
    have hi : i.size = k := by simpa [hq] using hs
    simp [Builtin.copy_, run_underlying hu, Builtin.lenOf, sizeOf, typeInfo, hq, hi, hl, hst]
/-- an operation whose run is known -/
theorem list_copyK {P : Program} (w : World) {ops : Array Oper} {rest : List Oper} {o : Oper} {a : Act} {Q : Exit → Act → World → Prop} (hgd : o.guard = none) (d s : Operand) (t : TypeId)
    (ho : o.op = .call { callee := .builtin .copy, args := #[d, s], argTypes := #[t, t] }) (v u : Value) (hd : a.eval d = v) (hs : a.eval s = u) {v' : Value} {w' : World}
    (hr : (Builtin.copy_ #[t, t] o.type #[v, u]).run P w = .ok v' w') (h : wpList P ops Q rest (a.put o.dst v') w') : wpList P ops Q (o :: rest) a w := by
  refine wpList_plain hgd fun K hK => ?_
  unfold Oper.wp execOp
  simp only [ho, resolve, invoke, builtin, Sem.run_bind, Sem.run_pure, Result.andThen_ok, List.map_toArray, List.map_cons, List.map_nil, hd, hs, hr]
  exact hK _ _ h
theorem step_copyK {P : Program} {ops : Array Oper} {o : Oper} {a : Act} {w : World} {K : Act → World → Prop} {Q : Exit → Act → World → Prop} {E : Prop}
    (hg : o.guard = none) (d x : Operand) (t : TypeId) (ho : o.op = Op.call { callee := Callee.builtin Builtin.copy, args := #[d, x], argTypes := #[t, t] })
    (v u : Value) (hd : a.eval d = v) (hx : a.eval x = u) {v' : Value} {w' : World} (hr : (Builtin.copy_ #[t, t] o.type #[v, u]).run P w = .ok v' w') (hK : K (a.put o.dst v') w') :
    if Region.wanted o (yielded ops a.tmps) = true then Oper.wp P o a w K Q else E := by
  rw [if_pos (by simp [Region.wanted, hg])]
  unfold Oper.wp execOp
  simp only [ho, resolve, invoke, builtin, Sem.run_bind, Sem.run_pure, Result.andThen_ok, List.map_toArray, List.map_cons, List.map_nil, hd, hx, hr]
  exact hK
theorem list_appZ {P : Program} (w : World) {ops : Array Oper} {rest : List Oper} {o : Oper} {a : Act} {Q : Exit → Act → World → Prop} (hgd : o.guard = none) (d s : Operand) (t t' : TypeId)
    (ho : o.op = .call { callee := .builtin .append, args := #[d, s], argTypes := #[t, t'] }) (v u : Value) (hd : a.eval d = v) (hs : a.eval s = u) {v' : Value} {w' : World}
    (hr : (Builtin.append_ #[t, t'] o.type #[v, u]).run P w = .ok v' w') (h : wpList P ops Q rest (a.put o.dst v') w') : wpList P ops Q (o :: rest) a w := by
  refine wpList_plain hgd fun K hK => ?_
  unfold Oper.wp execOp
  simp only [ho, resolve, invoke, builtin, Sem.run_bind, Sem.run_pure, Result.andThen_ok, List.map_toArray, List.map_cons, List.map_nil, hd, hs, hr]
  exact hK _ _ h
theorem setRow_grown (w : World) (g : Nat) (c : Array Value) : w.grownBy (w.setRow g c) (some g) :=
  ⟨rfl, rfl, rfl, by simp [World.setRow], fun k _ hk => by
    simp only [World.setRow, Array.getElem?_modify]
    rw [if_neg (fun e => hk (by rw [e]))]⟩
theorem drew_grown (w : World) (r : Option Nat) : w.grownBy w.drew r := below_grown (Below.refl _ _).drew _
/-- the row in place -/
theorem ins_rows (cur xs vs : List Value) (n i cap : Nat) (hi : i < n) (hc : n + 1 ≤ cap) (hl : cur.length = cap * 3) (hx : cur.take (n * 3) = xs) (hv : vs.length = 3) (A : List Value)
    (hA : A = cur.take ((i + 1) * 3) ++ xs.drop (i * 3) ++ cur.drop ((i + 1) * 3 + (xs.drop (i * 3)).length)) :
    A.length = cap * 3 ∧ (A.take (i * 3) ++ vs ++ A.drop (i * 3 + vs.length)).length = cap * 3 ∧ (A.take (i * 3) ++ vs ++ A.drop (i * 3 + vs.length)).take ((n + 1) * 3) = xs.take (i * 3) ++ vs ++ xs.drop (i * 3) := by
  have hxl : xs.length = n * 3 := by rw [← hx, List.length_take]; omega
  have hdl : (xs.drop (i * 3)).length = n * 3 - i * 3 := by rw [List.length_drop, hxl]
  have hAl : A.length = cap * 3 := by rw [hA]; simp only [List.length_append, List.length_take, List.length_drop, hl, hxl]; omega
  have h1 : A.take (i * 3) = xs.take (i * 3) := by
    rw [hA, ← hx, List.append_assoc, List.take_append_of_le_length (by rw [List.length_take]; omega), List.take_take, List.take_take]
    congr 1; omega
  have h2 : A.drop (i * 3 + vs.length) = xs.drop (i * 3) ++ cur.drop ((i + 1) * 3 + (xs.drop (i * 3)).length) := by
    rw [hA, List.append_assoc, List.drop_left' (by rw [List.length_take, hv]; omega)]
  refine ⟨hAl, ?_, ?_⟩
  · simp only [List.length_append, List.length_take, List.length_drop, hAl, hv]; omega
  · rw [h1, h2, ← List.append_assoc]
    apply List.take_left'
    simp only [List.length_append, List.length_take, hdl, hxl, hv]; omega
/-- a new row -/
theorem ins_rows2 (R xs vs : List Value) (n i cap : Nat) (hi : i < n) (hc : n + 1 ≤ cap) (hl : R.length = cap * 3) (hxl : xs.length = n * 3) (hx : R.take (i * 3) = xs.take (i * 3)) (hv : vs.length = 3) (A : List Value)
    (hA : A = R.take (i * 3) ++ vs ++ R.drop (i * 3 + vs.length)) :
    A.length = cap * 3 ∧ (A.take ((i + 1) * 3) ++ xs.drop (i * 3) ++ A.drop ((i + 1) * 3 + (xs.drop (i * 3)).length)).length = cap * 3 ∧ (A.take ((i + 1) * 3) ++ xs.drop (i * 3) ++ A.drop ((i + 1) * 3 + (xs.drop (i * 3)).length)).take ((n + 1) * 3) = xs.take (i * 3) ++ vs ++ xs.drop (i * 3) := by
  have hdl : (xs.drop (i * 3)).length = n * 3 - i * 3 := by rw [List.length_drop, hxl]
  have hAl : A.length = cap * 3 := by rw [hA]; simp only [List.length_append, List.length_take, List.length_drop, hl, hv]; omega
  have h1 : A.take ((i + 1) * 3) = xs.take (i * 3) ++ vs := by
    rw [hA, hx]
    apply List.take_left'
    simp only [List.length_append, List.length_take, hxl, hv]; omega
  refine ⟨hAl, ?_, ?_⟩
  · simp only [List.length_append, List.length_take, List.length_drop, hAl, hdl]; omega
  · rw [h1]
    apply List.take_left'
    simp only [List.length_append, List.length_take, hdl, hxl, hv]; omega
end Go.Proofs.YtngkiokibldfjaaGreatDoor
namespace Go.Proofs.YtngkiokibldfjaaGreatDoor
open Go.RowKit
set_option linter.unusedVariables false
/-! Rows of cells, eight an element, put together anew. -/
theorem rp_len {α : Type} (xs : List α) (n j : Nat) (hj : j ≤ n) (hxl : xs.length = n * 8) : (xs.drop (j * 8)).length = (n - j) * 8 := by rw [List.length_drop, hxl]; omega
/-- v at a place, then what is behind: in a row whose head is right -/
theorem rp_grow {α : Type} (R xs vs : List α) (n i j m cap : Nat) (hij : i ≤ j) (hj : j ≤ n) (hc : i + m + (n - j) ≤ cap) (hl : R.length = cap * 8) (hxl : xs.length = n * 8) (hx : R.take (i * 8) = xs.take (i * 8)) (hv : vs.length = m * 8) (A : List α)
    (hA : A = R.take (i * 8) ++ vs ++ R.drop (i * 8 + vs.length)) (B : List α) (hB : B = A.take ((i + m) * 8) ++ xs.drop (j * 8) ++ A.drop ((i + m) * 8 + (xs.drop (j * 8)).length)) :
    A.length = cap * 8 ∧ B.length = cap * 8 ∧ B.take ((i + m + (n - j)) * 8) = xs.take (i * 8) ++ vs ++ xs.drop (j * 8) := by
  have hdl := rp_len xs n j hj hxl
  have hAl : A.length = cap * 8 := by rw [hA]; simp only [List.length_append, List.length_take, List.length_drop, hl, hv]; omega
  have h1 : A.take ((i + m) * 8) = xs.take (i * 8) ++ vs := by
    rw [hA, hx]
    apply List.take_left'
    simp only [List.length_append, List.length_take, hxl, hv]; omega
  refine ⟨hAl, ?_, ?_⟩
  · rw [hB]; simp only [List.length_append, List.length_take, List.length_drop, hAl, hdl]; omega
  · rw [hB, h1]
    apply List.take_left'
    simp only [List.length_append, List.length_take, hdl, hxl, hv]; omega
/-- what is behind, then v -/
theorem rp_room {α : Type} (cur xs vs : List α) (n i j m cap : Nat) (hij : i ≤ j) (hj : j ≤ n) (hn : n ≤ cap) (hc : i + m + (n - j) ≤ cap) (hl : cur.length = cap * 8) (hx : cur.take (n * 8) = xs) (hv : vs.length = m * 8) (A : List α)
    (hA : A = cur.take ((i + m) * 8) ++ xs.drop (j * 8) ++ cur.drop ((i + m) * 8 + (xs.drop (j * 8)).length)) (B : List α) (hB : B = A.take (i * 8) ++ vs ++ A.drop (i * 8 + vs.length)) :
    A.length = cap * 8 ∧ B.length = cap * 8 ∧ B.take ((i + m + (n - j)) * 8) = xs.take (i * 8) ++ vs ++ xs.drop (j * 8) := by
  have hxl : xs.length = n * 8 := by rw [← hx, List.length_take]; omega
  have hdl := rp_len xs n j hj hxl
  have hAl : A.length = cap * 8 := by rw [hA]; simp only [List.length_append, List.length_take, List.length_drop, hl, hdl]; omega
  have h1 : A.take (i * 8) = xs.take (i * 8) := by
    rw [hA, ← hx, List.append_assoc, List.take_append_of_le_length (by rw [List.length_take]; omega), List.take_take, List.take_take]
    congr 1; omega
  have h2 : A.drop (i * 8 + vs.length) = xs.drop (j * 8) ++ cur.drop ((i + m) * 8 + (xs.drop (j * 8)).length) := by
    rw [hA, List.append_assoc, List.drop_left' (by rw [List.length_take, hv]; omega)]
  refine ⟨hAl, ?_, ?_⟩
  · rw [hB]; simp only [List.length_append, List.length_take, List.length_drop, hAl, hv]; omega
  · rw [hB, h1, h2, ← List.append_assoc]
    apply List.take_left'
    simp only [List.length_append, List.length_take, hdl, hxl, hv]; omega
/-- what stays ahead of a place is as it was -/
theorem rp_keep {α : Type} (cur vs : List α) (o : Nat) (j : Nat) (h : o + vs.length ≤ j) (ho : o ≤ cur.length) : (cur.take o ++ vs ++ cur.drop (o + vs.length))[j]? = cur[j]? := by
  rw [List.getElem?_append_right (by simp only [List.length_append, List.length_take]; omega), List.getElem?_drop]
  congr 1
  simp only [List.length_append, List.length_take]
  omega
theorem rp_keepL {α : Type} (cur vs : List α) (o : Nat) (n : Nat) (h : n ≤ o) (ho : o ≤ cur.length) : (cur.take o ++ vs ++ cur.drop (o + vs.length)).take n = cur.take n := by
  rw [List.append_assoc, List.take_append_of_le_length (by rw [List.length_take]; omega), List.take_take]
  congr 1; omega
abbrev z8 : Value := .agg #[.int .i64 0, .int .i64 0, .bool false, .int .i64 0, .int .i64 0, .int .i64 0, .int .i64 0, .int .i64 0]
theorem Tryz.infoF8 : (Tryz.prog.info? 112).map (fun i => (i.zero, i.size, i.bytes)) = some (some z8, 8, 64) := by kernel_rfl
theorem Tryz.szF8 : (Tryz.prog.info? 112).map (·.size) = some 8 := by kernel_rfl
theorem Tryz.zvF8 (w : World) : (zeroValue 112).run Tryz.prog w = .ok z8 w := by kernel_rfl
/-- n zero elements -/
def zs8 (n : Nat) : List Value := (Builtin.zeroCells z8.cells n).toList
theorem zs8_len (n : Nat) : (zs8 n).length = n * 8 := by unfold zs8; rw [Array.length_toList, size_zeroCells]; rfl
theorem zs8_one (n : Nat) : ∀ v ∈ zs8 n, v.oneCell' = true := by
  intro v hv
  unfold zs8 Builtin.zeroCells at hv
  rw [Array.mem_toList_iff, Array.mem_map] at hv
  obtain ⟨i, _, rfl⟩ := hv
  have h : ∀ q, q < 8 → (z8.cells[q]!).oneCell' = true := by
    intro q hq
    rcases (by omega : q = 0 ∨ q = 1 ∨ q = 2 ∨ q = 3 ∨ q = 4 ∨ q = 5 ∨ q = 6 ∨ q = 7) with rfl | rfl | rfl | rfl | rfl | rfl | rfl | rfl <;> rfl
  exact h _ (Nat.mod_lt _ (by decide))
theorem run_clear8 (w : World) (g o n c : Nat) (cur : Array Value) (hg : w.heap[g]? = some (.cells cur 112 (0, 0))) (hfit : o + n * 8 ≤ cur.size) (hn : 0 < n) (ty : TypeId) :
    (Builtin.clear_ #[68] ty #[.slice (some ⟨g, o, none⟩) n c]).run Tryz.prog w = .ok (.tuple #[]) (w.setRow g (cur.toList.take o ++ zs8 n ++ cur.toList.drop (o + (zs8 n).length)).toArray) := by
  have hst := run_storeCells_at Tryz.prog g o 112 (zs8 n) 0 cur w hg (by rw [zs8_len]; omega) (zs8_one n)
  simp only [Nat.add_zero] at hst
  have hz : (Builtin.zeroCells z8.cells n).toList = zs8 n := rfl
  obtain ⟨m, rfl⟩ : ∃ m, n = m + 1 := ⟨n - 1, by omega⟩
  simp [Builtin.clear_, run_underlying Tryz.underlying68, hz, hst]
end Go.Proofs.YtngkiokibldfjaaGreatDoor
namespace Go.Proofs.YtngkiokibldfjaaGreatDoor
open Go.RowKit
set_option linter.unusedVariables false
/-! What slices.Insert and slices.Replace do to rows of filed frames. -/
theorem nmin_r {a b : Nat} (h : b ≤ a) : Nat.min a b = b := Nat.min_eq_right h
theorem nmin_l {a b : Nat} (h : a ≤ b) : Nat.min a b = a := Nat.min_eq_left h
theorem own_parts {w : World} {base g n cap : Nat} {t : TypeId} {xs : List Value} (h : w.ownsRow base t 8 (.slice (some ⟨g, 0, none⟩) n cap) n xs) : ∃ cur : Array Value, base ≤ g ∧ w.heap[g]? = some (.cells cur t (0, 0)) ∧ n ≤ cap ∧ cap ≤ maxLen ∧ cur.toList.length = cap * 8 ∧ cur.toList.take (n * 8) = xs ∧ xs.length = n * 8 := by
  rcases h.2 with ⟨h', _⟩ | ⟨g', cap', cur, h', hb, hg, hnc, hcm, hcs, htake⟩
  · simp at h'
  · simp only [Value.slice.injEq, Option.some.injEq, Addr.mk.injEq, and_true, true_and] at h'
    obtain ⟨rfl, rfl⟩ := h'
    exact ⟨cur, hb, hg, hnc, hcm, by simpa using hcs, htake, h.1⟩
theorem own_cl {w : World} {base g n cap : Nat} {t : TypeId} {xs : List Value} (h : w.ownsRow base t 8 (.slice (some ⟨g, 0, none⟩) n cap) n xs) (j : Nat) (v : Value) (hj : xs[j]? = some v) : w.cell? ⟨g, j, none⟩ = some v := by
  have := h.cells (g := g) rfl j v hj
  rwa [Addr.add_lit, Nat.zero_add] at this
/-- the row with other cells, of which the first are these -/
theorem own_made {W : World} {base g n cap : Nat} {t : TypeId} {cur : Array Value} {B xs : List Value} (hg : W.heap[g]? = some (.cells cur t (0, 0))) (hb : base ≤ g) (hn : n ≤ cap) (hm : cap ≤ maxLen) (hl : B.length = cap * 8) (ht : B.take (n * 8) = xs) (hx : xs.length = n * 8) : (W.setRow g B.toArray).ownsRow base t 8 (.slice (some ⟨g, 0, none⟩) n cap) n xs :=
  ⟨hx, .inr ⟨g, cap, B.toArray, rfl, hb, setRow_heap W g cur B.toArray _ _ hg, hn, hm, by simpa using hl, by simpa using ht⟩⟩
theorem grow_none {w W : World} {g : Nat} {c : Array Value} (h : w.grownBy W none) (hg : w.heap.size ≤ g) : w.grownBy (W.setRow g c) none := by
  have q := setRow_grown W g c
  exact ⟨q.os.trans h.os, q.tape.trans h.tape, q.output.trans h.output, Nat.le_trans h.size q.size, fun k hk _ => (q.block k (Nat.lt_of_lt_of_le hk h.size) (fun e => by have := Option.some.inj e; omega)).trans (h.block k hk (by simp))⟩
/-- no room: a new row -/
theorem rp_growF (base bv g n cap i j m vb cv T : Nat) (xs vs : List Value) (hij : i ≤ j) (hj : j < n) (hT : T = i + m + (n - j)) (hm0 : 0 < m) (hn : n ≤ 1048576) (hm : m ≤ 1048576) (hgrow : cap < T) (w : World) (hbase : base ≤ w.heap.size)
    (hown : w.ownsRow base 112 8 (.slice (some ⟨g, 0, none⟩) n cap) n xs) (hv : w.ownsRow bv 112 8 (.slice (some ⟨vb, 0, none⟩) m cv) m vs) (h1x : ∀ v ∈ xs, v.oneCell' = true) (h1v : ∀ v ∈ vs, v.oneCell' = true) :
    ∃ (G : Nat) (W1 W2 W3 : World), T ≤ G ∧ G ≤ 9223372036854775807 ∧
      (Builtin.append_ #[68, 3] 68 #[.slice (some ⟨g, 0, none⟩) i cap, .int .i64 ((T - i : Nat) : Int)]).run Tryz.prog w = .ok (.slice (some ⟨w.heap.size, 0, none⟩) T G) W1 ∧
      (∀ ty dc, (Builtin.copy_ #[68, 68] ty #[.slice (some ⟨w.heap.size, i * 8, none⟩) (T - i) dc, .slice (some ⟨vb, 0, none⟩) m cv]).run Tryz.prog W1 = .ok (goInt m) W2) ∧
      (∀ ty dc sc, (Builtin.copy_ #[68, 68] ty #[.slice (some ⟨w.heap.size, (i + m) * 8, none⟩) (T - (i + m)) dc, .slice (some ⟨g, j * 8, none⟩) (n - j) sc]).run Tryz.prog W2.drew = .ok (goInt ((n - j : Nat) : Int)) W3) ∧
      W3.ownsRow base 112 8 (.slice (some ⟨w.heap.size, 0, none⟩) T G) T (xs.take (i * 8) ++ vs ++ xs.drop (j * 8)) ∧ w.grownBy W3 none := by
  obtain ⟨cur, hb, hg, hnc, hcm, hcl, htk, hxl⟩ := own_parts hown
  obtain ⟨curv, _, hgv, _, _, _, _, hvl⟩ := own_parts hv
  have hgl : g < w.heap.size := (Array.getElem?_eq_some_iff.1 hg).1
  have hvlt : vb < w.heap.size := (Array.getElem?_eq_some_iff.1 hgv).1
  obtain ⟨i0, hi0, hz0, hz1, hz2⟩ := info_parts Tryz.infoF8
  have hdl := rp_len xs n j (by omega) hxl
  have hold : (Builtin.firstCells i0.size i (.slice (some ⟨g, 0, none⟩) i cap)).run Tryz.prog w.drew = .ok (xs.take (i * 8)).toArray w.drew := by
    rw [hz1]
    exact run_firstCells_some w.drew 8 i ⟨g, 0, none⟩ i cap (xs.take (i * 8)) (by rw [List.length_take]; omega) (fun k v hk => by
      rw [Addr.add_lit, Nat.zero_add]
      rw [List.getElem?_take] at hk
      split at hk
      · exact own_cl hown k v hk
      · cases hk)
  have hrz := Lib.run_append_grow_zeros w 68 3 68 112 i0 _ .i64 .i64 Tryz.underlying68 Tryz.underlying3 hi0 hz0 (some ⟨g, 0, none⟩) i cap (xs.take (i * 8)) hold (T - i) (by omega) (by omega) (by omega) (by omega) (by rw [hz2]; omega) (by rw [hz2]; exact growslice_fits (by omega) (by omega))
  rw [show i + (T - i) = T by omega] at hrz
  have hGn := grownCap_ge w T cap 112
  have hGm := grownCap_le_maxLen w T cap 112 (by unfold maxLen; omega)
  obtain ⟨G, hG⟩ : ∃ G, G = grownCap w T cap 112 := ⟨_, rfl⟩
  rw [← hG] at hrz hGn hGm
  obtain ⟨R, hR⟩ : ∃ R : Array Value, R = (xs.take (i * 8)).toArray ++ Builtin.zeroCells z8.cells (T - i) ++ Builtin.zeroCells z8.cells (G - T) := ⟨_, rfl⟩
  rw [← hR] at hrz
  have hRl : R.toList.length = G * 8 := by
    rw [hR]
    simp [Builtin.zeroCells, Value.cells, hxl]
    omega
  have hRx : R.toList.take (i * 8) = xs.take (i * 8) := by
    rw [hR, Array.toList_append, Array.toList_append, List.append_assoc]
    apply List.take_left'
    simp [hxl]; omega
  obtain ⟨A, hA⟩ : ∃ A, A = R.toList.take (i * 8) ++ vs ++ R.toList.drop (i * 8 + vs.length) := ⟨_, rfl⟩
  obtain ⟨B, hB⟩ : ∃ B, B = A.take ((i + m) * 8) ++ xs.drop (j * 8) ++ A.drop ((i + m) * 8 + (xs.drop (j * 8)).length) := ⟨_, rfl⟩
  obtain ⟨hAl, hBl, hBt⟩ := rp_grow R.toList xs vs n i j m G hij (by omega) (by omega) hRl hxl hRx hvl A hA B hB
  obtain ⟨W1, hW1⟩ : ∃ W1, W1 = w.drew.alloc (.cells R 112) := ⟨_, rfl⟩
  rw [← hW1] at hrz
  have R1 : RowAt W1 w.heap.size 112 R := by rw [hW1]; exact RowAt.new w.drew _ _
  have G1 : w.grownBy W1 none := by rw [hW1]; exact grown_trans (drew_grown w _) (World.grownBy_alloc _ _ _)
  have hc1 : ∀ ty dc, (Builtin.copy_ #[68, 68] ty #[.slice (some ⟨w.heap.size, i * 8, none⟩) (T - i) dc, .slice (some ⟨vb, 0, none⟩) m cv]).run Tryz.prog W1 = .ok (goInt m) (W1.setRow w.heap.size A.toArray) := fun ty dc => by
    have := run_copyK (P := Tryz.prog) W1 68 68 ty 112 8 w.heap.size (i * 8) (T - i) dc ⟨vb, 0, none⟩ m cv R 112 vs Tryz.underlying68 Tryz.szF8 R1
      (by rw [hvl, nmin_l (by omega)])
      (fun k v hk => by rw [Addr.add_lit, Nat.zero_add]; exact G1.cell (own_cl hv k v hk) (by simp)) (by rw [← Array.length_toList, hRl]; omega) h1v
    rw [this, ← hA]
    rw [nmin_l (by omega)]
  obtain ⟨W2, hW2⟩ : ∃ W2, W2 = W1.setRow w.heap.size A.toArray := ⟨_, rfl⟩
  rw [← hW2] at hc1
  have R2 : RowAt W2 w.heap.size 112 A.toArray := by rw [hW2]; exact R1.setRow _
  have G2 : w.grownBy W2 none := by rw [hW2]; exact grow_none G1 (Nat.le_refl _)
  have hc2 : ∀ ty dc sc, (Builtin.copy_ #[68, 68] ty #[.slice (some ⟨w.heap.size, (i + m) * 8, none⟩) (T - (i + m)) dc, .slice (some ⟨g, j * 8, none⟩) (n - j) sc]).run Tryz.prog W2.drew = .ok (goInt ((n - j : Nat) : Int)) (W2.drew.setRow w.heap.size B.toArray) := fun ty dc sc => by
    have := run_copyK (P := Tryz.prog) W2.drew 68 68 ty 112 8 w.heap.size ((i + m) * 8) (T - (i + m)) dc ⟨g, j * 8, none⟩ (n - j) sc A.toArray 112 (xs.drop (j * 8)) Tryz.underlying68 Tryz.szF8 R2
      (by rw [hdl, nmin_l (by omega)])
      (fun k v hk => by rw [Addr.add_lit]; exact G2.cell (own_cl hown _ v (by rwa [List.getElem?_drop] at hk)) (by simp)) (by rw [List.size_toArray, hAl, hdl]; omega) (fun v hv => h1x v (List.mem_of_mem_drop hv))
    rw [this, List.toList_toArray, ← hB]
    rw [nmin_l (by omega)]
  have sl : (xs.take (i * 8) ++ vs ++ xs.drop (j * 8)).length = T * 8 := by simp only [List.length_append, List.length_take, hdl, hxl, hvl]; omega
  exact ⟨G, W1, W2, W2.drew.setRow w.heap.size B.toArray, hGn, by unfold maxLen at hGm; omega, hrz, hc1, hc2, own_made (W := W2.drew) R2 hbase hGn hGm hBl (by rw [hT]; exact hBt) sl, grow_none (w := w) (W := W2.drew) (grown_trans G2 (drew_grown _ _)) (Nat.le_refl _)⟩
/-- room: what is behind is moved, then the new ones are put -/
theorem rp_roomF (base bv g n cap i j m vb cv T : Nat) (xs vs : List Value) (hij : i ≤ j) (hj : j < n) (hT : T = i + m + (n - j)) (hm0 : 0 < m) (hroom : T ≤ cap) (w : World) (hne : vb ≠ g)
    (hown : w.ownsRow base 112 8 (.slice (some ⟨g, 0, none⟩) n cap) n xs) (hv : w.ownsRow bv 112 8 (.slice (some ⟨vb, 0, none⟩) m cv) m vs) (h1x : ∀ v ∈ xs, v.oneCell' = true) (h1v : ∀ v ∈ vs, v.oneCell' = true) :
    ∃ (W1 W2 : World),
      (∀ lb cb, (callFunc 84 #[.slice (some ⟨vb, 0, none⟩) m cv, .slice (some ⟨g, (i + m) * 8, none⟩) lb cb]).run Tryz.prog w = .ok (.value (.bool false)) w) ∧
      (∀ lb cb, (callFunc 84 #[.slice (some ⟨g, (i + m) * 8, none⟩) lb cb, .slice (some ⟨vb, 0, none⟩) m cv]).run Tryz.prog w = .ok (.value (.bool false)) w) ∧
      (∀ ty dc L sc, n - j ≤ L → (Builtin.copy_ #[68, 68] ty #[.slice (some ⟨g, (i + m) * 8, none⟩) (n - j) dc, .slice (some ⟨g, j * 8, none⟩) L sc]).run Tryz.prog w.drew = .ok (goInt ((n - j : Nat) : Int)) W1) ∧
      (∀ ty DL dc, m ≤ DL → (Builtin.copy_ #[68, 68] ty #[.slice (some ⟨g, i * 8, none⟩) DL dc, .slice (some ⟨vb, 0, none⟩) m cv]).run Tryz.prog W1 = .ok (goInt m) W2) ∧
      W2.ownsRow base 112 8 (.slice (some ⟨g, 0, none⟩) T cap) T (xs.take (i * 8) ++ vs ++ xs.drop (j * 8)) ∧ w.grownBy W2 (some g) := by
  obtain ⟨cur, hb, hg, hnc, hcm, hcl, htk, hxl⟩ := own_parts hown
  obtain ⟨curv, _, hgv, _, hcmv, hclv, _, hvl⟩ := own_parts hv
  have hvlt : vb < w.heap.size := (Array.getElem?_eq_some_iff.1 hgv).1
  have hcs : cur.size = cap * 8 := by rw [← Array.length_toList]; exact hcl
  have hcsv : curv.size = cv * 8 := by rw [← Array.length_toList]; exact hclv
  have hcv : m ≤ cv := by have := (own_parts hv); obtain ⟨_, _, _, q, _⟩ := this; exact q
  have hdl := rp_len xs n j (by omega) hxl
  obtain ⟨A, hA⟩ : ∃ A, A = cur.toList.take ((i + m) * 8) ++ xs.drop (j * 8) ++ cur.toList.drop ((i + m) * 8 + (xs.drop (j * 8)).length) := ⟨_, rfl⟩
  obtain ⟨B, hB⟩ : ∃ B, B = A.take (i * 8) ++ vs ++ A.drop (i * 8 + vs.length) := ⟨_, rfl⟩
  obtain ⟨hAl, hBl, hBt⟩ := rp_room cur.toList xs vs n i j m cap hij (by omega) hnc (by omega) hcl htk hvl A hA B hB
  have fz : ∀ {b : Nat} {c : Array Value} {k : Nat}, w.heap[b]? = some (.cells c 112 (0, 0)) → w.frozen? ⟨b, k, none⟩ = false := fun {b c k} h => (show RowAt w b 112 c from h).free k
  have hov : ∀ lb cb, (callFunc 84 #[.slice (some ⟨vb, 0, none⟩) m cv, .slice (some ⟨g, (i + m) * 8, none⟩) lb cb]).run Tryz.prog w = .ok (.value (.bool false)) w := fun lb cb => by
    rw [run_callFunc_extern Tryz.func84 (by kernel_rfl) (by kernel_rfl) (by kernel_rfl) (e := Extern.SlicesOverlaps.overlaps #[68, 68] #[4]) (by kernel_rfl),
      Lib.run_overlaps_apart w 68 4 112 Tryz.underlying68 8 Tryz.sizeOf112 ⟨vb, 0, none⟩ ⟨g, (i + m) * 8, none⟩ m cv lb cb hne 112 112 (cv * 8) (cap * 8)
        (by unfold World.shape?; rw [hgv]; simp [hcsv]) (by unfold World.shape?; rw [hg]; simp [hcs]) (by omega) (fz hgv) (fz hgv)]
    rfl
  have hov2 : ∀ lb cb, (callFunc 84 #[.slice (some ⟨g, (i + m) * 8, none⟩) lb cb, .slice (some ⟨vb, 0, none⟩) m cv]).run Tryz.prog w = .ok (.value (.bool false)) w := fun lb cb => by
    rw [run_callFunc_extern Tryz.func84 (by kernel_rfl) (by kernel_rfl) (by kernel_rfl) (e := Extern.SlicesOverlaps.overlaps #[68, 68] #[4]) (by kernel_rfl),
      Lib.run_overlaps_apart w 68 4 112 Tryz.underlying68 8 Tryz.sizeOf112 ⟨g, (i + m) * 8, none⟩ ⟨vb, 0, none⟩ lb cb m cv hne.symm 112 112 (cap * 8) (cv * 8)
        (by unfold World.shape?; rw [hg]; simp [hcs]) (by unfold World.shape?; rw [hgv]; simp [hcsv]) (by omega) (fz hg) (fz hg)]
    rfl
  have hc1 : ∀ ty dc L sc, n - j ≤ L → (Builtin.copy_ #[68, 68] ty #[.slice (some ⟨g, (i + m) * 8, none⟩) (n - j) dc, .slice (some ⟨g, j * 8, none⟩) L sc]).run Tryz.prog w.drew = .ok (goInt ((n - j : Nat) : Int)) (w.drew.setRow g A.toArray) := fun ty dc L sc hL => by
    have := run_copyK (P := Tryz.prog) w.drew 68 68 ty 112 8 g ((i + m) * 8) (n - j) dc ⟨g, j * 8, none⟩ L sc cur 112 (xs.drop (j * 8)) Tryz.underlying68 Tryz.szF8 hg
      (by rw [hdl, nmin_r (by omega)])
      (fun k v hk => by rw [Addr.add_lit]; exact own_cl hown _ v (by rwa [List.getElem?_drop] at hk)) (by rw [hdl, hcs]; omega) (fun v hv => h1x v (List.mem_of_mem_drop hv))
    rw [this, ← hA]
    rw [nmin_r (by omega)]
  obtain ⟨W1, hW1⟩ : ∃ W1, W1 = w.drew.setRow g A.toArray := ⟨_, rfl⟩
  rw [← hW1] at hc1
  have hg1 : W1.heap[g]? = some (.cells A.toArray 112 (0, 0)) := by rw [hW1]; exact setRow_heap w.drew g cur A.toArray _ _ hg
  have G1 : w.grownBy W1 (some g) := by rw [hW1]; exact grown_trans (drew_grown w _) (setRow_grown _ _ _)
  have hc2 : ∀ ty DL dc, m ≤ DL → (Builtin.copy_ #[68, 68] ty #[.slice (some ⟨g, i * 8, none⟩) DL dc, .slice (some ⟨vb, 0, none⟩) m cv]).run Tryz.prog W1 = .ok (goInt m) (W1.setRow g B.toArray) := fun ty DL dc hD => by
    have := run_copyK (P := Tryz.prog) W1 68 68 ty 112 8 g (i * 8) DL dc ⟨vb, 0, none⟩ m cv A.toArray 112 vs Tryz.underlying68 Tryz.szF8 hg1
      (by rw [hvl, nmin_l (by omega)])
      (fun k v hk => by rw [Addr.add_lit, Nat.zero_add]; exact G1.cell (own_cl hv k v hk) (fun e => hne (Option.some.inj e))) (by rw [List.size_toArray, hAl]; omega) h1v
    rw [this, List.toList_toArray, ← hB]
    rw [nmin_l (by omega)]
  have sl : (xs.take (i * 8) ++ vs ++ xs.drop (j * 8)).length = T * 8 := by simp only [List.length_append, List.length_take, hdl, hxl, hvl]; omega
  exact ⟨W1, W1.setRow g B.toArray, hov, hov2, hc1, hc2, own_made hg1 hb hroom hcm hBl (by rw [hT]; exact hBt) sl, grown_trans G1 (setRow_grown _ _ _)⟩
/-- the new ones are put, then what is behind is moved down -/
theorem rp_easyF (base bv g n cap i j m vb cv T : Nat) (xs vs : List Value) (hij : i + m ≤ j) (hj : j < n) (hT : T = i + m + (n - j)) (hm0 : 0 < m) (w : World) (hne : vb ≠ g)
    (hown : w.ownsRow base 112 8 (.slice (some ⟨g, 0, none⟩) n cap) n xs) (hv : w.ownsRow bv 112 8 (.slice (some ⟨vb, 0, none⟩) m cv) m vs) (h1x : ∀ v ∈ xs, v.oneCell' = true) (h1v : ∀ v ∈ vs, v.oneCell' = true) :
    ∃ (W1 W2 : World),
      (∀ ty DL dc, m ≤ DL → (Builtin.copy_ #[68, 68] ty #[.slice (some ⟨g, i * 8, none⟩) DL dc, .slice (some ⟨vb, 0, none⟩) m cv]).run Tryz.prog w = .ok (goInt m) W1) ∧
      (∀ ty dc sc, (Builtin.copy_ #[68, 68] ty #[.slice (some ⟨g, (i + m) * 8, none⟩) (n - j) dc, .slice (some ⟨g, j * 8, none⟩) (n - j) sc]).run Tryz.prog W1.drew = .ok (goInt ((n - j : Nat) : Int)) W2) ∧
      (∃ cB : Array Value, W2.heap[g]? = some (.cells cB 112 (0, 0)) ∧ cB.toList.length = cap * 8 ∧ cB.toList.take (T * 8) = xs.take (i * 8) ++ vs ++ xs.drop (j * 8)) ∧ w.grownBy W2 (some g) := by
  obtain ⟨cur, hb, hg, hnc, hcm, hcl, htk, hxl⟩ := own_parts hown
  obtain ⟨curv, _, hgv, _, hcmv, hclv, _, hvl⟩ := own_parts hv
  have hcs : cur.size = cap * 8 := by rw [← Array.length_toList]; exact hcl
  have hdl := rp_len xs n j (by omega) hxl
  have hx : cur.toList.take (i * 8) = xs.take (i * 8) := by rw [← htk, List.take_take]; congr 1; omega
  obtain ⟨A, hA⟩ : ∃ A, A = cur.toList.take (i * 8) ++ vs ++ cur.toList.drop (i * 8 + vs.length) := ⟨_, rfl⟩
  obtain ⟨B, hB⟩ : ∃ B, B = A.take ((i + m) * 8) ++ xs.drop (j * 8) ++ A.drop ((i + m) * 8 + (xs.drop (j * 8)).length) := ⟨_, rfl⟩
  obtain ⟨hAl, hBl, hBt⟩ := rp_grow cur.toList xs vs n i j m cap (by omega) (by omega) (by omega) hcl hxl hx hvl A hA B hB
  have hc1 : ∀ ty DL dc, m ≤ DL → (Builtin.copy_ #[68, 68] ty #[.slice (some ⟨g, i * 8, none⟩) DL dc, .slice (some ⟨vb, 0, none⟩) m cv]).run Tryz.prog w = .ok (goInt m) (w.setRow g A.toArray) := fun ty DL dc hD => by
    have := run_copyK (P := Tryz.prog) w 68 68 ty 112 8 g (i * 8) DL dc ⟨vb, 0, none⟩ m cv cur 112 vs Tryz.underlying68 Tryz.szF8 hg
      (by rw [hvl, nmin_l (by omega)])
      (fun k v hk => by rw [Addr.add_lit, Nat.zero_add]; exact own_cl hv k v hk) (by rw [hcs]; omega) h1v
    rw [this, ← hA]
    rw [nmin_l (by omega)]
  obtain ⟨W1, hW1⟩ : ∃ W1, W1 = w.setRow g A.toArray := ⟨_, rfl⟩
  rw [← hW1] at hc1
  have hg1 : W1.heap[g]? = some (.cells A.toArray 112 (0, 0)) := by rw [hW1]; exact setRow_heap w g cur A.toArray _ _ hg
  have G1 : w.grownBy W1 (some g) := by rw [hW1]; exact setRow_grown _ _ _
  have src : ∀ k v, (xs.drop (j * 8))[k]? = some v → W1.drew.cell? ⟨g, j * 8 + k, none⟩ = some v := fun k v hk => by
    rw [List.getElem?_drop] at hk
    have hR : RowAt W1.drew g 112 A.toArray := (show RowAt W1 g 112 A.toArray from hg1).drew
    have hlt : j * 8 + k < n * 8 := by have := (List.getElem?_eq_some_iff.1 hk).1; omega
    rw [hR.cell, List.getElem?_toArray, hA, rp_keep _ _ _ _ (by omega) (by omega), ← hk, ← htk, List.getElem?_take_of_lt hlt]
  have hc2 : ∀ ty dc sc, (Builtin.copy_ #[68, 68] ty #[.slice (some ⟨g, (i + m) * 8, none⟩) (n - j) dc, .slice (some ⟨g, j * 8, none⟩) (n - j) sc]).run Tryz.prog W1.drew = .ok (goInt ((n - j : Nat) : Int)) (W1.drew.setRow g B.toArray) := fun ty dc sc => by
    have := run_copyK (P := Tryz.prog) W1.drew 68 68 ty 112 8 g ((i + m) * 8) (n - j) dc ⟨g, j * 8, none⟩ (n - j) sc A.toArray 112 (xs.drop (j * 8)) Tryz.underlying68 Tryz.szF8 hg1
      (by rw [hdl, nmin_l (by omega)])
      (fun k v hk => by rw [Addr.add_lit]; exact src k v hk) (by rw [List.size_toArray, hAl, hdl]; omega) (fun v hv => h1x v (List.mem_of_mem_drop hv))
    rw [this, List.toList_toArray, ← hB]
    rw [nmin_l (by omega)]
  refine ⟨W1, W1.drew.setRow g B.toArray, hc1, hc2, ⟨B.toArray, setRow_heap W1.drew g A.toArray B.toArray _ _ hg1, by simpa using hBl, by rw [hT]; simpa using hBt⟩, grown_trans (grown_trans G1 (drew_grown _ _)) (setRow_grown _ _ _)⟩
end Go.Proofs.YtngkiokibldfjaaGreatDoor
