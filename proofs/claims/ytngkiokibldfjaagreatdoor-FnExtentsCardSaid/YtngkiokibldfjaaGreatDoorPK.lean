import Derived.Test.YtngkiokibldfjaaGreatDoorPJ
import Derived.Test.YtngkiokibldfjaaGreatDoorPA
import Derived.Lib.ConvBytes
import Derived.Lib.FrozenHead
namespace Go.Proofs.YtngkiokibldfjaaGreatDoor
open Go.RowKit
set_option linter.unusedVariables false
/-! Bytes that a call owns, also behind a conversion from a text: that row bears a mark behind its last cell. -/
theorem freeT {w : World} {g j lo hi : Nat} {cur : Array Value} {t : TypeId} (hg : w.heap[g]? = some (.cells cur t (lo, hi))) (h : j < lo ∨ hi ≤ j) : w.frozen? ⟨g, j, none⟩ = false := by
  simp only [World.frozen?, hg, Bool.and_eq_false_iff, decide_eq_false_iff_not]
  omega
theorem storesT (P : Program) (g o : Nat) (t : TypeId) (lo hi : Nat) : ∀ (vs : List Value) (i : Nat) (cur : Array Value) (w : World), w.heap[g]? = some (.cells cur t (lo, hi)) → (cur.size ≤ lo ∨ hi ≤ lo) → o + i + vs.length ≤ cur.size → (∀ v ∈ vs, v.oneCell' = true) →
    (storeCells ⟨g, o, none⟩ vs i).run P w = .ok () (w.setRow g (cur.toList.take (o + i) ++ vs ++ cur.toList.drop (o + i + vs.length)).toArray) := by
  intro vs
  induction vs with
  | nil =>
    intro i cur w hg _ _ _
    have e : (cur.toList.take (o + i) ++ [] ++ cur.toList.drop (o + i + ([] : List Value).length)).toArray = cur := by simp
    rw [e, setRow_self w g cur t (lo, hi) hg]
    rfl
  | cons v rest ih =>
    intro i cur w hg hm hl h1
    simp only [List.length_cons] at hl
    have hi' : o + i < cur.size := by omega
    have hadd : (⟨g, o, none⟩ : Addr).add i = ⟨g, o + i, none⟩ := by unfold Addr.add; split <;> simp_all
    have hc : w.cell? ⟨g, o + i, none⟩ = some cur[o + i] := by simp [World.cell?, hg, hi']
    have hf := freeT (j := o + i) hg (by omega)
    have hst : (store ((⟨g, o, none⟩ : Addr).add i) v).run P w = .ok () (w.setRow g (cur.setIfInBounds (o + i) v)) := by
      rw [hadd, run_store P w _ v _ (h1 v (by simp)), hc]
      simp [hf, setCell_eq_setRow w g (o + i) cur t (lo, hi) v hg]
    have q := ih (i + 1) (cur.setIfInBounds (o + i) v) (w.setRow g (cur.setIfInBounds (o + i) v)) (setRow_heap w g cur _ t _ hg) (by simpa using hm) (by simp; omega) (fun x hx => h1 x (by simp [hx]))
    simp only [storeCells, Sem.run_bind, hst, Result.andThen_ok, q, setRow_setRow]
    congr 3
    have e := list_seg_step cur.toList (o + i) v rest (by simp; omega)
    simpa [Array.toList_setIfInBounds, Nat.add_assoc] using e
/-- the data, in a row of bytes that the call owns -/
def OwnB (w : World) (base : Nat) (v : Value) (d : ByteArray) : Prop :=
  (v = .slice none 0 0 ∧ d.size = 0) ∨ ∃ g cap cur lo hi, v = .slice (some ⟨g, 0, none⟩) d.size cap ∧ base ≤ g ∧ w.heap[g]? = some (.cells cur 5 (lo, hi)) ∧ (cur.size ≤ lo ∨ hi ≤ lo) ∧ d.size ≤ cap ∧ cap ≤ maxLen ∧ cur.size = cap ∧ cur.toList.take d.size = Lib.strCells d
theorem OwnB.of {w : World} {base : Nat} {v : Value} {d : ByteArray} (h : w.ownsRow base 5 1 v d.size (Lib.strCells d)) : OwnB w base v d := by
  rcases h.2 with ⟨h0, h1⟩ | ⟨g, cap, cur, he, hb, hr, hnc, hm, hsz, htk⟩
  · exact .inl ⟨h0, h1⟩
  · exact .inr ⟨g, cap, cur, 0, 0, he, hb, hr, .inr (Nat.le_refl _), hnc, hm, by omega, by simpa using htk⟩
theorem OwnB.row {w : World} {base : Nat} {v : Value} {d : ByteArray} (h : OwnB w base v d) {g : Nat} (hg : v.ownBlock = some g) : base ≤ g ∧ g < w.heap.size ∧ ∃ cur fz, w.heap[g]? = some (.cells cur 5 fz) := by
  rcases h with ⟨rfl, _⟩ | ⟨g', cap, cur, lo, hi, rfl, hb, hr, r⟩
  · cases hg
  · have e : g' = g := Option.some.inj hg
    subst e
    exact ⟨hb, (Array.getElem?_eq_some_iff.1 hr).1, cur, _, hr⟩
theorem OwnB.slice {w : World} {base : Nat} {v : Value} {d : ByteArray} (h : OwnB w base v d) : ∃ a c, v = .slice a d.size c := by
  rcases h with ⟨h0, h1⟩ | ⟨g, cap, cur, lo, hi, he, _⟩
  · exact ⟨none, 0, by rw [h0, h1]⟩
  · exact ⟨_, _, he⟩
theorem OwnB.keep {w w' : World} {base : Nat} {v : Value} {d : ByteArray} (h : OwnB w base v d) (hk : ∀ g, v.ownBlock = some g → w'.heap[g]? = w.heap[g]?) : OwnB w' base v d := by
  rcases h with h0 | ⟨g, cap, cur, lo, hi, he, hb, hr, r⟩
  · exact .inl h0
  · exact .inr ⟨g, cap, cur, lo, hi, he, hb, (hk g (by rw [he]; rfl)).trans hr, r⟩
theorem OwnB.below {w w' : World} {base : Nat} {v : Value} {d : ByteArray} (h : OwnB w base v d) (hb : Below w.heap.size w w') : OwnB w' base v d := h.keep fun g e => hb.block g (h.row e).2.1
theorem OwnB.baseUp {w : World} {B B' : Nat} {v : Value} {d : ByteArray} (h : OwnB w B v d) (hb : B' ≤ B) : OwnB w B' v d := by
  rcases h with h0 | ⟨g, cap, cur, lo, hi, he, hg, r⟩
  · exact .inl h0
  · exact .inr ⟨g, cap, cur, lo, hi, he, Nat.le_trans hb hg, r⟩
theorem OwnB.made0 (w : World) (B : Nat) (hb : B ≤ w.heap.size) : OwnB (w.alloc (.cells #[] 5)) B (.slice (some ⟨w.heap.size, 0, none⟩) 0 0) ByteArray.empty := OwnB.of (World.ownsRow_made w #[] 0 hb (by decide) rfl)
theorem OwnB.ne {w : World} {base X : Nat} {v : Value} {d : ByteArray} {t : TypeId} {cs : Array Value} (h : OwnB w base v d) (r : RowAt w X t cs) (ht : t ≠ 5) : v.ownBlock ≠ some X := fun e => by
  obtain ⟨_, _, cur, fz, q⟩ := h.row e
  have q2 := (show w.heap[X]? = _ from r).symm.trans q
  injection q2 with q2
  injection q2 with _ q2
  exact ht q2
theorem OwnB.setCell {w : World} {base X i : Nat} {v u : Value} {d : ByteArray} {t : TypeId} {cs : Array Value} (h : OwnB w base v d) (r : RowAt w X t cs) (ht : t ≠ 5) : OwnB (w.setCell ⟨X, i, none⟩ u) base v d := h.keep fun g e => (grown_set (w := w) (c := X) (u := u) (o := i)).block g (h.row e).2.1 fun q => h.ne r ht (by rw [e, q])
theorem OwnB.cap {w : World} {base : Nat} {a : Option Addr} {n c : Nat} {d : ByteArray} (h : OwnB w base (.slice a n c) d) : n = d.size ∧ d.size ≤ c := by
  rcases h with ⟨h0, h1⟩ | ⟨g, cap, cur, lo, hi, he, hb, hr, hm, hnc, _⟩
  · injection h0 with e1 e2 e3
    omega
  · injection he with e1 e2 e3
    omega
/-- a byte of it -/
theorem OwnB.at {w : World} {base : Nat} {a : Option Addr} {n c : Nat} {d : ByteArray} (h : OwnB w base (.slice a n c) d) {i : Nat} (hi : i < d.size) : ∃ g, a = some ⟨g, 0, none⟩ ∧ g < w.heap.size ∧ w.cell? ⟨g, i, none⟩ = some (.int .u8 (d[i].toNat : Nat)) ∧ w.frozen? ⟨g, i, none⟩ = false := by
  rcases h with ⟨_, h1⟩ | ⟨g, cap, cur, lo, hi2, he, hb, hr, hm, hnc, _, hsz, htk⟩
  · omega
  · injection he with e1 e2 e3
    subst e1
    refine ⟨g, rfl, (Array.getElem?_eq_some_iff.1 hr).1, ?_, freeT hr (by omega)⟩
    rw [cell_of_row w g i cur _ _ hr]
    have := congrArg (·[i]?) htk
    simp only [List.getElem?_take, if_pos hi, Lib.strCells, List.getElem?_map] at this
    rw [Array.getElem?_toList] at this
    rw [this, show d.data.toList[i]? = some d[i] by rw [List.getElem?_eq_getElem (by simpa using hi)]; rfl]
    rfl
/-- the row as a text -/
theorem OwnB.text {P : Program} {w : World} {base : Nat} {v : Value} {d : ByteArray} (h : OwnB w base v d) (src dst : TypeId) (hs : P.underlying src = some (.slice 5)) (he : P.underlying 5 = some (.int .u8)) (hd : P.underlying dst = some .string) :
    (convert src dst v).run P w = .ok (.string d) w := by
  obtain ⟨a, c, hv⟩ := h.slice
  subst hv
  rcases Nat.eq_zero_or_pos d.size with h0 | h0
  · have e : d = ⟨#[]⟩ := ByteArray.ext (Array.eq_empty_of_size_eq_zero h0)
    rcases h with ⟨h1, _⟩ | ⟨g, cap, cur, lo, hi, h1, hb, hr, _⟩
    · injection h1 with e1 e2 e3
      subst e1
      rw [h0, run_convert_bytes_string w src dst 5 none 0 c hs he hd, e]
      rfl
    · injection h1 with e1 e2 e3
      subst e1
      rw [run_convert_bytes_arg (P := P) w src 5 hs he g 0 d.size c [] (by rw [h0]; rfl) (fun i hi => by omega) dst hd, e]
      rfl
  · obtain ⟨g, rfl, _⟩ := h.at h0
    rw [run_convert_bytes_arg (P := P) w src 5 hs he g 0 d.size c (bytesI d) (bytesI_length d) (fun i hi => by
      have hi' : i < d.size := hi
      obtain ⟨g', e, _, q, _⟩ := h.at hi'
      cases e
      rw [Nat.zero_add, q]
      have e2 : (bytesI d).getD i 0 = (d[i].toNat : Int) := by
        unfold bytesI
        rw [List.getD_eq_getElem?_getD, List.getElem?_map, show d.data.toList[i]? = some d[i] by rw [List.getElem?_eq_getElem (by simpa using hi')]; rfl]
        rfl
      rw [e2]) dst hd, str_bytesI]
theorem strCells_app (a b : ByteArray) : Lib.strCells (a ++ b) = Lib.strCells a ++ Lib.strCells b := by
  unfold Lib.strCells
  rw [ByteArray.data_append, Array.toList_append, List.map_append]
/-- a text behind the data -/
theorem run_append_B {P : Program} (w : World) (base : Nat) (t u ty : TypeId) (i : TypeInfo) (ht : P.underlying t = some (.slice 5)) (hu : P.underlying u = some .string) (hi : P.info? 5 = some i) (hz : i.zero = some (.int .u8 0)) (hsize : i.size = 1) (hby : i.bytes = 1)
    (v : Value) (d s : ByteArray) (hown : OwnB w base v d) (h63 : d.size + s.size ≤ 17592186044414) (hbase : base ≤ w.heap.size) :
    ∃ v' w', (Builtin.append_ #[t, u] ty #[v, .string s]).run P w = .ok v' w' ∧ OwnB w' base v' (d ++ s) ∧ w.grownBy w' v.ownBlock := by
  have es := strCells_app d s
  have ez : (d ++ s).size = d.size + s.size := ByteArray.size_append
  have hxl : (Lib.strCells d).length = d.size := Lib.strCells_length d
  have h64 : d.size + s.size ≤ maxLen := by unfold maxLen; omega
  rcases hown with ⟨rfl, h0⟩ | ⟨g, cap, cur, lo, hi2, rfl, hbg, hg, hm, hnc, hcm, hcs, htake⟩
  · have e0 : d = ⟨#[]⟩ := ByteArray.ext (Array.eq_empty_of_size_eq_zero h0)
    subst e0
    obtain ⟨v', w', r1, r2, r3, _⟩ := Lib.run_append_own_string (P := P) w base t u ty 5 i ht hu hi hz hsize hby (.slice none 0 0) 0 [] (World.ownsRow_nil w base 5 1) s (by omega) (by omega) hbase
    refine ⟨v', w', r1, OwnB.of ?_, r3⟩
    rw [es, ez]
    exact r2
  · by_cases hroom : d.size + s.size ≤ cap
    · have hf := Lib.run_firstCells_string (P := P) w 1 s
      have hst := storesT P g d.size 5 lo hi2 (Lib.strCells s) 0 cur w hg hm (by rw [Lib.strCells_length]; omega) (Lib.strCells_oneCell s)
      simp only [Nat.add_zero, Lib.strCells_length] at hst
      have hr : (Builtin.append_ #[t, u] ty #[.slice (some ⟨g, 0, none⟩) d.size cap, .string s]).run P w = .ok (.slice (some ⟨g, 0, none⟩) (d.size + s.size) cap) (w.setRow g (cur.toList.take d.size ++ Lib.strCells s ++ cur.toList.drop (d.size + s.size)).toArray) := by
        simp [Builtin.append_, run_underlying ht, run_underlying hu, sizeOf, typeInfo, hi, hsize, Builtin.lenOf, hroom, hf, Addr.add_lit, hst]
      have hz2 : (cur.toList.take d.size ++ Lib.strCells s ++ cur.toList.drop (d.size + s.size)).toArray.size = cap := by
        simp only [List.size_toArray, List.length_append, List.length_take, List.length_drop, Array.length_toList, Lib.strCells_length]
        omega
      refine ⟨_, _, hr, .inr ⟨g, cap, _, lo, hi2, by rw [ez], hbg, setRow_heap w g cur _ _ _ hg, ?_, by rw [ez]; exact hroom, hcm, hz2, ?_⟩, ⟨rfl, rfl, rfl, by simp, fun k _ hk => Go.setRow_other w g k _ (fun e => hk (by simp [Value.ownBlock, e]))⟩⟩
      · rw [hz2]; rwa [hcs] at hm
      · rw [htake, es, ez]
        have : d.size + s.size = (Lib.strCells d ++ Lib.strCells s).length := by rw [List.length_append, Lib.strCells_length, Lib.strCells_length]
        rw [this]
        exact List.take_left
    · have holds : ∀ j q, (Lib.strCells d)[j]? = some q → w.cell? ((⟨g, 0, none⟩ : Addr).add j) = some q := fun j q hj => by
        have hadd : (⟨g, 0, none⟩ : Addr).add j = ⟨g, j, none⟩ := by unfold Addr.add; split <;> simp_all
        rw [hadd, cell_of_row w g j cur _ _ hg]
        rw [← htake, List.getElem?_take] at hj
        split at hj
        · simpa using hj
        · cases hj
      have hr := Lib.run_append_grow_string (P := P) w t u ty 5 i (.int .u8 0) ht hu hi hz ⟨g, 0, none⟩ d.size cap (Lib.strCells d) (by rw [hsize, hxl, Nat.mul_one]) holds s (by omega) (by omega) (by rw [hby]; exact growslice_fits (by omega) (by omega))
      have hge := grownCap_ge w (d.size + s.size) cap 5
      have hcm2 := grownCap_le_maxLen w (d.size + s.size) cap 5 h64
      refine ⟨_, _, hr, .inr ⟨w.heap.size, _, _, 0, 0, by rw [ez], hbase, heap_alloc_new w.drew _, .inr (Nat.le_refl _), by rw [ez]; exact hge, hcm2, ?_, ?_⟩, ⟨rfl, rfl, rfl, by simp, fun k hk _ => (World.grownBy_alloc w.drew _ none).block k hk (by simp)⟩⟩
      · have hz1 : (Value.int IntKind.u8 0).cells.size = 1 := rfl
        simp only [Array.size_append, List.size_toArray, size_zeroCells, hz1, hxl, Lib.strCells_length]
        omega
      · simp only [Array.toList_append, List.append_assoc]
        rw [← List.append_assoc, es, ez]
        have : d.size + s.size = (Lib.strCells d ++ Lib.strCells s).length := by rw [List.length_append, Lib.strCells_length, Lib.strCells_length]
        rw [this]
        exact List.take_left
theorem Tryz.infoB8 : (Tryz.prog.info? 5).map (fun i => (i.zero, i.size, i.bytes)) = some (some (.int .u8 0), 1, 1) := by kernel_rfl
theorem appendB {ops : Array Oper} {rest : List Oper} {o : Oper} {a : Act} {Q : Exit → Act → World → Prop} (base : Nat) (w : World) (hgd : o.guard = none) (s x : Operand)
    (ho : o.op = .call { callee := .builtin .append, args := #[s, x], argTypes := #[22, 9] })
    (v : Value) (d b : ByteArray) (hs : a.eval s = v) (hown : OwnB w base v d) (hbase : base ≤ w.heap.size) (hx : a.eval x = .string b) (hlen : d.size + b.size ≤ 17592186044414)
    (h : ∀ v' w', OwnB w' base v' (d ++ b) → w.grownBy w' v.ownBlock → wpList Tryz.prog ops Q rest (a.put o.dst v') w') : wpList Tryz.prog ops Q (o :: rest) a w := by
  obtain ⟨i0, hi, hz0, hz1, hz2⟩ := info_parts Tryz.infoB8
  refine wpList_plain hgd fun K hK => ?_
  obtain ⟨v', w', hr, h2, h3⟩ := run_append_B (P := Tryz.prog) w base 22 9 o.type i0 Tryz.underlying22 Tryz.underlying9 hi hz0 hz1 hz2 v d b hown hlen hbase
  unfold Oper.wp execOp
  simp only [ho, resolve, invoke, builtin, Sem.run_bind, Sem.run_pure, Result.andThen_ok, List.map_toArray, List.map_cons, List.map_nil, hs, hx, hr]
  exact hK _ _ (h v' w' h2 h3)
theorem step_appendB {ops : Array Oper} {o : Oper} {a : Act} {K : Act → World → Prop} {Q : Exit → Act → World → Prop} {E : Prop} (base : Nat) (w : World) (hgd : o.guard = none) (s x : Operand)
    (ho : o.op = .call { callee := .builtin .append, args := #[s, x], argTypes := #[22, 9] })
    (v : Value) (d b : ByteArray) (hs : a.eval s = v) (hown : OwnB w base v d) (hbase : base ≤ w.heap.size) (hx : a.eval x = .string b) (hlen : d.size + b.size ≤ 17592186044414)
    (h : ∀ v' w', OwnB w' base v' (d ++ b) → w.grownBy w' v.ownBlock → K (a.put o.dst v') w') : o.wp Tryz.prog a w K Q := by
  obtain ⟨i0, hi, hz0, hz1, hz2⟩ := info_parts Tryz.infoB8
  obtain ⟨v', w', hr, h2, h3⟩ := run_append_B (P := Tryz.prog) w base 22 9 o.type i0 Tryz.underlying22 Tryz.underlying9 hi hz0 hz1 hz2 v d b hown hlen hbase
  unfold Oper.wp execOp
  simp only [ho, resolve, invoke, builtin, Sem.run_bind, Sem.run_pure, Result.andThen_ok, List.map_toArray, List.map_cons, List.map_nil, hs, hx, hr]
  exact h v' w' h2 h3
/-- the first bytes of it -/
theorem OwnB.pre {w : World} {base : Nat} {a : Option Addr} {n c : Nat} {d : ByteArray} (h : OwnB w base (.slice a n c) d) (k : Nat) (hk : k ≤ d.size) : OwnB w base (.slice a k c) (d.extract 0 k) := by
  have sz : (d.extract 0 k).size = k := by rw [ByteArray.size_extract]; omega
  rcases h with ⟨h0, h1⟩ | ⟨g, cap, cur, lo, hi, he, hb, hr, hm, hnc, hc, hsz, htk⟩
  · injection h0 with e1 e2 e3
    subst e1 e2 e3
    obtain rfl : k = 0 := by omega
    exact .inl ⟨rfl, sz⟩
  · injection he with e1 e2 e3
    subst e1 e2 e3
    refine .inr ⟨g, c, cur, lo, hi, by rw [sz], hb, hr, hm, by omega, hc, hsz, ?_⟩
    rw [sz]
    have q := congrArg (List.take k) htk
    rw [List.take_take, Nat.min_eq_left hk] at q
    rw [q]
    unfold Lib.strCells
    rw [ByteArray.data_extract, ← List.map_take]
    simp
/-- a byte of it is set -/
theorem OwnB.put {w : World} {base : Nat} {g n c : Nat} {d : ByteArray} (h : OwnB w base (.slice (some ⟨g, 0, none⟩) n c) d) (i : Nat) (hi : i < d.size) (x : UInt8) : OwnB (w.setCell ⟨g, i, none⟩ (.int .u8 (x.toNat : Nat))) base (.slice (some ⟨g, 0, none⟩) n c) ⟨(d.data.toList.set i x).toArray⟩ := by
  have sz : (⟨(d.data.toList.set i x).toArray⟩ : ByteArray).size = d.size := by show (d.data.toList.set i x).toArray.size = _; simp
  rcases h with ⟨h0, h1⟩ | ⟨g', cap, cur, lo, hi2, he, hb, hr, hm, hnc, hc, hsz, htk⟩
  · omega
  · injection he with e1 e2 e3
    injection e1 with e1
    injection e1 with e1 _ _
    subst e1 e2 e3
    refine .inr ⟨g, c, cur.setIfInBounds i (.int .u8 (x.toNat : Nat)), lo, hi2, by rw [sz], hb, ?_, by simpa using hm, by rw [sz]; exact hnc, hc, by simpa using hsz, ?_⟩
    · rw [setCell_eq_setRow w g i cur _ _ _ hr]
      exact setRow_heap w g cur _ _ _ hr
    · rw [sz]
      unfold Lib.strCells at htk ⊢
      rw [Array.toList_setIfInBounds, List.take_set, htk, List.map_set]
/-- a conversion from a text -/
theorem OwnB.conv (w : World) (base : Nat) (hb : base ≤ w.heap.size) (d : ByteArray) (hl : d.size ≤ maxLen) : OwnB (Lib.bytesWorld w 5 d) base (.slice (some ⟨w.heap.size, 0, none⟩) d.size (grownCap w d.size 0 5)) d ∧ Below w.heap.size w (Lib.bytesWorld w 5 d) := by
  have hge := grownCap_ge w d.size 0 5
  have hz : (Lib.bytesCells w 5 d).size = grownCap w d.size 0 5 := by
    unfold Lib.bytesCells
    rw [Array.size_append, Array.size_map, Array.size_replicate]
    have : d.data.size = d.size := rfl
    omega
  refine ⟨.inr ⟨w.heap.size, _, _, _, _, rfl, hb, Lib.bytesWorld_at_new w 5 d, .inl (Nat.le_refl _), hge, grownCap_le_maxLen w d.size 0 5 hl, hz, ?_⟩, ⟨rfl, rfl, rfl, by rw [Lib.bytesWorld_size]; omega, fun j hj => Lib.bytesWorld_at_old w _ d j hj⟩⟩
  unfold Lib.bytesCells Lib.strCells
  rw [Array.toList_append, Array.toList_map, List.take_left' (by simp)]
end Go.Proofs.YtngkiokibldfjaaGreatDoor
namespace Go.Proofs.YtngkiokibldfjaaGreatDoor
open Go.RowKit
set_option linter.unusedVariables false
/-! An extent under operations: how the specification's lies there. -/
theorem row_neX {W : World} {g b : Nat} {t t' : TypeId} {cs cs' : Array Value} (h : RowAt W g t cs) (h' : RowAt W b t' cs') (ht : t ≠ t') : g ≠ b := fun e => by
  subst e
  have := h.symm.trans h'
  injection this with this
  injection this with _ this
  exact ht this
theorem orKeep {w w' : World} {base k n : Nat} {t : TypeId} {v : Value} {cs : List Value} (h : w.ownsRow base t k v n cs) (hk : ∀ g cur, v.ownBlock = some g → RowAt w g t cur → RowAt w' g t cur) : w'.ownsRow base t k v n cs := by
  refine ⟨h.1, ?_⟩
  rcases h.2 with h0 | ⟨g, cap, cur, he, hb, hr, r⟩
  · exact .inl h0
  · exact .inr ⟨g, cap, cur, he, hb, hk g cur (by rw [he]; rfl) hr, r⟩
theorem orRow {w : World} {base k n : Nat} {t : TypeId} {v : Value} {cs : List Value} (h : w.ownsRow base t k v n cs) {g : Nat} (hg : v.ownBlock = some g) : base ≤ g ∧ g < w.heap.size ∧ ∃ cur, RowAt w g t cur := by
  rcases h.2 with ⟨rfl, _⟩ | ⟨g', cap, cur, rfl, hb, hr, r⟩
  · cases hg
  · have e : g' = g := Option.some.inj hg
    subst e
    exact ⟨hb, (show RowAt w g' t cur from hr).lt, cur, hr⟩
theorem orSlice {w : World} {base k n : Nat} {t : TypeId} {v : Value} {cs : List Value} (h : w.ownsRow base t k v n cs) : ∃ a c, v = .slice a n c := by
  rcases h.2 with ⟨h0, h1⟩ | ⟨g, cap, cur, he, _⟩
  · exact ⟨_, _, by rw [h0, h1]⟩
  · exact ⟨_, _, he⟩
theorem orBase {w : World} {B B' k n : Nat} {t : TypeId} {v : Value} {cs : List Value} (h : w.ownsRow B t k v n cs) (hb : B' ≤ B) : w.ownsRow B' t k v n cs := by
  refine ⟨h.1, ?_⟩
  rcases h.2 with h0 | ⟨g, cap, cur, he, hb2, r⟩
  · exact .inl h0
  · exact .inr ⟨g, cap, cur, he, by omega, r⟩
/-- the cells of the answers -/
def xoL (O : List (XOt × Value)) : List Value := O.flatMap fun p => [.int .i64 p.1.cd, .string p.1.dt, p.2, .int .i64 p.1.hl]
theorem xoL_app (A B : List (XOt × Value)) : xoL (A ++ B) = xoL A ++ xoL B := by simp [xoL]
structure XI (w W : World) (X4 X7 base : Nat) (vD : Value) (d : ByteArray) (vO : Value) (O : List (XOt × Value)) : Prop where
  res : RowAt W X4 33 #[.string ⟨#[]⟩, .int .i64 0, .slice none 0 0]
  rr : RowAt W X7 33 #[.string ⟨#[]⟩, .int .i64 0, vO]
  dt : OwnB W base vD d
  ou : W.ownsRow base 36 4 vO O.length (xoL O)
  oe : ∀ p ∈ O, OwnStrs W base p.2 p.1.ks
  bl : Below w.heap.size w W
  sz : base ≤ W.heap.size
  nx : w.heap.size ≤ X4 ∧ w.heap.size ≤ X7 ∧ w.heap.size ≤ base ∧ X4 ≠ X7
theorem XI.keep {w W W' : World} {X4 X7 base : Nat} {vD : Value} {d : ByteArray} {vO : Value} {O : List (XOt × Value)} (h : XI w W X4 X7 base vD d vO O) (hk : ∀ g ty cs, RowAt W g ty cs → RowAt W' g ty cs) (hd : OwnB W' base vD d) (hb : Below w.heap.size w W') (hs : base ≤ W'.heap.size) : XI w W' X4 X7 base vD d vO O :=
  ⟨hk _ _ _ h.res, hk _ _ _ h.rr, hd, orKeep h.ou fun g cs _ r => hk _ _ _ r, fun p hp => orKeep (h.oe p hp) fun g cs _ r => hk _ _ _ r, hb, hs, h.nx⟩
theorem XI.below {w W W' : World} {X4 X7 base : Nat} {vD : Value} {d : ByteArray} {vO : Value} {O : List (XOt × Value)} (h : XI w W X4 X7 base vD d vO O) (hb : Below W.heap.size W W') : XI w W' X4 X7 base vD d vO O :=
  h.keep (fun g ty cs r => r.below hb r.lt) (h.dt.below hb) (h.bl.trans (hb.mono h.bl.size)) (Nat.le_trans h.sz hb.size)
/-- a cell of a box of another kind is set -/
theorem XI.other {w W : World} {X4 X7 base X : Nat} {vD : Value} {d : ByteArray} {vO : Value} {O : List (XOt × Value)} (h : XI w W X4 X7 base vD d vO O) {ty : TypeId} {cs : Array Value} (hx : RowAt W X ty cs) (hX : base ≤ X) (h1 : X ≠ X4) (h2 : X ≠ X7) (h3 : ty ≠ 5) (h4 : vO.ownBlock ≠ some X) (h5 : ty ≠ 9) (i : Nat) (v : Value) : XI w (W.setCell ⟨X, i, none⟩ v) X4 X7 base vD d vO O := by
  have ok : ∀ {g ty' cs'}, RowAt W g ty' cs' → g ≠ X → RowAt (W.setCell ⟨X, i, none⟩ v) g ty' cs' := fun {g ty' cs'} r hn => r.other _ _ hn
  exact ⟨ok h.res h1.symm, ok h.rr h2.symm, h.dt.setCell hx h3, orKeep h.ou fun g cs' e r => ok r (fun q => h4 (by rw [e, q])), fun p hp => orKeep (h.oe p hp) fun g cs' _ r => ok r (row_neX r hx h5.symm), h.bl.setCell (by show w.heap.size ≤ X; have := h.nx.2.2.1; omega) _, Nat.le_trans h.sz grown_set.size, h.nx⟩
/-- the data are others: what the old ones lay in has turned, no other block -/
theorem XI.data {w W W1 : World} {X4 X7 base : Nat} {vD : Value} {d : ByteArray} {vO : Value} {O : List (XOt × Value)} (h : XI w W X4 X7 base vD d vO O) (hg : W.grownBy W1 vD.ownBlock) {v' : Value} {d' : ByteArray} (hd : OwnB W1 base v' d') : XI w W1 X4 X7 base v' d' vO O := by
  have ne : ∀ {g ty cs}, RowAt W g ty cs → ty ≠ 5 → vD.ownBlock ≠ some g := fun {g ty cs} r hn => h.dt.ne r hn
  have k1 : ∀ {g ty cs}, RowAt W g ty cs → ty ≠ 5 → RowAt W1 g ty cs := fun {g ty cs} r hn => (hg.block g r.lt (fun e => ne r hn e.symm)).trans r
  exact ⟨k1 h.res (by decide), k1 h.rr (by decide), hd, orKeep h.ou fun g cs _ r => k1 r (by decide), fun p hp => orKeep (h.oe p hp) fun g cs _ r => k1 r (by decide), h.bl.grown hg h.bl.size (fun g e => by have := (h.dt.row e).1; have := h.nx.2.2.1; omega), Nat.le_trans h.sz hg.size, h.nx⟩
/-- a row of another kind than the data's is kept -/
theorem XI.dk {w W W1 : World} {X4 X7 base : Nat} {vD : Value} {d : ByteArray} {vO : Value} {O : List (XOt × Value)} (h : XI w W X4 X7 base vD d vO O) (hg : W.grownBy W1 vD.ownBlock) {g : Nat} {ty : TypeId} {cs : Array Value} (r : RowAt W g ty cs) (hn : ty ≠ 5) : RowAt W1 g ty cs :=
  (hg.block g r.lt (fun e => h.dt.ne r hn e.symm)).trans r
/-- an answer more -/
theorem XI.out {w W W1 : World} {X4 X7 base : Nat} {vD : Value} {d : ByteArray} {vO : Value} {O : List (XOt × Value)} (h : XI w W X4 X7 base vD d vO O) (hg : W.grownBy W1 vO.ownBlock) {v' : Value} {p : XOt × Value} (hp : OwnStrs W base p.2 p.1.ks) (hr : W1.ownsRow base 36 4 v' (O ++ [p]).length (xoL (O ++ [p]))) : XI w (W1.setCell ⟨X7, 2, none⟩ v') X4 X7 base vD d v' (O ++ [p]) := by
  have ne : ∀ {g ty cs}, RowAt W g ty cs → ty ≠ 36 → vO.ownBlock ≠ some g := fun {g ty cs} r hn e => by
    obtain ⟨_, _, cs', r'⟩ := orRow h.ou e
    exact row_neX r r' hn rfl
  have k1 : ∀ {g ty cs}, RowAt W g ty cs → ty ≠ 36 → RowAt W1 g ty cs := fun {g ty cs} r hn => (hg.block g r.lt (fun e => ne r hn e.symm)).trans r
  have rr1 := k1 h.rr (by decide)
  have k2 : ∀ {g ty cs}, RowAt W1 g ty cs → g ≠ X7 → RowAt (W1.setCell ⟨X7, 2, none⟩ v') g ty cs := fun {g ty cs} r hn => r.other _ _ hn
  have k3 : ∀ {g ty cs}, RowAt W g ty cs → ty ≠ 36 → ty ≠ 33 → RowAt (W1.setCell ⟨X7, 2, none⟩ v') g ty cs := fun {g ty cs} r h1 h2 => k2 (k1 r h1) (row_neX (k1 r h1) rr1 h2)
  have b1 : Below w.heap.size w W1 := h.bl.grown hg h.bl.size (fun g e => by have := (orRow h.ou e).1; have := h.nx.2.2.1; omega)
  refine ⟨k2 (k1 h.res (by decide)) h.nx.2.2.2, rr1.set 2 v', (h.dt.keep fun g e => hg.block g (h.dt.row e).2.1 (fun q => by obtain ⟨_, _, cs', r'⟩ := orRow h.ou q.symm; exact h.dt.ne r' (by decide) e)).setCell rr1 (by decide), orKeep hr fun g cs _ r => k2 r (row_neX r rr1 (by decide)), fun q hq => ?_, b1.setCell (by show w.heap.size ≤ X7; exact h.nx.2.1) _, Nat.le_trans h.sz (Nat.le_trans hg.size grown_set.size), h.nx⟩
  rcases List.mem_append.1 hq with hq | hq
  · exact orKeep (h.oe q hq) fun g cs _ r => k3 r (by decide) (by decide)
  · rw [List.mem_singleton] at hq
    subst hq
    exact orKeep hp fun g cs _ r => k3 r (by decide) (by decide)
theorem Tryz.infoXo : (Tryz.prog.info? 36).map (fun i => (i.zero, i.size, i.bytes)) = some (some (.agg #[.int .i64 0, .string ⟨#[]⟩, .slice none 0 0, .int .i64 0]), 4, 56) := by kernel_rfl
/-- one answer, in a box just made, is appended -/
theorem append_xo {ops : Array Oper} {rest : List Oper} {o : Oper} {a : Act} {Q' : Exit → Act → World → Prop} (base : Nat) (wr : World) (hgd : o.guard = none) (s x : Operand)
    (ho : o.op = .call { callee := .builtin .append, args := #[s, x], argTypes := #[31, 31] })
    (v : Value) (O : List (XOt × Value)) (p : XOt × Value) (hs : a.eval s = v) (hown : wr.ownsRow base 36 4 v O.length (xoL O)) (hsz : base ≤ wr.heap.size)
    (hx : a.eval x = .slice (some ⟨wr.heap.size, 0, none⟩) 1 1) (h1c : p.2.oneCell' = true) (hlen : O.length ≤ 1048576)
    (h : ∀ v' w', w'.ownsRow base 36 4 v' (O ++ [p]).length (xoL (O ++ [p])) → wr.grownBy w' v.ownBlock → wpList Tryz.prog ops Q' rest (a.put o.dst v') w') :
    wpList Tryz.prog ops Q' (o :: rest) a (wr.alloc (.cells #[.int .i64 p.1.cd, .string p.1.dt, p.2, .int .i64 p.1.hl] 36)) := by
  obtain ⟨i0, hi, hz0, hz1, hz2⟩ := info_parts Tryz.infoXo
  refine wpList_append_own _ hgd s x 31 ho base 36 i0 _ 4 56 Tryz.underlying31 hi hz0 hz1 hz2 rfl (by decide) v O.length _ hs (World.ownsRow.alloc hown _) ⟨wr.heap.size, 0, none⟩ 1 1 [.int .i64 p.1.cd, .string p.1.dt, p.2, .int .i64 p.1.hl] hx rfl ?_ ?_ ?_ ?_ ?_ ?_
  · intro j u hj
    have R := RowAt.new wr 36 #[.int .i64 p.1.cd, .string p.1.dt, p.2, .int .i64 p.1.hl]
    match j, hj with
    | 0, hj => simp at hj; subst hj; exact R.cell 0
    | 1, hj => simp at hj; subst hj; exact R.cell 1
    | 2, hj => simp at hj; subst hj; exact R.cell 2
    | 3, hj => simp at hj; subst hj; exact R.cell 3
  · intro u hu
    simp at hu
    rcases hu with rfl | rfl | rfl | rfl
    · rfl
    · rfl
    · exact h1c
    · rfl
  · unfold maxLen; omega
  · omega
  · simp; omega
  · intro v' w' h1 h2 h3
    refine h v' w' ?_ (grown_trans (World.grownBy_alloc wr _ _) h2)
    rw [List.length_append, xoL_app]
    exact h1
end Go.Proofs.YtngkiokibldfjaaGreatDoor
