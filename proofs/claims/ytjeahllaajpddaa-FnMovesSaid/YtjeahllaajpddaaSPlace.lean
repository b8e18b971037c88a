import Derived.Test.YtjeahllaajpddaaPlMath
namespace Go.Proofs.Ytjeahllaajpddaa
open Go.RowKit
/-! The specification's PlaceKey. -/
abbrev plv (k : Int) (a : Option Addr) (n c : Nat) : Value := .agg #[.int .i64 k, .slice a n c]
theorem onePl (k : Int) (a : Option Addr) (len cap : Nat) : (#[.int .i64 k, .slice a len cap] : Array Value).all (·.oneCell') = true := by simp [Value.oneCell']
theorem Try.infoI64 : (Try.prog.info? 2).map (fun i => (i.zero, i.size, i.bytes)) = some (some (.int .i64 0), 1, 8) := by kernel_rfl
theorem Try.infoBl : (Try.prog.info? 4).map (fun i => (i.zero, i.size, i.bytes)) = some (some (.bool false), 1, 1) := by kernel_rfl
theorem mkBl (w : World) (n : Nat) (hn : n ≤ 1048576) : (Instr.makeSlice 66 (.int .i64 n) (.int .i64 n)).run Try.prog w = .ok (.slice (some ⟨w.heap.size, 0, none⟩) n n) (w.alloc (.cells (madeCells #[.bool false] n) 4)) := by
  obtain ⟨i0, hi, hz0, hz1, hz2⟩ := info_parts Try.infoBl
  have := run_make (P := Try.prog) w 66 4 i0 _ Try.underlying66 hi hz0 .i64 .i64 n n (by omega) (Int.le_refl _) (by rw [hz2]; omega) (by omega)
  rw [this, hz1]
  simp only [Int.toNat_natCast, Value.cells, Nat.mul_one]
/-- a row of numbers lies apart from a block of another type -/
theorem OwnNums.apartT {w : World} {base : Nat} {e t : TypeId} {k : IntKind} {v : Value} {xs : List Int} (h : OwnNums w base e k v xs) {b n : Nat} {f : Nat → Value} (hF : FRow w b t n f) (hte : t ≠ e) : some b ≠ v.ownBlock := by
  rcases h.2 with ⟨rfl, _⟩ | ⟨g, cap, cur, rfl, _, hgb, _⟩
  · simp [Value.ownBlock]
  · intro q
    obtain rfl : b = g := by simpa [Value.ownBlock] using q
    obtain ⟨cs, h1, _⟩ := hF
    have := (show w.heap[b]? = _ from h1).symm.trans hgb
    simp at this
    exact hte this.2
/-- the state of the loop that takes disks -/
structure PlSt (w wr : World) (base us n : Nat) (sc x : Nat → Int) (l : List Nat) (vS vO vD : Value) : Prop where
  S : OwnNums wr base 2 .i64 vS ((List.range n).map sc)
  O : OwnNums wr base 2 .i64 vO (l.map fun i => ((i : Nat) : Int))
  D : OwnNums wr base 2 .i64 vD (l.map x)
  U : FRow wr us 4 n (fun i => .bool (decide (i ∈ l)))
  R : RowAt wr w.heap.size 34 #[.int .i64 0, .slice none 0 0]
  B : Below w.heap.size w wr
  lb : w.heap.size < base
  lu : w.heap.size < us
  lw : base ≤ wr.heap.size
  so : ∀ q, vS.ownBlock = some q → vO.ownBlock ≠ some q
  sd : ∀ q, vS.ownBlock = some q → vD.ownBlock ≠ some q
  od : ∀ q, vO.ownBlock = some q → vD.ownBlock ≠ some q
  some' : (∃ q, vS.ownBlock = some q) ∧ (∃ q, vO.ownBlock = some q) ∧ (∃ q, vD.ownBlock = some q)
theorem PlSt.drewN {w wr : World} {base us n : Nat} {sc x : Nat → Int} {l : List Nat} {vS vO vD : Value} (h : PlSt w wr base us n sc x l vS vO vD) (j : Nat) : PlSt w (wr.drewN j) base us n sc x l vS vO vD :=
  ⟨h.S.grown (r := none) ⟨rfl, rfl, rfl, Nat.le_refl _, fun _ _ _ => rfl⟩ (by by_cases q : vS.ownBlock = none <;> simp [q]), h.O.grown (r := none) ⟨rfl, rfl, rfl, Nat.le_refl _, fun _ _ _ => rfl⟩ (by by_cases q : vO.ownBlock = none <;> simp [q]), h.D.grown (r := none) ⟨rfl, rfl, rfl, Nat.le_refl _, fun _ _ _ => rfl⟩ (by by_cases q : vD.ownBlock = none <;> simp [q]), h.U, h.R, ⟨h.B.os, h.B.tape, h.B.output, h.B.size, h.B.block⟩, h.lb, h.lu, h.lw, h.so, h.sd, h.od, h.some'⟩
theorem own_at {w : World} {base : Nat} {v : Value} {xs : List Int} (h : OwnNums w base 2 .i64 v xs) (hs : ∃ q, v.ownBlock = some q) : ∃ b cap, v = .slice (some ⟨b, 0, none⟩) xs.length cap ∧ base ≤ b ∧ b < w.heap.size ∧ xs.length ≤ cap ∧ ∀ i, i < xs.length → w.cell? ⟨b, i, none⟩ = some (.int .i64 (xs.getD i 0)) := by
  rcases h.2 with ⟨rfl, _⟩ | ⟨g, cap, cur, rfl, hb, hgb, hn, _⟩
  · obtain ⟨q, hq⟩ := hs; cases hq
  · refine ⟨g, cap, rfl, hb, (World.ownsRow.lt h g rfl).2, hn, fun i hi => ?_⟩
    have := World.ownsRow.cells h (g := g) rfl i (.int .i64 (xs.getD i 0)) (by rw [List.getElem?_map, List.getElem?_eq_getElem hi]; simp [hi])
    rw [Addr.add_lit, Nat.zero_add] at this
    exact this
/-- one disk more -/
theorem PlSt.take {w wr w1 w2 w3 : World} {base us n : Nat} {sc x : Nat → Int} {l : List Nat} {vS vO vD vO' vD' : Value} (h : PlSt w wr base us n sc x l vS vO vD) {b : Nat}
    (e1 : w1 = wr.setCell ⟨us, b, none⟩ (.bool true))
    (o2 : OwnNums w2 base 2 .i64 vO' ((l.map fun i => ((i : Nat) : Int)) ++ [(b : Int)])) (g2 : w1.grownBy w2 vO.ownBlock) (f2 : vO'.ownBlock = vO.ownBlock ∨ ∀ q, vO'.ownBlock = some q → w1.heap.size ≤ q)
    (o3 : OwnNums w3 base 2 .i64 vD' ((l.map x) ++ [x b])) (g3 : w2.grownBy w3 vD.ownBlock) (f3 : vD'.ownBlock = vD.ownBlock ∨ ∀ q, vD'.ownBlock = some q → w2.heap.size ≤ q) :
    PlSt w w3 base us n sc x (l ++ [b]) vS vO' vD' := by
  have g1 : wr.grownBy w1 (some us) := by rw [e1]; exact ⟨rfl, rfl, rfl, by rw [World.size_setCell]; exact Nat.le_refl _, fun k _ hk => Below.heap_setCell _ _ _ k (fun e => hk (by rw [e]))⟩
  have ne1 : ∀ {v : Value} {xs : List Int}, OwnNums wr base 2 .i64 v xs → some us ≠ v.ownBlock := fun q => q.apartT h.U (by decide)
  have U1 : FRow w1 us 4 n (fun i => .bool (decide (i ∈ l ++ [b]))) := by
    rw [e1]
    refine (h.U.set b (.bool true)).congr fun p _ => ?_
    unfold putF
    by_cases e : p = b
    · rw [if_pos e]; simp [e]
    · rw [if_neg e]; simp [e]
  have S1 := h.S.grown g1 (.inr (fun q => ne1 h.S q.symm))
  have D1 := h.D.grown g1 (.inr (fun q => ne1 h.D q.symm))
  have O1 := h.O.grown g1 (.inr (fun q => ne1 h.O q.symm))
  obtain ⟨⟨qs, hqs⟩, ⟨qo, hqo⟩, ⟨qd, hqd⟩⟩ := h.some'
  have S2 := S1.grown g2 (.inr (fun q => h.so qs hqs (by rw [← q]; exact hqs)))
  have D2 := D1.grown g2 (.inr (fun q => h.od qo hqo (by rw [q]; exact hqo)))
  have S3 := S2.grown g3 (.inr (fun q => h.sd qs hqs (by rw [← q]; exact hqs)))
  have lo : ∀ q, vO'.ownBlock = some q → base ≤ q ∧ q < w2.heap.size := World.ownsRow.lt o2
  have ls := World.ownsRow.lt h.S
  have ld := World.ownsRow.lt h.D
  have z1 : wr.heap.size ≤ w1.heap.size := g1.size
  have od' : ∀ q, vO'.ownBlock = some q → vD.ownBlock ≠ some q := fun q hq hd => by
    rcases f2 with f | f
    · exact h.od q (f ▸ hq) hd
    · have := f q hq; have := (ld q hd).2; omega
  have O3 : OwnNums w3 base 2 .i64 vO' ((l.map fun i => ((i : Nat) : Int)) ++ [(b : Int)]) := by
    refine o2.grown g3 ?_
    cases hq : vO'.ownBlock with
    | none => exact .inl rfl
    | some q => exact .inr fun e => od' q hq e.symm
  have U3 : FRow w3 us 4 n (fun i => .bool (decide (i ∈ l ++ [b]))) := (U1.far g2 (fun q => ne1 h.O q)).far g3 (fun q => ne1 h.D q)
  have nw : ∀ {v : Value} {xs : List Int}, OwnNums wr base 2 .i64 v xs → some w.heap.size ≠ v.ownBlock := fun q e => by have := (World.ownsRow.lt q _ e.symm).1; have := h.lb; omega
  have R3 : RowAt w3 w.heap.size 34 #[.int .i64 0, .slice none 0 0] := by
    have r1 : RowAt w1 w.heap.size _ _ := (g1.block _ h.R.lt (by simp; have := h.lu; omega)).trans h.R
    have r2 : RowAt w2 w.heap.size _ _ := (g2.block _ r1.lt (nw h.O)).trans r1
    exact (g3.block _ r2.lt (nw h.D)).trans r2
  have hlb := h.lb
  have hlu := h.lu
  have B1 : Below w.heap.size w w1 := h.B.grown g1 h.B.size (fun k e => by cases e; omega)
  have B2 : Below w.heap.size w w2 := B1.grown g2 B1.size (fun k e => by have := (World.ownsRow.lt h.O k e).1; omega)
  have B3 : Below w.heap.size w w3 := B2.grown g3 B2.size (fun k e => by have := (ld k e).1; omega)
  have nO : ∃ q, vO'.ownBlock = some q := by
    rcases o2.2 with ⟨_, q⟩ | ⟨g, cap, cur, rfl, _⟩
    · simp at q
    · exact ⟨g, rfl⟩
  have nD : ∃ q, vD'.ownBlock = some q := by
    rcases o3.2 with ⟨_, q⟩ | ⟨g, cap, cur, rfl, _⟩
    · simp at q
    · exact ⟨g, rfl⟩
  refine ⟨S3, by rw [List.map_append]; exact O3, by rw [List.map_append]; exact o3, U3, R3, B3, h.lb, h.lu, by have := h.lw; have := g2.size; have := g3.size; omega, fun q hq e => ?_, fun q hq e => ?_, fun q hq e => ?_, ⟨⟨qs, hqs⟩, nO, nD⟩⟩
  · rcases f2 with f | f
    · exact h.so q hq (f ▸ e)
    · have := f q e; have := (ls q hq).2; omega
  · rcases f3 with f | f
    · exact h.sd q hq (f ▸ e)
    · have := f q e; have := (ls q hq).2; have := g2.size; omega
  · rcases f3 with f | f
    · exact od' q hq (f ▸ e)
    · have := f q e; have := (lo q hq).2; omega
end Go.Proofs.Ytjeahllaajpddaa
