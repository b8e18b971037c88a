import Derived.Test.YthdmaamocejodaaDoorProg
import Derived.Test.YthdmaamocejodaaDoorFRow
import Derived.WalkLawsBesides
import Derived.WalkSpells
import Derived.OpenShut
import Derived.BigQuiet
import Derived.Deep.QuietTactic
import Derived.Deep.RegionHeld3
import Derived.Deep.AppendLies
import Derived.Lib.Builder
import Derived.Lib.MakeNoZero
import Derived.Shelf.RegionOpenPlain
import Derived.Lib.UnsafeStr
import Derived.Laws.Externs
import Derived.Laws.IdiomCopy
namespace Go.Proofs.YthdmaamocejodaaDoor
open Go.RowKit
/-! Builders that lie in a slice: builder number i at place i * 2. -/
theorem FRow.shape {w : World} {b : Nat} {t : TypeId} {n : Nat} {f : Nat → Value} (h : FRow w b t n f) : w.shape? b = some (t, n) := by
  obtain ⟨cs, h1, h2, _⟩ := h
  have h1' : w.heap[b]? = some (.cells cs t (0, 0)) := h1
  simp [World.shape?, h1', h2]
theorem liesB : ∀ n : Fin 65, ∀ i : Fin 64, i.val < n.val → liesAt Tryd.prog Tryd.prog.depth 83 (n.val * 2 / Tryd.prog.cellsOf 83) (i.val * 2) 83 1 = true := by decide +kernel
theorem sizeB : (Tryd.prog.info? 83).map (·.size) = some 2 := by kernel_rfl
set_option maxRecDepth 20000 in
set_option maxHeartbeats 2000000 in
theorem ccheck_fresh (bb n i : Nat) (hi : i < n) (hn : n ≤ 64) (f : Nat → Value) (w : World) (hF : FRow w bb 83 (n * 2) f) (h0 : f (i * 2) = .pointer none) :
    Calls Tryd.prog 47 #[.pointer (some ⟨bb, i * 2, none⟩)] w fun e w' => e = .returned (.tuple #[]) ∧ w' = w.setCell ⟨bb, i * 2, none⟩ (.pointer (some ⟨bb, i * 2, none⟩)) := by
  obtain ⟨j, hj, hjs⟩ := Option.map_eq_some_iff.1 sizeB
  have c0 : w.cell? ⟨bb, i * 2, none⟩ = some (.pointer none) := by rw [hF.cell (by omega), h0]
  have f0 := hF.free (i * 2)
  have hsh := hF.shape
  have hlie := liesB ⟨n, by omega⟩ ⟨i, by omega⟩ hi
  have HS := hid hsh
  have HL := hid hlie
  have HJ := hid hj
  have HF := hid hF
  clear hsh hlie hj hF
  go_enter Tryd.func47, Tryd.ntmps47
  go_wp2
  rw [Lib.run_to_unsafe w ⟨bb, i * 2, none⟩ Tryd.underlying81 Tryd.underlying126 HJ.out (by rw [hjs]; decide) HS.out (show i * 2 < n * 2 by omega)]
  simp only [Result.andThen]
  rw [Oper.upon_value]
  go_wp2
  rw [run_callFunc_extern Tryd.func52 (by kernel_rfl) (by kernel_rfl) (by kernel_rfl) (e := Extern.AbiNoEscape.same) (by kernel_rfl)]
  rw [Lib.run_noEscape]
  simp only [Result.andThen]
  rw [Oper.upon_value]
  go_wp2
  rw [Lib.run_from_unsafe w ⟨bb, i * 2, none⟩ Tryd.underlying126 Tryd.underlying81 HJ.out HS.out HL.out]
  simp only [Result.andThen]
  rw [Oper.upon_value]
  go_wp2
  go_end0
  exact ⟨rfl, rfl⟩
set_option maxRecDepth 20000 in
set_option maxHeartbeats 2000000 in
theorem ccheck_used (bb o : Nat) (w : World) (c0 : w.cell? ⟨bb, o, none⟩ = some (.pointer (some ⟨bb, o, none⟩))) :
    Calls Tryd.prog 47 #[.pointer (some ⟨bb, o, none⟩)] w fun e w' => e = .returned (.tuple #[]) ∧ w' = w := by
  obtain ⟨j, hj, hjs⟩ := Option.map_eq_some_iff.1 sizeB
  have hneq := Lib.run_neq_ptr_same (P := Tryd.prog) w (tp := 81) ⟨bb, o, none⟩ Tryd.underlying81 hj
  clear hj hjs
  go_enter Tryd.func47, Tryd.ntmps47
  go_wp2
  go_end0
  exact ⟨rfl, rfl⟩
set_option maxRecDepth 20000 in
set_option maxHeartbeats 4000000 in
/-- grow, of a builder without bytes or room -/
theorem bgrow (bb o m : Nat) (hm : m ≤ 1048576) (w : World) (c1 : w.cell? ⟨bb, o + 1, none⟩ = some (.slice none 0 0)) (f1 : w.frozen? ⟨bb, o + 1, none⟩ = false) (hl : bb < w.heap.size) :
    Calls Tryd.prog 48 #[.pointer (some ⟨bb, o, none⟩), .int .i64 m] w fun e w' => e = .returned (.tuple #[]) ∧ ∃ cs : Array Value, cs.size ≤ maxLen ∧ w' = ((w.setCell ⟨bb, o + 1, none⟩ (.slice (some ⟨w.heap.size, 0, none⟩) 0 cs.size)).alloc (.cells cs 5)).drew.drew.drew := by
  obtain ⟨cs, hrun, hle, hmax⟩ := Lib.run_makeNoZero (P := Tryd.prog) w.drew #[3] 22 5 Tryd.underlying22 m (by omega)
  have hw : IntKind.i64.wrap (IntKind.i64.wrap 0 + (m : Int)) = m := by
    rw [IntKind.wrap_i64, IntKind.wrap_i64]
    omega
  have hcall : (callFunc 53 #[.int .i64 (IntKind.i64.wrap (IntKind.i64.wrap 0 + (m : Int)))]).run Tryd.prog w.drew = .ok (.value (.slice (some ⟨w.drew.heap.size, 0, none⟩) m cs.size)) (w.drew.drew.drew.alloc (.cells cs 5)) := by
    rw [hw, run_callFunc_extern Tryd.func53 (by kernel_rfl) (by kernel_rfl) (by kernel_rfl) (e := Extern.BytealgMakeNoZero.makeNoZero #[3] #[22]) (by kernel_rfl), hrun]
    rfl
  have c2 : (w.alloc (.cells cs 5)).cell? ⟨bb, o + 1, none⟩ = some (.slice none 0 0) := by rw [World.cell?_alloc_lt _ _ _ hl]; exact c1
  have f2 : (w.alloc (.cells cs 5)).frozen? ⟨bb, o + 1, none⟩ = false := by rw [World.frozen?_alloc_past _ _ _ hl]; exact f1
  have hcopy : ∀ W : World, (Builtin.copy_ #[22, 22] 3 #[.slice (some ⟨w.heap.size, 0, none⟩) 0 cs.size, .slice none 0 0]).run Tryd.prog W = .ok (goInt 0) W :=
    fun W => run_copy_none W 22 22 3 5 _ _ 0 cs.size 0 0 Tryd.underlying22 (by kernel_rfl) rfl
  clear hw
  go_enter Tryd.func48, Tryd.ntmps48
  go_wp2
  go_region_held3 (fun wx => wx.cell? ⟨bb, o + 1, none⟩ = some (.slice none 0 0)) ((first | (go_keep; done) | exact c2)) ((fail))
  go_wp2
  go_end0
  exact ⟨rfl, cs, hmax (by unfold maxLen; omega), rfl⟩
theorem OwnNums.mono {w : World} {base base' : Nat} {e : TypeId} {k : IntKind} {v : Value} {xs : List Int} (h : OwnNums w base e k v xs) (hb : base' ≤ base) : OwnNums w base' e k v xs := by
  refine ⟨h.1, ?_⟩
  rcases h.2 with h0 | ⟨g, cap, cur, h1, h2, h3⟩
  · exact Or.inl h0
  · exact Or.inr ⟨g, cap, cur, h1, Nat.le_trans hb h2, h3⟩
theorem FRow.drewN {w : World} {b : Nat} {t : TypeId} {n : Nat} {f : Nat → Value} (h : FRow w b t n f) (k : Nat) : FRow (w.drewN k) b t n f := h
set_option maxRecDepth 20000 in
set_option maxHeartbeats 4000000 in
/-- Grow, of a builder that is as it was made -/
theorem bGrow (bb n i m : Nat) (hi : i < n) (hn : n ≤ 64) (hm1 : 1 ≤ m) (hm : m ≤ 1048576) (f : Nat → Value) (w : World) (hF : FRow w bb 83 (n * 2) f) (h0 : f (i * 2) = .pointer none) (h1 : f (i * 2 + 1) = .slice none 0 0) :
    Calls Tryd.prog 33 #[.pointer (some ⟨bb, i * 2, none⟩), .int .i64 m] w fun e w' => e = .returned (.tuple #[]) ∧ ∃ g cap, FRow w' bb 83 (n * 2) (putF (putF f (i * 2) (.pointer (some ⟨bb, i * 2, none⟩))) (i * 2 + 1) (.slice (some ⟨g, 0, none⟩) 0 cap)) ∧ OwnNums w' w.heap.size 5 .u8 (.slice (some ⟨g, 0, none⟩) 0 cap) [] ∧ w.grownBy w' (some bb) := by
  have hl := hF.lt
  go_enter Tryd.func33, Tryd.ntmps33
  go_wp2_with fail
  refine (ccheck_fresh bb n i hi hn f _ hF h0).mono ?_
  rintro e w1 ⟨rfl, hw1⟩
  have F1 : Hid (FRow w1 bb 83 (n * 2) (putF f (i * 2) (.pointer (some ⟨bb, i * 2, none⟩)))) := by rw [hw1]; exact hF.set _ _
  have G1 : Hid (w.grownBy w1 (some bb)) := by rw [hw1]; exact grown_set
  have S1 : Hid (w1.heap.size = w.heap.size) := by show _ = _; rw [hw1]; simp [World.setCell]
  have c1 : w1.cell? ⟨bb, i * 2 + 1, none⟩ = some (.slice none 0 0) := by
    rw [F1.out.cell (by omega)]; unfold putF; rw [if_neg (by omega), h1]
  have f1 := F1.out.free (i * 2 + 1)
  have d0 : decide ((m : Int) < 0) = false := by simp
  have d1 : decide ((0 : Int) < (m : Int)) = true := by simp; omega
  have HL1 : Hid (bb < w1.heap.size) := F1.out.lt
  clear hw1 hF h0 h1
  go_wp2_with fail
  go_quiet (fail)
  go_wp2_with fail
  refine (bgrow bb (i * 2) m hm (w1.drewN nq) (show (w1.drewN nq).cell? _ = _ from c1) (show (w1.drewN nq).frozen? _ = _ from f1) HL1.out).mono ?_
  rintro e w2 ⟨rfl, cs, hcs, hw2⟩
  have F2 : Hid (FRow w2 bb 83 (n * 2) (putF (putF f (i * 2) (.pointer (some ⟨bb, i * 2, none⟩))) (i * 2 + 1) (.slice (some ⟨w1.heap.size, 0, none⟩) 0 cs.size))) := by
    rw [hw2]; exact ((((F1.out.drewN nq).set _ _).alloc _).drew).drew.drew
  have G2 : Hid (w.grownBy w2 (some bb)) := by
    rw [hw2]
    exact grown_trans (grown_trans G1.out (grown_drewN w1 nq _)) (grown_trans (grown_trans grown_set (World.grownBy_alloc _ _ _)) (grown_drewN _ 3 _))
  have O2 : Hid (OwnNums w2 w.heap.size 5 .u8 (.slice (some ⟨w1.heap.size, 0, none⟩) 0 cs.size) []) := by
    rw [hw2]
    have h := World.ownsRow_made (w1.setCell ⟨bb, i * 2 + 1, none⟩ (.slice (some ⟨w1.heap.size, 0, none⟩) 0 cs.size)) (e := 5) (size := 1) (base := w.heap.size) cs cs.size (by simp [World.setCell]; exact Nat.le_of_eq S1.out.symm) hcs (by simp)
    simp only [World.setCell, Array.size_modify] at h
    exact h
  clear hw2 c1 f1
  go_wp2
  go_end0
  exact ⟨rfl, _, _, F2.out, O2.out, G2.out⟩
/-- Of the blocks that were there, at most b and r have turned. -/
structure Grown2 (w w' : World) (b : Nat) (r : Option Nat) : Prop where
  os : w'.os = w.os
  tape : w'.tape = w.tape
  output : w'.output = w.output
  size : w.heap.size ≤ w'.heap.size
  block : ∀ k, k < w.heap.size → k ≠ b → some k ≠ r → w'.heap[k]? = w.heap[k]?
theorem Grown2.far {w w' : World} {b : Nat} {r : Option Nat} (h : Grown2 w w' b r) {k : Nat} {t : TypeId} {n : Nat} {f : Nat → Value} (hF : FRow w k t n f) (h1 : k ≠ b) (h2 : some k ≠ r) : FRow w' k t n f := by
  obtain ⟨cs, q1, q2, q3⟩ := hF; exact ⟨cs, (h.block k q1.lt h1 h2).trans q1, q2, q3⟩
theorem Grown2.row {w w' : World} {b : Nat} {r : Option Nat} (h : Grown2 w w' b r) {k : Nat} {t : TypeId} {c : Array Value} (hF : RowAt w k t c) (h1 : k ≠ b) (h2 : some k ≠ r) : RowAt w' k t c := (h.block k hF.lt h1 h2).trans hF
theorem Grown2.own {w w' : World} {b : Nat} {r : Option Nat} (h : Grown2 w w' b r) {base : Nat} {e : TypeId} {k : IntKind} {v : Value} {xs : List Int} (hO : OwnNums w base e k v xs) (h1 : some b ≠ v.ownBlock) (h2 : v.ownBlock ≠ r ∨ v.ownBlock = none) : OwnNums w' base e k v xs := by
  refine ⟨hO.1, ?_⟩
  rcases hO.2 with h0 | ⟨g, cap, cur, rfl, q1, q2, q3⟩
  · exact Or.inl h0
  · refine Or.inr ⟨g, cap, cur, rfl, q1, ?_, q3⟩
    have hg : g < w.heap.size := by
      rcases Nat.lt_or_ge g w.heap.size with h' | h'
      · exact h'
      · rw [Array.getElem?_eq_none h'] at q2; cases q2
    rw [h.block g hg (fun e => h1 (by rw [e]; rfl)) (by
      rcases h2 with h2 | h2
      · exact h2
      · cases h2)]
    exact q2
theorem Grown2.below {w0 w w' : World} {b : Nat} {r : Option Nat} (h : Grown2 w w' b r) {n : Nat} (hB : Below n w0 w) (h1 : n ≤ b) (h2 : ∀ k, r = some k → n ≤ k) (h3 : n ≤ w.heap.size) : Below n w0 w' :=
  ⟨h.os.trans hB.os, h.tape.trans hB.tape, h.output.trans hB.output, Nat.le_trans hB.size h.size, fun k hk => (h.block k (by omega) (by omega) (fun e => by have := h2 k e.symm; omega)).trans (hB.block k hk)⟩
/-- a block's bytes, from a place on -/
theorem Tryd.info8' : (Tryd.prog.info? 5).map (fun i => (i.zero, i.size, i.bytes)) = some (some (.int .u8 0), 1, 1) := by kernel_rfl
theorem append_lies8 (base : Nat) (w : World) {ops : Array Oper} {rest : List Oper} {o : Oper} {a : Act} {Q : Exit → Act → World → Prop} (hgd : o.guard = none) (s x : Operand)
    (ho : o.op = .call { callee := .builtin .append, args := #[s, x], argTypes := #[22, 22] })
    (v : Value) (xs bs : List Int) (m cp : Nat) (hm : bs.length = m) (hm1 : 0 < m) (hs : a.eval s = v) (hown : OwnNums w base 5 .u8 v xs) (hsz : base ≤ w.heap.size)
    (g off : Nat) (hx : a.eval x = .slice (some ⟨g, off, none⟩) m cp) (hc : ∀ i, i < m → w.cell? ⟨g, off + i, none⟩ = some (.int .u8 (bs.getD i 0))) (hlen : xs.length + m ≤ 17592186044414)
    (h : ∀ q cap w', OwnNums w' base 5 .u8 (.slice (some ⟨q, 0, none⟩) (xs.length + m) cap) (xs ++ bs) → w.grownBy w' v.ownBlock → (v.ownBlock = some q ∨ q = w.heap.size) → wpList Tryd.prog ops Q rest (a.put o.dst (.slice (some ⟨q, 0, none⟩) (xs.length + m) cap)) w') :
    wpList Tryd.prog ops Q (o :: rest) a w := by
  obtain ⟨i0, hi, hz0, hz1, hz2⟩ := info_parts Tryd.info8'
  refine wpList_append_lies _ hgd s x 22 ho base 5 i0 (.int .u8 0) 1 1 Tryd.underlying22 hi hz0 hz1 hz2 rfl (by decide) v xs.length _ hs hown ⟨g, off, none⟩ m cp (bs.map (Value.int .u8)) hx (by simp; omega) ?_ ?_ hm1 ?_ ?_ hsz w.heap.size rfl ?_
  · intro j u hj
    have hjl : j < bs.length := by
      rcases Nat.lt_or_ge j bs.length with h1 | h1
      · exact h1
      · rw [List.getElem?_eq_none (by simpa using h1)] at hj; cases hj
    rw [Addr.add_mid, hc j (by omega)]
    rw [List.getElem?_map, List.getElem?_eq_getElem hjl] at hj
    rw [List.getD_eq_getElem?_getD, List.getElem?_eq_getElem hjl]; exact hj
  · intro u hu; obtain ⟨y, _, rfl⟩ := List.mem_map.1 hu; rfl
  · unfold maxLen; omega
  · omega
  · intro q cap w' h1 h2 h3 h4
    exact h q cap w' (by subst hm; simpa [OwnNums] using h1) h2 h3
set_option maxRecDepth 20000 in
set_option maxHeartbeats 4000000 in
/-- Write: the bytes go behind those that are there -/
theorem bWrite (bb n i base : Nat) (hi : i < n) (f : Nat → Value) (v : Value) (xs bs : List Int) (pg po m cp : Nat) (w : World) (hF : FRow w bb 83 (n * 2) f) (h0 : f (i * 2) = .pointer (some ⟨bb, i * 2, none⟩)) (h1 : f (i * 2 + 1) = v)
    (hO : OwnNums w base 5 .u8 v xs) (hb1 : bb < base) (hb2 : base ≤ w.heap.size) (hm : bs.length = m) (hm1 : 0 < m) (hmM : m ≤ 1048576) (hx : xs.length ≤ 1048576) (hc : ∀ j, j < m → w.cell? ⟨pg, po + j, none⟩ = some (.int .u8 (bs.getD j 0))) :
    Calls Tryd.prog 42 #[.pointer (some ⟨bb, i * 2, none⟩), .slice (some ⟨pg, po, none⟩) m cp] w fun e w' => (∃ r, e = .returned r) ∧ ∃ q cap, FRow w' bb 83 (n * 2) (putF f (i * 2 + 1) (.slice (some ⟨q, 0, none⟩) (xs.length + m) cap)) ∧ OwnNums w' base 5 .u8 (.slice (some ⟨q, 0, none⟩) (xs.length + m) cap) (xs ++ bs) ∧ (v.ownBlock = some q ∨ q = w.heap.size) ∧ Grown2 w w' bb v.ownBlock := by
  have c0 : w.cell? ⟨bb, i * 2, none⟩ = some (.pointer (some ⟨bb, i * 2, none⟩)) := by rw [hF.cell (by omega), h0]
  have c1 : w.cell? ⟨bb, i * 2 + 1, none⟩ = some v := by rw [hF.cell (by omega), h1]
  have HF := hid hF
  have HO := hid hO
  have HC := hid hc
  have HM := hid hm
  have NE : Hid (some bb ≠ v.ownBlock) := hO.ne hb1
  have HX : Hid (xs.length + m ≤ 17592186044414) := by show _ ≤ _; omega
  have LL : Hid (i * 2 + 1 < n * 2) := by show _ < _; omega
  clear hF hO hc hm h0 h1
  go_enter Tryd.func42, Tryd.ntmps42
  go_wp2_with fail
  refine (ccheck_used bb (i * 2) _ c0).mono ?_
  rintro e w1 ⟨rfl, rfl⟩
  go_wp2_with (refine append_lies8 base w1 (by rfl) (.tmp 12) (.tmp 13) (by rfl) v xs bs m cp HM.out hm1 (by rfl) HO.out hb2 pg po (by rfl) HC.out HX.out ?_; intro q cap w2 hO2 hg2 hq2; have F2 := HF.out.far hg2 NE.out; have y1 := F2.cell LL.out; have y2 := F2.free (i * 2 + 1))
  have F3 : Hid (FRow (w2.setCell ⟨bb, i * 2 + 1, none⟩ (.slice (some ⟨q, 0, none⟩) (xs.length + m) cap)) bb 83 (n * 2) (putF f (i * 2 + 1) (.slice (some ⟨q, 0, none⟩) (xs.length + m) cap))) := F2.set _ _
  have O3 : Hid (OwnNums (w2.setCell ⟨bb, i * 2 + 1, none⟩ (.slice (some ⟨q, 0, none⟩) (xs.length + m) cap)) base 5 .u8 (.slice (some ⟨q, 0, none⟩) (xs.length + m) cap) (xs ++ bs)) := hO2.kept grown_set hb1
  have G3 : Hid (Grown2 w1 (w2.setCell ⟨bb, i * 2 + 1, none⟩ (.slice (some ⟨q, 0, none⟩) (xs.length + m) cap)) bb v.ownBlock) := ⟨hg2.os, hg2.tape, hg2.output, by have := hg2.size; simp [World.setCell]; exact this, fun k hk hne hr => by
    rw [show (w2.setCell ⟨bb, i * 2 + 1, none⟩ (.slice (some ⟨q, 0, none⟩) (xs.length + m) cap)).heap[k]? = w2.heap[k]? from Below.heap_setCell w2 _ _ k (by intro h; exact hne h)]
    exact hg2.block k hk hr⟩
  clear F2 hO2 hg2 y1 y2
  refine bodyPost_ret (v := .tuple #[.int .i64 m, .nilIface]) (by simp [results, Tryd.results42, go_sem]) rfl ?_
  exact ⟨⟨_, rfl⟩, q, cap, F3.out, O3.out, hq2, G3.out⟩
theorem bWriteD (k bb n i base : Nat) (hi : i < n) (f : Nat → Value) (v : Value) (xs bs : List Int) (pg po m cp : Nat) (w : World) (hF : FRow w bb 83 (n * 2) f) (h0 : f (i * 2) = .pointer (some ⟨bb, i * 2, none⟩)) (h1 : f (i * 2 + 1) = v)
    (hO : OwnNums w base 5 .u8 v xs) (hb1 : bb < base) (hb2 : base ≤ w.heap.size) (hm : bs.length = m) (hm1 : 0 < m) (hmM : m ≤ 1048576) (hx : xs.length ≤ 1048576) (hc : ∀ j, j < m → w.cell? ⟨pg, po + j, none⟩ = some (.int .u8 (bs.getD j 0))) :
    Calls Tryd.prog 42 #[.pointer (some ⟨bb, i * 2, none⟩), .slice (some ⟨pg, po, none⟩) m cp] (w.drewN k) fun e w' => (∃ r, e = .returned r) ∧ ∃ q cap, FRow w' bb 83 (n * 2) (putF f (i * 2 + 1) (.slice (some ⟨q, 0, none⟩) (xs.length + m) cap)) ∧ OwnNums w' base 5 .u8 (.slice (some ⟨q, 0, none⟩) (xs.length + m) cap) (xs ++ bs) ∧ (v.ownBlock = some q ∨ q = w.heap.size) ∧ Grown2 w w' bb v.ownBlock :=
  (bWrite bb n i base hi f v xs bs pg po m cp (w.drewN k) hF h0 h1 hO hb1 hb2 hm hm1 hmM hx hc).mono fun e w' h => by
    obtain ⟨hr, q, cap, hF2, hO2, hq, hg⟩ := h
    exact ⟨hr, q, cap, hF2, hO2, hq, ⟨hg.os, hg.tape, hg.output, hg.size, hg.block⟩⟩
theorem freeze_grown (w : World) (g n : Nat) : w.grownBy (w.freeze ⟨g, 0, none⟩ n) (some g) := by
  unfold World.freeze
  split
  · exact below_grown (Below.refl _ _) _
  · refine ⟨rfl, rfl, rfl, by simp, fun k hk hne => ?_⟩
    have : ¬ g = k := fun e => hne (by rw [e])
    simp [Array.getElem?_modify, this]
theorem Grown2.refl (w : World) (b : Nat) (r : Option Nat) : Grown2 w w b r := ⟨rfl, rfl, rfl, Nat.le_refl _, fun _ _ _ _ => rfl⟩
set_option maxRecDepth 20000 in
set_option maxHeartbeats 4000000 in
/-- String: the bytes that are there, at least one -/
theorem bString (bb n i base : Nat) (hi : i < n) (f : Nat → Value) (v : Value) (xs : List Int) (w : World) (hF : FRow w bb 83 (n * 2) f) (h1 : f (i * 2 + 1) = v)
    (hO : OwnNums w base 5 .u8 v xs) (hb1 : bb < base) (hx1 : 0 < xs.length) (hx8 : ∀ x ∈ xs, 0 ≤ x ∧ x < 256) (hx : xs.length ≤ 1048576) :
    Calls Tryd.prog 36 #[.pointer (some ⟨bb, i * 2, none⟩)] w fun e w' => e = .returned (.string (strOfNums xs)) ∧ w.grownBy w' v.ownBlock := by
  obtain ⟨g, cap, cur, rfl, hbg, hg, hnc, hcm, hcs, htk⟩ : ∃ g cap cur, v = .slice (some ⟨g, 0, none⟩) xs.length cap ∧ base ≤ g ∧ w.heap[g]? = some (.cells cur 5 (0, 0)) ∧ xs.length ≤ cap ∧ cap ≤ maxLen ∧ cur.size = cap * 1 ∧ cur.toList.take (xs.length * 1) = xs.map (Value.int .u8) := by
    rcases hO.2 with ⟨_, hz⟩ | ⟨g, cap, cur, hv, r⟩
    · omega
    · exact ⟨g, cap, cur, hv, r⟩
  obtain ⟨l, hl⟩ : ∃ l : List UInt8, l = xs.map fun x => UInt8.ofNat x.toNat := ⟨_, rfl⟩
  have hll : l.length = xs.length := by rw [hl]; simp
  have hE : (⟨l.toArray⟩ : ByteArray) = strOfNums xs := by rw [hl]; rfl
  have c1 : w.drew.cell? ⟨bb, i * 2 + 1, none⟩ = some (.slice (some ⟨g, 0, none⟩) xs.length cap) := by
    rw [hF.drew.cell (by omega), h1]
  have hSD : (Builtin.unsafeSliceData_ #[22] 119 #[.slice (some ⟨g, 0, none⟩) xs.length cap]).run Tryd.prog w.drew = .ok (.pointer (some ⟨g, 0, none⟩)) w.drew :=
    Lib.run_unsafeSliceData_row _ _ _ _ _ _ (by omega)
  have hUS : (Builtin.unsafeString_ #[119, 3] 9 #[.pointer (some ⟨g, 0, none⟩), .int .i64 xs.length]).run Tryd.prog w.drew = .ok (.string (strOfNums xs)) (w.drew.freeze ⟨g, 0, none⟩ xs.length) := by
    rw [← hE, ← hll]
    refine Lib.run_unsafeString_row w.drew 119 3 9 5 Tryd.underlying119 (by kernel_rfl) g cur.size (by have hg' : w.drew.heap[g]? = some (.cells cur 5 (0, 0)) := hg; simp [World.shape?, hg']) l (by intro e; rw [e] at hll; simp at hll; omega) (by omega) (by unfold maxLen at hcm; omega) ?_
    intro j x hx2
    have hj : j < xs.length := by have := (List.getElem?_eq_some_iff.1 hx2).1; omega
    have hc := World.ownsRow.cells hO (g := g) rfl j (.int .u8 (xs[j])) (by rw [List.getElem?_map, List.getElem?_eq_getElem hj]; rfl)
    have hb := hx8 xs[j] (List.getElem_mem hj)
    rw [hl, List.getElem?_map, List.getElem?_eq_getElem hj] at hx2
    have e2 : x.toNat = xs[j].toNat := by
      have : UInt8.ofNat xs[j].toNat = x := Option.some.inj hx2
      rw [← this]; simp; omega
    rw [e2, show ((xs[j].toNat : Nat) : Int) = xs[j] by omega]
    exact hc
  have NG : Hid (w.grownBy (w.drew.freeze ⟨g, 0, none⟩ xs.length) (some g)) := grown_trans (grown_drewN w 1 _) (freeze_grown w.drew g xs.length)
  have c2 : Hid ((w.drew.freeze ⟨g, 0, none⟩ xs.length).cell? ⟨bb, i * 2 + 1, none⟩ = some (.slice (some ⟨g, 0, none⟩) xs.length cap)) := by
    show _ = _
    rw [(hF.far NG.out (fun e => by have e2 : bb = g := Option.some.inj e; omega)).cell (by omega), h1]
  clear hcs htk hg hF hO
  go_enter Tryd.func36, Tryd.ntmps36
  go_wp2
  go_region_held3 (fun wx => wx.cell? ⟨bb, i * 2 + 1, none⟩ = some (.slice (some ⟨g, 0, none⟩) xs.length cap)) ((first | exact c1 | exact c2.out | (go_keep; done))) ((fail))
  go_wp2
  go_ret
  exact ⟨rfl, NG.out⟩
end Go.Proofs.YthdmaamocejodaaDoor
