import Derived.Test.YtcbmgpdpjagaoaaGreatA1
import Derived.Test.YtcbmgpdpjagaoaaGreatRfLaw
import Derived.DeepKeys4
import Derived.Maps.OwnSet
import Derived.Maps.Views
import Derived.Maps.AppendAt
import Derived.Sort.MapsRangeIn
import Derived.RangeFuncSeq
import Derived.RangeFuncGives
import Derived.Shelf.Abstract
import Derived.OwnWalkIn
import Derived.TacticsInMore
import Derived.RegionIn
import Derived.LoopNIn
import Derived.LoopIn
namespace Go.Proofs.YtcbmgpdpjagaoaaGreat
open Go.RowKit Go.Shelf Go.Maps
set_option linter.unusedVariables false
attribute [local go_sem] Oper.semAt_some
def enG (e : En) : Value := .agg #[.string e.ky, .int .i64 e.sq, .bool e.gn, .string e.tx]
def enRd (v : Value) : Option (DataW En × List MemPlace) :=
 match v with
 | .agg cs => match cs.toList with
  | [.string k, .int .i64 s, .bool g, .string t] => some (.held ⟨k, s, g, t⟩, [])
  | _ => none
 | _ => none
theorem enRd_mk (e : En) : enRd (enG e) = some (.held e, []) := rfl
theorem enRd_inv {v : Value} {y : DataW En × List MemPlace} (h : enRd v = some y) : ∃ e, v = enG e ∧ y = (.held e, []) := by
 unfold enRd at h
 split at h
 · rename_i cs
   split at h
   · rename_i k s g t hc
     refine ⟨⟨k, s, g, t⟩, ?_, (Option.some.inj h).symm⟩; unfold enG; rw [← hc]
   · cases h
 · cases h
theorem Tryz.laidP : laidOutB Tryz.prog = true := by kernel_rfl
theorem Tryz.wideP : (match Tryz.prog.underlying 81 with | some (.array _ _) | some (.struct _) => true | _ => false) = true := by kernel_rfl
set_option maxRecDepth 100000 in
theorem lawP : Maps.Keyed Tryz.prog 81 := Maps.Keyed.of_law (deep_law_laid Tryz.laidP (m := 2) (by omega) (of_decide_eq_true (by kernel_rfl)) (by kernel_rfl) Tryz.wideP)
def pkV (k : ByteArray) (q : Int) : Value := .agg #[.string k, .int .i64 q]
def pkOk (e : En) : Prop := e.ky.size ≤ 1048576 ∧ 1 ≤ e.sq ∧ e.sq ≤ 4611686018427387904
theorem pk_ex (e : En) : ∃ l, pkOk e → keyOf Tryz.prog 81 (pkV e.ky e.sq) = some l := by
 by_cases h : pkOk e
 · obtain ⟨h1, h2, h3⟩ := h
   have hw : (Lit.int .i64 e.sq).wf = true := by
    have a : IntKind.i64.min = -9223372036854775808 := rfl; have b : IntKind.i64.max = 9223372036854775807 := rfl
    show (decide (IntKind.i64.min ≤ e.sq) && decide (e.sq ≤ IntKind.i64.max)) = true
    rw [a, b]
    simp
    omega
   have hm : e.ky.size ≤ maxLen := by unfold maxLen; omega
   have hK : Tryz.prog.keyType 81 = true := by kernel_rfl
   have hF : (pkV e.ky e.sq).formed Tryz.prog 81 = true := by
    unfold pkV
    simp [Value.formed, Tryz.underlying81, show Tryz.prog.cellsOf 81 = 2 by kernel_rfl]
   have hL : ∃ ls, Tryz.prog.keyLits (Tryz.prog.types.size + 1) 81 (pkV e.ky e.sq).cells.toList = some ls := by
    have hsz : ∃ n, Tryz.prog.types.size = n + 1 := ⟨Tryz.prog.types.size - 1, by have : 1 ≤ Tryz.prog.types.size := of_decide_eq_true (by kernel_rfl); omega⟩; obtain ⟨n, hn⟩ := hsz; rw [hn]; unfold pkV; have c2 : Tryz.prog.cellsOf 81 = 2 := by kernel_rfl
    have cS : Tryz.prog.cellsOf 9 = 1 := by kernel_rfl
    have cI : Tryz.prog.cellsOf 2 = 1 := by kernel_rfl
    simp [Program.keyLits, Tryz.underlying81, Tryz.underlying9, Tryz.underlying2, Value.cells, c2, cS, cI, hw, hm]
   obtain ⟨ls, hls⟩ := hL; refine ⟨.string (keyBytes ls), fun _ => ?_⟩; unfold keyOf; rw [Tryz.underlying81]; simp only [hK, hF, hls, Bool.and_self, if_true, Option.map_some]
 · exact ⟨.bool false, fun q => absurd q h⟩
noncomputable def pkL (e : En) : Lit := Classical.choose (pk_ex e)
theorem pk_key {e : En} (h : pkOk e) : keyOf Tryz.prog 81 (pkV e.ky e.sq) = some (pkL e) := Classical.choose_spec (pk_ex e) h
theorem pk_inj {a b : En} (ha : pkOk a) (hb : pkOk b) (h : pkL a = pkL b) : a.ky = b.ky ∧ a.sq = b.sq := by
 have e := lawP.inj (pk_key ha) (by rw [h]; exact pk_key hb); unfold pkV at e
 injection e with e
 simp at e
 exact e
theorem pk_lit {e : En} (h : pkOk e) : WideAt.IsKeyLit (pkL e) := lawP.key (pk_key h)
structure FrAt (D : DataW En) (L : List En) : Prop where
 tidy : Maps.Tidy D
 size : Maps.size D = L.length
 hit : ∀ kl e, (∀ zd, D.atKey kl zd = .held e) → e ∈ L ∧ pkL e = kl
 has : ∀ kl, Maps.has D kl = true ↔ ∃ e ∈ L, pkL e = kl
 nd : L.Pairwise (fun a b => pkL a ≠ pkL b)
 ok : ∀ e ∈ L, pkOk e
theorem FrAt.nil : FrAt (.map []) [] := ⟨Maps.tidy_empty, rfl, (fun kl e h => by have := h .nil; simp [DataW.atKey] at this), (fun kl => by simp [Maps.has]), List.Pairwise.nil, (fun e he => by cases he)⟩
theorem FrAt.put {D : DataW En} {L : List En} (h : FrAt D L) {e : En} (he : pkOk e) (hn : ∀ x ∈ L, pkL x ≠ pkL e) : FrAt (D.put (pkL e) (.held e)) (L ++ [e]) := by
 have hno : ¬ Maps.has D (pkL e) = true := fun q => by
  obtain ⟨x, hx, hq⟩ := (h.has _).1 q; exact hn x hx hq
 refine ⟨h.tidy.put (pk_lit he) _, ?_, fun kl x hx => ?_, fun kl => ?_, ?_, fun x hx => ?_⟩
 · rw [Maps.size_put h.tidy, if_neg hno, h.size, List.length_append]; rfl
 · by_cases hk : kl = pkL e
   · subst hk
     have := hx .nil; rw [Maps.atKey_put_same h.tidy.isMap (pk_lit he)] at this
     injection this with this
     subst this; exact ⟨by simp, rfl⟩
   · obtain ⟨q1, q2⟩ := h.hit kl x fun zd => by
      have := hx zd; rwa [Maps.atKey_put_other hk] at this
     exact ⟨List.mem_append_left _ q1, q2⟩
 · by_cases hk : kl = pkL e
   · subst hk
     exact ⟨fun _ => ⟨e, by simp, rfl⟩, fun _ => Maps.has_put_same h.tidy.isMap (pk_lit he) _⟩
   · rw [Maps.has_put_other hk, h.has]
     constructor
     · rintro ⟨x, hx, q⟩; exact ⟨x, List.mem_append_left _ hx, q⟩
     · rintro ⟨x, hx, q⟩
       rcases List.mem_append.1 hx with hx | hx
       · exact ⟨x, hx, q⟩
       · rw [List.mem_singleton] at hx; subst hx; exact absurd q.symm hk
 · rw [List.pairwise_append]
   exact ⟨h.nd, List.pairwise_singleton _ _, fun a ha b hb => by rw [List.mem_singleton] at hb; subst hb; exact hn a ha⟩
 · rcases List.mem_append.1 hx with hx | hx
   · exact h.ok x hx
   · rw [List.mem_singleton] at hx; subst hx; exact he
theorem FrAt.nodup {D : DataW En} {L : List En} (h : FrAt D L) : L.Nodup := h.nd.imp fun hab e => hab (by rw [e])
structure Coll (L : List En) (left : Lit → Bool) (ss : List En) : Prop where
 sub : ∀ e ∈ ss, e ∈ L
 nd : ss.Nodup
 off : ∀ e ∈ ss, left (pkL e) = false
 rest : ∀ e ∈ L, left (pkL e) = true ∨ e ∈ ss
theorem key_uniq {L : List En} (h : L.Pairwise (fun a b => pkL a ≠ pkL b)) {a b : En} (ha : a ∈ L) (hb : b ∈ L) (e : pkL a = pkL b) : a = b := by
 induction L with
 | nil => cases ha
 | cons x r ih =>
  obtain ⟨h1, h2⟩ := List.pairwise_cons.1 h
  rcases List.mem_cons.1 ha with e1 | ha'
  · rcases List.mem_cons.1 hb with e2 | hb'
    · rw [e1, e2]
    · rw [e1] at e; exact absurd e (h1 b hb')
  · rcases List.mem_cons.1 hb with e2 | hb'
    · rw [e2] at e; exact absurd e.symm (h1 a ha')
    · exact ih h2 ha' hb'
theorem Coll.start {D : DataW En} {L : List En} (h : FrAt D L) : Coll L (Maps.has D) [] := ⟨(fun e he => by cases he), List.nodup_nil, (fun e he => by cases he), fun e he => .inl ((h.has _).2 ⟨e, he, rfl⟩)⟩
theorem Coll.step {D : DataW En} {L ss : List En} {left : Lit → Bool} {kl : Lit} {c : En} (hF : FrAt D L) (h : Coll L left ss) (hl : left kl = true) (hat : ∀ zd, D.atKey kl zd = .held c) : Coll L (fun z => left z && !z.sameKey kl) (ss ++ [c]) := by
 obtain ⟨hc, rfl⟩ := hF.hit kl c hat; have hn : c ∉ ss := fun q => by have := h.off c q; rw [hl] at this; cases this
 refine ⟨fun e he => ?_, ?_, fun e he => ?_, fun e he => ?_⟩
 · rcases List.mem_append.1 he with he | he
   · exact h.sub e he
   · rw [List.mem_singleton] at he; subst he; exact hc
 · exact List.nodup_append.2 ⟨h.nd, by simp, fun a ha b hb e => by rw [List.mem_singleton] at hb; subst hb; subst e; exact hn ha⟩
 · rcases List.mem_append.1 he with he | he
   · simp [h.off e he]
   · rw [List.mem_singleton] at he; subst he
     simp [WideAt.sameKey_self (pk_lit (hF.ok e hc))]
 · rcases h.rest e he with q | q
   · by_cases hk : pkL e = pkL c
     · exact .inr (by rw [key_uniq hF.nd he hc hk]; simp)
     · left
       have : (pkL e).sameKey (pkL c) = false := by
        cases hs : (pkL e).sameKey (pkL c)
        · rfl
        · exact absurd (WideAt.sameKey_eq hs) hk
       simp [q, this]
   · exact .inr (List.mem_append_left _ q)
theorem Coll.perm {D : DataW En} {L ss : List En} {left : Lit → Bool} (hF : FrAt D L) (h : Coll L left ss) (hl : ∀ kl, left kl = false) : ss.Perm L :=
 (List.perm_ext_iff_of_nodup h.nd hF.nodup).2 fun e => ⟨h.sub e, fun he => (h.rest e he).resolve_left (by rw [hl]; decide)⟩
set_option maxRecDepth 100000 in
set_option maxHeartbeats 2000000 in
theorem iVals1 (n : Nat) (hn : 1 ≤ n) (Bm b nn : Nat) (D : DataW En) (L : List En) (hF : FrAt D L) (w : World) (hBm : Bm < w.heap.size) (hm : w.cell? ⟨Bm, 0, none⟩ = some (.map (some b))) (hown : w.ownsMap Tryz.prog 81 enRd b nn D) :
 SeqStopsK Fence.wide n Tryz.prog 78 #[.pointer (some ⟨Bm, 0, none⟩)] (fun e : En => #[enG e]) KeepsWalks (fun ss => ss.Perm L) (fun _ => True) L.length w := by
 intro l J Jx W hW hJ hJx hY h0
 have hownW : W.ownsMap Tryz.prog 81 enRd b nn D := by
  have hbl := hown.lt; obtain ⟨es, clock, hb, Ft, hs, hD⟩ := hown; exact ⟨es, clock, (hW.block b hbl).trans hb, Ft, hs, hD⟩
 have hmW : W.cell? ⟨Bm, 0, none⟩ = some (.map (some b)) := (hW.cell (p := ⟨Bm, 0, none⟩) hBm).trans hm; clear hown hm hW; refine callsIn_of_wp Tryz.func78 rfl trivial ?_ rfl; simp only [Tryz.ntmps78, List.size_toArray, List.length_cons, List.length_nil, Nat.reduceAdd, Nat.reduceSub, Array.replicate_succ, Array.replicate_zero, List.push_toArray, List.append_toArray, List.nil_append, List.cons_append]
 gi_wp2_with (first
  | (gi_at_range; refine wpListIn_range_own _ rfl _ 76 rfl 81 46 lawP Tryz.underlying76 _ b nn _ rfl hownW ?_; intro w0 hrg0 hg0 hs0)
  | gi_in)
 gi_loopw [4] (fun _ wr => ∃ (left : Lit → Bool) (cnt : Nat) (ss : List En), wr.ranges Tryz.prog 81 enRd b W.heap.size nn D left cnt ∧ ss.length + cnt ≤ L.length ∧ Coll L left ss ∧ J ss wr)
  (fun _ wr => wr.rangeLeft b W.heap.size)
 case atStart =>
  exact ⟨_, _, [], hrg0, by rw [hF.size]; simp, Coll.start hF, hJ [] W w0 none h0 hg0 (fun r e => by cases e)⟩
 case round =>
  obtain ⟨left, cnt, ss, hrg, hcs, hC, hJs⟩ := hrel
  gi_wp2_with (first
   | (gi_at_next; refine wpListIn_next_ranges _ rfl _ rfl 81 lawP enRd (id : Value → Value) enG (fun key kl hk => ⟨key, rfl⟩) (fun v y hv => by obtain ⟨e, he, _⟩ := enRd_inv hv; exact ⟨e, he⟩) b W.heap.size nn _ _ _ rfl hrg ?_ ?_)
   | gi_in)
  · intro hc0 hl0
    gi_wp2
    go_end0
    exact ⟨⟨_, rfl⟩, .inl ⟨ss, hC.perm hF hl0, hJs⟩⟩
  · intro x c kl yd yp w2 cnt2 hkey hlk hv hat hrg2 hlt hg2 hs2 hen
    rw [enRd_mk] at hv
    injection hv with hv
    injection hv with hv1 hv2
    subst hv1; have hC2 := hC.step hF hlk hat; have hcL : c ∈ L := hC2.sub c (by simp); have HC2 := hid hC2; have HRG := hid (hrg2.alloc (.cells #[.string c.ky, .int .i64 c.sq, .bool c.gn, .string c.tx] 46)); have hJ2 : J ss w2 := hJ ss wr w2 (some W.heap.size) hJs hg2 (fun r e => by cases e; exact ⟨Nat.le_refl _, hrg.iter_walk⟩); have hJ3 : J ss (w2.alloc (.cells #[.string c.ky, .int .i64 c.sq, .bool c.gn, .string c.tx] 46)) := hJ ss w2 _ none hJ2 (World.grownBy_alloc w2 _ none) (fun r e => by cases e); obtain ⟨fn, tmps, assign, body, hy, hR⟩ := hY ss c _ hJ3 (by omega); have HLQ := hid hrg; have HLT := hid hlt; have HCS := hid hcs; clear hs2 hrg2 hg2 hJ2 hJ3 hC2 hC hcL hrg hlk hat hkey hv2 hcs; obtain ⟨ky, sq, gn, tx⟩ := c; unfold enG at hen hy; dsimp only at hen hy HRG
    gi_wp2
    refine hR.mono ?_
    rintro e W3 (⟨rfl, hJ3, hk3⟩ | ⟨rfl, hJx3⟩)
    · gi_wp2
      have hrg3 := HRG.out.of_walks hk3
      go_roundw
      case rel => exact ⟨_, cnt2, ss ++ [⟨ky, sq, gn, tx⟩], hrg3, by have := HCS.out; have := HLT.out; simp; omega, HC2.out, hJ3⟩
      case measure => rw [hrg3.left_eq, HLQ.out.left_eq]; exact HLT.out
    · gi_wp2
      refine bodyPost_ret (results_none rfl _ _ _) rfl ?_; exact ⟨⟨_, rfl⟩, .inr ⟨_, trivial, hJx3⟩⟩
set_option maxRecDepth 100000 in
set_option maxHeartbeats 4000000 in
theorem iAppSeq (n : Nat) (hn : 2 ≤ n) (Bm b nn : Nat) (D : DataW En) (L : List En) (hF : FrAt D L) (hL : L.length ≤ 1048576) (w : World) (hBm : Bm < w.heap.size) (hm : w.cell? ⟨Bm, 0, none⟩ = some (.map (some b))) (hown : w.ownsMap Tryz.prog 81 enRd b nn D) :
 CallsIn Fence.wide n Tryz.prog 97 #[.slice none 0 0, .func (.func 78) #[] #[.pointer (some ⟨Bm, 0, none⟩)]] w fun e W' =>
  ∃ v ss, e = .returned v ∧ ss.Perm L ∧ OwnEn W' w.heap.size v ss ∧ Below w.heap.size w W' := by
 obtain ⟨i0, hi, hz0, hz1, hz2⟩ := info_parts Tryz.infoEn; have bO := Boxed.new w 23 (.slice none 0 0); have hB0 : Below w.heap.size w (w.alloc (.cells #[.slice none 0 0] 23)) := (Below.refl _ w).alloc (Nat.le_refl _) _; refine callsIn_of_wp_marks Tryz.func97 rfl trivial ?_ rfl; simp only [Tryz.ntmps97, List.size_toArray, List.length_cons, List.length_nil, Nat.reduceAdd, Nat.reduceSub, Array.replicate_succ, Array.replicate_zero, List.push_toArray, List.append_toArray, List.nil_append, List.cons_append]
 gi_wp2
 refine wpIn_rangeFunc_ownH rfl (by omega) (gf := 78) (lb := #[.pointer (some ⟨Bm, 0, none⟩)]) rfl trivial (enters_of Tryz.func78 (by kernel_rfl) rfl)
  (iVals1 (n - 1) (by omega) Bm b nn D L hF w hBm hm hown)
  (fun a b => a.trans b) (fun W l o o' hl h ho hw => KeepsWalks.putObj _ h hw) hB0 (fun _ => rfl)
  (fun pre W => (∃ v, Boxed W w.heap.size 23 v ∧ W.ownsRow w.heap.size 46 4 v pre.length (enL pre) ∧ True) ∧ Below w.heap.size w W)
  (fun _ _ _ => False)
  (OwnFrom.and (Own.from (holdsRow_own w.heap.size w.heap.size 23 46 4 (fun pre => pre.length) (fun pre => enL pre) (fun _ _ => True)) _) (ownFrom_below (Nat.le_refl _) (by simp)))
  (fun _ _ _ _ _ hs _ _ => hs)
  ⟨⟨_, bO, World.ownsRow_nil _ _ _ _, trivial⟩, hB0⟩
  (fun i a' W => ∃ Bv, w.heap.size < Bv ∧ RA W Bv 46 #[.string i.ky, .int .i64 i.sq, .bool i.gn, .string i.tx] ∧ a' = { tmps := #[.slice none 0 0, .func (.func 78) #[] #[.pointer (some ⟨Bm, 0, none⟩)], .pointer (some ⟨w.heap.size, 0, none⟩), undef, .slice none 0 0, .pointer (some ⟨Bv, 0, none⟩), .func (.func 78) #[] #[.pointer (some ⟨Bm, 0, none⟩)], enG i, undef, undef, undef, undef, undef], defers := [] })
  ?hax ?assign ?body ?done ?stop
 case hax =>
  rintro i a' _ A B row ⟨Bv, h1, h2, h3⟩ hg hr
  refine ⟨Bv, h1, (hg.block Bv h2.lt (fun e => ?_)).trans h2, h3⟩; obtain ⟨_, o, ho, hc⟩ := hr Bv e.symm; rw [show A.heap[Bv]? = _ from h2] at ho; cases ho; cases hc
 case assign =>
  rintro l pre x W K0 ⟨⟨v, hv, hrow, _⟩, hB⟩ hK
  have hK' := hK _ (W.alloc (.cells #[.string x.ky, .int .i64 x.sq, .bool x.gn, .string x.tx] 46)) ((KeepsOthers.alloc _ _).from _) (KeepsWalks.alloc _ _) ⟨⟨v, hv.alloc _, hrow.alloc _, trivial⟩, hB.alloc hB.size _⟩ ⟨W.heap.size, hv.lt, RA.new _ _ _, rfl⟩; clear hK; obtain ⟨ky, sq, gn, tx⟩ := x; unfold enG at hK' ⊢; dsimp only at hK' ⊢
  gi_wp2
  exact hK'
 case body =>
  rintro l pre x a' W hl ⟨r, hr⟩ ⟨⟨v, hv, hrow, _⟩, hB⟩ ⟨Bv, hBv, bX, rfl⟩ hlt
  have hF : Hid (enL (pre ++ [x]) = enL pre ++ [.string x.ky, .int .i64 x.sq, .bool x.gn, .string x.tx]) := by
   show _ = _
   rw [enL_app]; rfl
  obtain ⟨ky, sq, gn, tx⟩ := x; unfold enG; dsimp only at bX hF ⊢; have c0 := bX.cell 0; have c1 := bX.cell 1; have c2 := bX.cell 2; have c3 := bX.cell 3; have cv := hv.cell
  gi_wp2_with (gi_at_builtin; refine wpListIn_append_fresh _ rfl _ _ 23 rfl w.heap.size 46 i0 _ 4 48 Tryz.underlying23 hi hz0 hz1 hz2 rfl (by decide) _ _ _ rfl (hrow.alloc _) ⟨W.heap.size, 0, none⟩ 1 1 [.string ky, .int .i64 sq, .bool gn, .string tx] rfl rfl ?_ ?_ (by unfold maxLen; omega) (by omega) (by have := hB.size; simp; omega) ?_)
  · intro j u hj
    have R := RA.new W 46 #[.string ky, .int .i64 sq, .bool gn, .string tx]
    match j, hj with
    | 0, hj => simp at hj; subst hj; exact R.cell 0
    | 1, hj => simp at hj; subst hj; exact R.cell 1
    | 2, hj => simp at hj; subst hj; exact R.cell 2
    | 3, hj => simp at hj; subst hj; exact R.cell 3
  · intro u hu; simp at hu; rcases hu with rfl | rfl | rfl | rfl <;> rfl
  · intro v' w1 hown' hgrow hfr
    obtain ⟨g', cap', rfl⟩ := ownsRow_succ hown'; obtain ⟨hv1, hv2, hr2, hk2, hb2⟩ := hv.appended (by decide) hrow hB.size (Nat.le_refl _) hown' hgrow; have hc1 := hv1.cell; have hf1 := hv1.frozen
    have hT1 : KeepsWalks (W.alloc (.cells #[.string ky, .int .i64 sq, .bool gn, .string tx] 46)) w1 := KeepsWalks.of_grownBy hgrow (fun r o e ho => by
     obtain ⟨_, _, cs, hr⟩ := OwnEn.row (w := W) (base := w.heap.size) (v := v) (L := pre) hrow (g := r) e; have := (hr.alloc _).symm.trans ho
     cases this
     rfl)
    have hT2 : KeepsWalks W (w1.setCell ⟨w.heap.size, 0, none⟩ (.slice (some ⟨g', 0, none⟩) (pre.length + 1) cap')) := ((KeepsWalks.alloc _ _).trans hT1).trans (KeepsWalks.setCell _ _ _)
    gi_wp2
    exact ⟨hk2.from _, hT2, ⟨_, hv2, by rw [hF.out, List.length_append]; exact hr2, trivial⟩, hB.trans hb2⟩
 case done =>
  rintro Df ys W hD hS ⟨⟨v, hv, hrow, _⟩, hB⟩ hK
  have cv := hv.cell
  gi_wp2
  refine ⟨by simp, .inl ⟨_, _, rfl, run_takeDeferred hK, ?_⟩⟩; refine ⟨_, results_tmp rfl _ _ _, v, ys, rfl, hS, ownsRow_putObj hrow (.deferred none) hK rfl, hB.trans (belowK_b (w := w) (Nat.le_refl _) W Df _ _ (by simp at hD; omega) hK rfl rfl)⟩
 case stop =>
  rintro Df c pre W _ _ h _
  exact h.elim
set_option maxRecDepth 20000 in
theorem iCollE (Bm b nn : Nat) (D : DataW En) (L : List En) (hF : FrAt D L) (hL : L.length ≤ 1048576) (w : World) (hBm : Bm < w.heap.size) (hm : w.cell? ⟨Bm, 0, none⟩ = some (.map (some b))) (hown : w.ownsMap Tryz.prog 81 enRd b nn D) :
 Calls Tryz.prog 76 #[.func (.func 78) #[] #[.pointer (some ⟨Bm, 0, none⟩)]] w fun e W' =>
  ∃ v ss, e = .returned v ∧ ss.Perm L ∧ OwnEn W' w.heap.size v ss ∧ Below w.heap.size w W' := by
 have K := hid ((callsIn_wide (n := 5)).1 (iAppSeq 5 (by omega) Bm b nn D L hF hL w hBm hm hown)); clear hm hown
 go_enter Tryz.func76, Tryz.ntmps76
 go_wp2_with fail
 refine K.out.mono ?_
 rintro e w1 ⟨v, ss, rfl, hp, ho, hb⟩
 obtain ⟨a, c, rfl⟩ := ho.slice; have HO := hid ho; have HB := hid hb; have HP := hid hp
 generalize ss.length = N at HO ⊢
 clear ho hb hp K
 go_wp2
 go_ret
 exact ⟨_, ss, rfl, HP.out, HO.out, HB.out⟩
set_option maxRecDepth 20000 in
theorem iSortedF (Bm b nn : Nat) (D : DataW En) (L : List En) (hF : FrAt D L) (hL : L.length ≤ 1048576) (w : World) (hBm : Bm < w.heap.size) (hm : w.cell? ⟨Bm, 0, none⟩ = some (.map (some b))) (hown : w.ownsMap Tryz.prog 81 enRd b nn D) :
 Calls Tryz.prog 61 #[.func (.func 78) #[] #[.pointer (some ⟨Bm, 0, none⟩)], .func (.func 63) #[] #[]] w fun e W' =>
  ∃ v ss, e = .returned v ∧ ss.Perm L ∧ ss.Pairwise (fun a b => ¬ enLt b a) ∧ OwnEn W' w.heap.size v ss ∧ Below w.heap.size w W' := by
 have K := hid (iCollE Bm b nn D L hF hL w hBm hm hown); clear hm hown
 go_enter Tryz.func61, Tryz.ntmps61
 go_wp2_with fail
 refine K.out.mono ?_
 rintro e w1 ⟨v, ss, rfl, hp, ho, hb⟩
 have KS := hid (iSortF w.heap.size v ss (by rw [hp.length_eq]; exact hL) w1 ho); have HO := hid ho; have HB := hid hb; have HP := hid hp; obtain ⟨a, c, rfl⟩ := ho.slice
 generalize ss.length = N at HO KS ⊢
 clear ho hb hp K
 go_wp2_with fail
 refine KS.out.mono ?_
 rintro e w2 ⟨rfl, ⟨L', hp2, hs2, ho2⟩, hg2⟩
 have HP2 := hid (hp2.trans HP.out); have HS2 := hid hs2; have HO2 := hid ho2; have HB2 : Hid (Below w.heap.size w w2) := HB.out.grown hg2 HB.out.size (fun k e => (HO.out.row e).1); clear hp2 hs2 ho2 hg2 KS
 go_wp2
 go_ret
 exact ⟨_, L', rfl, HP2.out, HS2.out, HO2.out, HB2.out⟩
end Go.Proofs.YtcbmgpdpjagaoaaGreat
