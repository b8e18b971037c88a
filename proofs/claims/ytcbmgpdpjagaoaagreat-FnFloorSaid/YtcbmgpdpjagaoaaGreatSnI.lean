import Derived.Test.YtcbmgpdpjagaoaaGreatMgR
import Derived.Test.YtcbmgpdpjagaoaaGreatS1
namespace Go.Proofs.YtcbmgpdpjagaoaaGreat
open Go.RowKit Go.Shelf
set_option linter.unusedVariables false
attribute [local go_sem] Oper.semAt_some
structure ScB (w : World) (til : ByteArray) (seq lim : Int) (W : World) (v : Value) (L : List En) (key : ByteArray) : Prop where
 t : RA W w.heap.size 9 #[.string til]
 q : RA W (w.heap.size + 1) 2 #[.int .i64 seq]
 l : RA W (w.heap.size + 2) 2 #[.int .i64 lim]
 s : RA W (w.heap.size + 3) 90 #[.string key]
 o : RA W (w.heap.size + 4) 23 #[v]
 own : OwnEn W (w.heap.size + 7) v L
 bl : Below w.heap.size w W
 sz : w.heap.size + 7 ≤ W.heap.size
theorem ScB.grow {w A B : World} {til : ByteArray} {seq lim : Int} {v : Value} {L : List En} {key : ByteArray} {row : Option Nat} (h : ScB w til seq lim A v L key) (hg : A.grownBy B row) (hr : ∀ r, row = some r → w.heap.size + 7 ≤ r ∧ ∃ o, A.heap[r]? = some o ∧ o.isCells = false) : ScB w til seq lim B v L key := by
 have kp : ∀ {b t cs}, RA A b t cs → RA B b t cs := fun {b t cs} q => (hg.block b q.lt (fun e => by
  obtain ⟨_, o, ho, hc⟩ := hr b e.symm; have := q.symm.trans ho
  cases this
  cases hc)).trans q
 exact ⟨kp h.t, kp h.q, kp h.l, kp h.s, kp h.o, h.own.keep fun g cs _ q => kp q, h.bl.grown hg h.bl.size (fun r e => by have := (hr r e).1; omega), Nat.le_trans h.sz hg.size⟩
theorem ScB.rq {w A B : World} {til : ByteArray} {seq lim : Int} {B0 : Nat} {v : Value} {L : List En} {key : ByteArray} (h : ScB w til seq lim A v L key) (hg : RQB B0 A B) (hB : w.heap.size ≤ B0) : ScB w til seq lim B v L key :=
 ⟨hg.1.row h.t (by decide) (by decide) (by decide), hg.1.row h.q (by decide) (by decide) (by decide), hg.1.row h.l (by decide) (by decide) (by decide), hg.1.row h.s (by decide) (by decide) (by decide), hg.1.row h.o (by decide) (by decide) (by decide), h.own.keep fun g cs _ q => hg.1.row q (by decide) (by decide) (by decide), ⟨hg.1.os.trans h.bl.os, hg.1.tape.trans h.bl.tape, hg.1.output.trans h.bl.output, Nat.le_trans h.bl.size hg.1.size, fun j hj => (hg.2 j (by omega)).trans (h.bl.block j hj)⟩, Nat.le_trans h.sz hg.1.size⟩
theorem ScB.app {w W w5 : World} {til : ByteArray} {seq lim : Int} {v v' : Value} {L : List En} {e : En} {key : ByteArray} (h : ScB w til seq lim W v L key) (hg : W.grownBy w5 v.ownBlock) (ho : OwnEn w5 (w.heap.size + 7) v' (L ++ [e])) : ScB w til seq lim (w5.setCell ⟨w.heap.size + 4, 0, none⟩ v') v' (L ++ [e]) key := by
 have ne : ∀ j, j < w.heap.size + 7 → some j ≠ v.ownBlock := fun j hj e => by have := (h.own.row e.symm).1; omega
 have kp : ∀ {j t cs}, j < w.heap.size + 7 → RA W j t cs → RA w5 j t cs := fun {j t cs} hj q => (hg.block j q.lt (ne j hj)).trans q; refine ⟨(kp (by omega) h.t).other _ _ (by show w.heap.size ≠ w.heap.size + 4; omega), (kp (by omega) h.q).other _ _ (by show w.heap.size + 1 ≠ w.heap.size + 4; omega), (kp (by omega) h.l).other _ _ (by show w.heap.size + 2 ≠ w.heap.size + 4; omega), (kp (by omega) h.s).other _ _ (by show w.heap.size + 3 ≠ w.heap.size + 4; omega), (kp (by omega) h.o).set 0 _, ho.keep fun g cs e q => q.other _ _ (by have := (ho.row e).1; show g ≠ w.heap.size + 4; omega), (h.bl.grown hg h.bl.size (fun j e => by have := (h.own.row e).1; omega)).setCell (by show w.heap.size ≤ w.heap.size + 4; omega) _, Nat.le_trans h.sz (Nat.le_trans hg.size grown_set.size)⟩
theorem ScB.sv {w W w2 : World} {til : ByteArray} {seq lim : Int} {v : Value} {L : List En} {key key' : ByteArray} (h : ScB w til seq lim W v L key) (hg : W.grownBy w2 (some (w.heap.size + 3))) (hs : RA w2 (w.heap.size + 3) 90 #[.string key']) : ScB w til seq lim w2 v L key' := by
 have kp : ∀ {j t cs}, j ≠ w.heap.size + 3 → RA W j t cs → RA w2 j t cs := fun {j t cs} hj q => (hg.block j q.lt (fun e => hj (Option.some.inj e))).trans q; exact ⟨kp (by omega) h.t, kp (by omega) h.q, kp (by omega) h.l, hs, kp (by omega) h.o, h.own.keep fun g cs e q => kp (by have := (h.own.row e).1; omega) q, h.bl.grown hg h.bl.size (fun j e => by have := Option.some.inj e; omega), Nat.le_trans h.sz hg.size⟩
def ScI (w : World) (til : ByteArray) (seq lim : Int) (es : List En) (k : Nat) (W : World) (v : Value) (L : List En) (key : ByteArray) : Prop :=
 ScB w til seq lim W v L key ∧ scL til seq lim ⟨#[]⟩ [] es = scL til seq lim key L (es.drop k) ∧ L.length ≤ k
structure Kp7 (w A B : World) : Prop where
 k : KpQ w.heap.size A B
 f : KeepsFrom (w.heap.size + 7) A B
theorem Kp7.trans {w A B C : World} (h : Kp7 w A B) (h' : Kp7 w B C) : Kp7 w A C := ⟨h.k.trans h'.k, h.f.trans h'.f⟩
theorem Kp7.row {w A B : World} {g : Nat} {t : TypeId} {cs : Array Value} (hg : A.grownBy B (some g)) (hr : RA A g t cs) (hw : w.heap.size ≤ g) (h1 : t ≠ 109) (h2 : t ≠ 112) (h3 : t ≠ 114) (hs : w.heap.size ≤ A.heap.size) : Kp7 w A B := by
 have K := Kpt.row (w := w) hg hr hw h1 h2 h3 hs; refine ⟨K.k, ⟨hg.size, fun j o hB hj ho => (hg.block j (Array.getElem?_eq_some_iff.1 hj).1 (fun e => ?_)).trans hj⟩⟩; have := Option.some.inj e; subst this; have := hr.symm.trans hj
 cases this
 cases ho
theorem Kp7.own {w A B : World} {v : Value} {L : List En} {b : Nat} (h : OwnEn A b v L) (hg : A.grownBy B v.ownBlock) (hb : w.heap.size ≤ b) (hs : w.heap.size ≤ A.heap.size) : Kp7 w A B := by
 have K := Kpt.own (w := w) h hg hb hs; refine ⟨K.k, ⟨hg.size, fun j o hB hj ho => (hg.block j (Array.getElem?_eq_some_iff.1 hj).1 (fun e => ?_)).trans hj⟩⟩; obtain ⟨_, _, cs, hr⟩ := h.row e.symm; have := hr.symm.trans hj
 cases this
 cases ho
theorem sc_stop {til : ByteArray} {seq lim : Int} {key : ByteArray} {L : List En} {e : En} {r : List En} (h : lim ≤ (L.length : Int) ∨ (til ≠ ⟨#[]⟩ ∧ kLt e.ky til = false)) : scL til seq lim key L (e :: r) = L := by unfold scL; rw [if_pos h]
theorem sc_new {til : ByteArray} {seq lim : Int} {key : ByteArray} {L : List En} {e : En} {r : List En} (h : ¬ (lim ≤ (L.length : Int) ∨ (til ≠ ⟨#[]⟩ ∧ kLt e.ky til = false))) (h1 : ¬ e.sq ≤ seq) : scL til seq lim key L (e :: r) = scL til seq lim key L r := by
 conv => lhs; unfold scL
 rw [if_neg h, if_neg h1]
theorem sc_old {til : ByteArray} {seq lim : Int} {key : ByteArray} {L : List En} {e : En} {r : List En} (h : ¬ (lim ≤ (L.length : Int) ∨ (til ≠ ⟨#[]⟩ ∧ kLt e.ky til = false))) (h1 : e.sq ≤ seq) (h2 : e.ky = key) : scL til seq lim key L (e :: r) = scL til seq lim key L r := by
 conv => lhs; unfold scL
 rw [if_neg h, if_pos h1, if_pos h2]
theorem sc_gone {til : ByteArray} {seq lim : Int} {key : ByteArray} {L : List En} {e : En} {r : List En} (h : ¬ (lim ≤ (L.length : Int) ∨ (til ≠ ⟨#[]⟩ ∧ kLt e.ky til = false))) (h1 : e.sq ≤ seq) (h2 : ¬ e.ky = key) (h3 : e.gn = true) : scL til seq lim key L (e :: r) = scL til seq lim e.ky L r := by
 conv => lhs; unfold scL
 rw [if_neg h, if_pos h1, if_neg h2, if_pos h3]
theorem sc_let {til : ByteArray} {seq lim : Int} {key : ByteArray} {L : List En} {e : En} {r : List En} (h : ¬ (lim ≤ (L.length : Int) ∨ (til ≠ ⟨#[]⟩ ∧ kLt e.ky til = false))) (h1 : e.sq ≤ seq) (h2 : ¬ e.ky = key) (h3 : e.gn = false) : scL til seq lim key L (e :: r) = scL til seq lim e.ky (L ++ [e]) r := by
 conv => lhs; unfold scL
 rw [if_neg h, if_pos h1, if_neg h2, if_neg (by rw [h3]; simp)]
theorem scan_ret {w W' : World} {D : Nat} {v : Value} {M : List En} {tm : Array Value} (hK : W'.heap[D]? = some (.deferred (some [])))
 (so : OwnEn (W'.putObj D (.deferred none)) w.heap.size v M) (bl : Below w.heap.size w (W'.putObj D (.deferred none))) (h2 : tm.getD 10 undef = v) :
 bodyPostM Fence.wide 5 Tryz.prog Tryz.f37 (fun e w' => (∃ v, e = .returned v ∧ OwnEn w' w.heap.size v M) ∧ Below w.heap.size w w') Exit.ret { tmps := tm, defers := [{ target := .collected D, args := #[] }] } W' := by
 refine ⟨by simp, .inl ⟨_, _, rfl, run_takeDeferred hK, ?_⟩⟩; refine ⟨v, ?_, ⟨v, rfl, so⟩, bl⟩; subst h2; exact results_tmp Tryz.results37 _ _ _
set_option maxRecDepth 100000 in
set_option maxHeartbeats 8000000 in
theorem iScan (a : Option Addr) (m cap : Nat) (R : Nat → Rn) (from_ til : ByteArray) (seq lim : Int) (hf1 : from_.size ≤ 100000) (ht1 : til.size ≤ 100000) (hm : m ≤ 1000) (hn : ∀ r, r < m → (R r).n ≤ 1048576) (st : Nat → Nat) (S : List Tg) (hSl : S.length ≤ 1000000) (w : World)
 (hN : Rns w a m cap R) (hR : RSrt R m) (hst : StOk R m from_ st) (hS : S.Pairwise tLt) (hM : Rem S R m st 0) :
 Calls Tryz.prog 37 #[.slice a m cap, .string from_, .string til, .int .i64 seq, .int .i64 lim] w fun e w' => (∃ v, e = .returned v ∧ OwnEn w' w.heap.size v (scL til seq lim ⟨#[]⟩ [] (S.map Prod.fst))) ∧ Below w.heap.size w w' := by
 refine (callsIn_wide (n := 5)).1 ?_; obtain ⟨es, hes⟩ : ∃ es, es = S.map Prod.fst := ⟨_, rfl⟩; rw [← hes]; have HES := hid hes; have HN := hid hN; have df : decide ((100000 : Int) < (from_.size : Int)) = false := by simp; omega
 have dt : decide ((100000 : Int) < (til.size : Int)) = false := by simp; omega
 clear hes hN; obtain ⟨V0, hV0⟩ : ∃ W, W = ((w.alloc (.cells #[.string til] 9)).alloc (.cells #[.int .i64 seq] 2)).alloc (.cells #[.int .i64 lim] 2) := ⟨_, rfl⟩; have zv : V0.heap.size = w.heap.size + 3 := by rw [hV0]; simp only [World.size_alloc]
 have rA0 : RA V0 w.heap.size 9 #[.string til] := by rw [hV0]; exact ((RA.new _ _ _).alloc _).alloc _
 have rB0 : RA V0 (w.heap.size + 1) 2 #[.int .i64 seq] := by rw [hV0]; exact (RA.next _ _ _ (by rw [World.size_alloc])).alloc _
 have rC0 : RA V0 (w.heap.size + 2) 2 #[.int .i64 lim] := by rw [hV0]; exact RA.next _ _ _ (by simp only [World.size_alloc])
 have bv : Below w.heap.size w V0 := by rw [hV0]; exact (((Below.refl _ w).alloc (Nat.le_refl _) _).alloc (by simp) _).alloc (by simp; omega) _
 have c0 := rA0.cell 0; obtain ⟨W0, hW0⟩ : ∃ W, W = (V0.alloc (.cells #[.string ⟨#[]⟩] 90)).alloc (.cells #[.slice none 0 0] 23) := ⟨_, rfl⟩; have Z0 : Hid (W0.heap.size = w.heap.size + 5) := by rw [hW0]; show _ = _; simp only [World.size_alloc]; omega
 have rA : RA W0 w.heap.size 9 #[.string til] := by rw [hW0]; exact (rA0.alloc _).alloc _
 have rB : RA W0 (w.heap.size + 1) 2 #[.int .i64 seq] := by rw [hW0]; exact (rB0.alloc _).alloc _
 have rC : RA W0 (w.heap.size + 2) 2 #[.int .i64 lim] := by rw [hW0]; exact (rC0.alloc _).alloc _
 have rD : RA W0 (w.heap.size + 3) 90 #[.string ⟨#[]⟩] := by rw [hW0]; exact (RA.next _ _ _ (by omega)).alloc _
 have rE : RA W0 (w.heap.size + 4) 23 #[.slice none 0 0] := by rw [hW0]; exact RA.next _ _ _ (by simp only [World.size_alloc]; omega)
 have b0 : Below w.heap.size w W0 := by rw [hW0]; exact (bv.alloc bv.size _).alloc (by simp; omega) _
 refine callsIn_of_wp_marks Tryz.func37 rfl trivial ?_ rfl; simp only [Tryz.ntmps37, List.size_toArray, List.length_cons, List.length_nil, Nat.reduceAdd, Nat.reduceSub, Array.replicate_succ, Array.replicate_zero, List.push_toArray, List.append_toArray, List.nil_append, List.cons_append]
 gi_wp2_with fail
 rw [← hV0, ← hW0]; clear hV0 hW0 c0; refine ⟨trivial, (callsIn_wide.2 (iMerged a m cap from_ W0)).mono ?_⟩
 rintro e wL ⟨rfl, hwL⟩
 rw [Z0.out]; obtain ⟨X, hX⟩ : ∃ X, X = w.heap.size := ⟨_, rfl⟩; have ZL : Hid (wL.heap.size = X + 7) := by rw [hwL, hX]; show _ = _; simp only [World.size_alloc]; have := Z0.out; omega
 have bL : Below W0.heap.size W0 wL := by rw [hwL]; exact ((Below.refl _ W0).alloc (Nat.le_refl _) _).alloc (by simp) _
 have BW := hid (b0.trans (bL.mono b0.size)); have RR : Hid (RA wL (X + 5) 26 #[.slice a m cap]) := by rw [hwL, hX]; exact (RA.next _ _ _ Z0.out.symm).alloc _
 have RF : Hid (RA wL (X + 5 + 1) 9 #[.string from_]) := by rw [hwL, hX]; exact RA.next _ _ _ (by rw [World.size_alloc, Z0.out])
 have I0 : Hid (ScI w til seq lim es 0 wL (.slice none 0 0) [] ⟨#[]⟩) := ⟨⟨rA.below bL rA.lt, rB.below bL rB.lt, rC.below bL rC.lt, rD.below bL rD.lt, rE.below bL rE.lt, OwnEn.nil _ _, BW.out, by rw [ZL.out, hX]; exact Nat.le_refl _⟩, rfl, Nat.le_refl _⟩; have hsq := iMrg (5 - 1) (X + 5) (X + 5 + 1) a m cap R from_ hm hn st S w wL BW.out RR.out RF.out HN.out hR hst hS hM; rw [← hX]; have HX := hid hX; clear hwL bL rA rB rC rD rE rA0 rB0 rC0 b0 bv zv hX Z0
 gi_wp2
 refine wpIn_rangeR rfl (by decide) (gf := 68) (lb := #[.pointer (some ⟨X + 5, 0, none⟩), .pointer (some ⟨X + 5 + 1, 0, none⟩)]) rfl trivial (enters_of Tryz.func68 (by kernel_rfl) rfl)
  hsq (Below.refl _ _) (fun h k => h.trans k) ?kb ?rk (fun _ => rfl) (fun k W => ∃ v L key, ScI w til seq lim es k W v L key) (fun c k W => c = Code.exit 0 ∧ ∃ v key, ScB w til seq lim W v (scL til seq lim ⟨#[]⟩ [] es) key) ?oI ?oX ?iR ?xR ⟨_, _, _, I0.out⟩
  (fun k a' W => ∃ y, a' = { tmps := #[.slice a m cap, .string from_, .string til, .int .i64 seq, .int .i64 lim, undef, undef, .pointer (some ⟨X, 0, none⟩), .pointer (some ⟨X + 1, 0, none⟩), .pointer (some ⟨X + 1 + 1, 0, none⟩), .slice none 0 0, .pointer (some ⟨X + 1 + 1 + 1, 0, none⟩), .pointer (some ⟨X + 1 + 1 + 1 + 1, 0, none⟩), .pointer (some ⟨y, 0, none⟩), .string from_, .int .i64 (from_.size : Int), .bool false, .bool false, .string til, .int .i64 (til.size : Int), .bool false, .bool false, .slice a m cap, .string from_, .func (.func 68) #[] #[.pointer (some ⟨X + 5, 0, none⟩), .pointer (some ⟨X + 5 + 1, 0, none⟩)], .agg #[.string (S.getD k (en0, 0)).1.ky, .int .i64 (S.getD k (en0, 0)).1.sq, .bool (S.getD k (en0, 0)).1.gn, .string (S.getD k (en0, 0)).1.tx], undef, undef, undef, undef, undef, undef, undef, undef, undef, undef, undef, undef, undef, undef, undef, undef, undef, undef, undef, undef, undef, undef, undef, undef, undef, undef, undef], defers := [] } ∧ RA W y 46 #[.string (S.getD k (en0, 0)).1.ky, .int .i64 (S.getD k (en0, 0)).1.sq, .bool (S.getD k (en0, 0)).1.gn, .string (S.getD k (en0, 0)).1.tx] ∧ X + 7 ≤ y)
  ?hAx ?assign ?body ?done ?stop
 case kb =>
  intro W l o o' hl h ho _; have hlt := (Array.getElem?_eq_some_iff.1 h).1; have g := grownBy_putObj' W l o'; refine ⟨g.os, g.tape, g.output, g.size, fun k hk => g.block k (by rw [ZL.out] at hl; have := HX.out; omega) (fun e => by cases e; rw [ZL.out] at hl; have := HX.out; omega), fun k t cs _ hr => (g.block k hr.lt (fun e => ?_)).trans hr⟩
  cases e
  have := hr.symm.trans h
  cases this
  cases ho
 case rk =>
  intro A B h; refine ⟨h.1.size, fun j o hB hj ho => ?_⟩
  rcases h.1.keep j (Array.getElem?_eq_some_iff.1 hj).1 with ⟨t, cs, hr, _⟩ | q
  · have := hr.symm.trans hj
    cases this
    cases ho
  · exact q.trans hj
 case oI =>
  rintro k A B row ⟨v, L, key, h⟩ hg hr
  exact ⟨v, L, key, h.1.grow hg fun r e => ⟨by have := (hr r e).1; rw [ZL.out] at this; have := HX.out; omega, (hr r e).2⟩, h.2⟩
 case oX =>
  rintro c k A B row ⟨hc, v, key, h⟩ hg hr
  exact ⟨hc, v, key, h.grow hg fun r e => ⟨by have := (hr r e).1; rw [ZL.out] at this; have := HX.out; omega, (hr r e).2⟩⟩
 case iR =>
  rintro k A B ⟨v, L, key, h⟩ hg
  exact ⟨v, L, key, h.1.rq hg (Nat.le_refl _), h.2⟩
 case xR =>
  rintro c k A B ⟨hc, v, key, h⟩ hg
  exact ⟨hc, v, key, h.rq hg (Nat.le_refl _)⟩
 case hAx =>
  rintro k a' u A B row ⟨y, he, hy, hyX⟩ hg hr
  refine ⟨y, he, (hg.block y hy.lt (fun e => ?_)).trans hy, hyX⟩; obtain ⟨_, o, ho, hc⟩ := hr y e.symm; have := hy.symm.trans ho
  cases this
  cases hc
 case assign =>
  rintro l k W K0 hk ⟨v, L, key, hI⟩ hK
  have b9 : Below W.heap.size W (W.alloc (.cells #[.string (S.getD k (en0, 0)).1.ky, .int .i64 (S.getD k (en0, 0)).1.sq, .bool (S.getD k (en0, 0)).1.gn, .string (S.getD k (en0, 0)).1.tx] 46)) := (Below.refl _ _).alloc (Nat.le_refl _) _; have hK' := hK _ _ (KeepsFrom.of_grownBy (below_grown b9 none) (fun j hj => by cases hj)) (kpq_below b9 (by have := hI.1.sz; omega)) ⟨v, L, key, hI.1.grow (below_grown b9 none) (fun r e => by cases e), hI.2⟩ ⟨W.heap.size, rfl, RA.new _ _ _, by have := hI.1.sz; have := HX.out; omega⟩; clear hK b9 hk
  gi_wp2
  exact hK'
 case body =>
  rintro l k a' W hl hr hk ⟨v, L, key, hI⟩ ⟨y, rfl, hy, hyX⟩
  have hdr : es.drop k = (S.getD k (en0, 0)).1 :: es.drop (k + 1) := by
   have e1 : es[k]? = some ((S.getD k (en0, 0)).1) := by rw [HES.out, List.getElem?_map, List.getD_eq_getElem?_getD, List.getElem?_eq_getElem hk]; rfl
   obtain ⟨h2, h3⟩ := List.getElem?_eq_some_iff.1 e1; rw [List.drop_eq_getElem_cons h2, h3]
  have EQ : Hid (scL til seq lim ⟨#[]⟩ [] es = scL til seq lim key L ((S.getD k (en0, 0)).1 :: es.drop (k + 1))) := by show _ = _; rw [hI.2.1, hdr]
  have hll : L.length ≤ k := hI.2.2; have hkk : k ≤ 1000000 := by omega
  have MB := hid hI.1; have YY := hid hy; clear hdr hI hy hr hk hl hsq I0
  generalize (S.getD k (en0, 0)).1 = e at EQ YY ⊢
  obtain ⟨ky, sq, gn, tx⟩ := e; dsimp only at YY ⊢; obtain ⟨a1, c1, hv1⟩ := MB.out.own.slice; have hx := HX.out; have rt : RA W X 9 #[.string til] := by rw [hx]; exact MB.out.t
  have rq : RA W (X + 1) 2 #[.int .i64 seq] := by rw [hx]; exact MB.out.q
  have rl : RA W (X + 1 + 1) 2 #[.int .i64 lim] := by rw [hx]; exact MB.out.l
  have ro : RA W (X + 1 + 1 + 1 + 1) 23 #[v] := by rw [hx]; exact MB.out.o
  have t0 := rt.cell 0; have q0 := rq.cell 0; have l0 := rl.cell 0; have o0 := ro.cell 0; rw [hv1] at o0; have y0 := YY.out.cell 0; have y1 := YY.out.cell 1; have y2 := YY.out.cell 2; have y3 := YY.out.cell 3; clear rt rq rl ro hx
  by_cases hl1 : lim ≤ (L.length : Int)
  · have dl : decide (lim ≤ (L.length : Int)) = true := by simpa using hl1
    have ST : Hid (lim ≤ (L.length : Int) ∨ (til ≠ ⟨#[]⟩ ∧ kLt ky til = false)) := .inl hl1; have KT : Hid (Kp7 w W W) := ⟨kpq_below (Below.refl _ _) (by have := MB.out.sz; omega), ⟨Nat.le_refl _, fun j o hB hj ho => hj⟩⟩; have E5 : Hid (ScB w til seq lim W v (scL til seq lim ⟨#[]⟩ [] es) key) := by rw [EQ.out, sc_stop ST.out]; exact MB.out
    gi_wp2
    exact ⟨by rw [show wL.heap.size = w.heap.size + 7 by rw [ZL.out, HX.out]]; exact KT.out.f, rfl, _, _, E5.out⟩
  · have dl : decide (lim ≤ (L.length : Int)) = false := by simpa using hl1
    by_cases ht0 : til = ⟨#[]⟩
    · have de : (til.toList == []) = true := by rw [ht0, baT]; rfl
      have NS : Hid (¬ (lim ≤ (L.length : Int) ∨ (til ≠ ⟨#[]⟩ ∧ kLt ky til = false))) := fun q => q.elim hl1 fun z => z.1 ht0; clear ht0
      by_cases hq : sq ≤ seq
      · have dq : decide (sq ≤ seq) = true := by simpa using hq
        by_cases hk2 : ky = key
        · have E5 := hid (EQ.out.trans (sc_old NS.out hq hk2))
          have KL := hid (iLets (w.heap.size + 3) key ⟨ky, sq, gn, tx⟩ W MB.out.s); dsimp only at KL; rw [if_pos hk2, if_pos hk2, show w.heap.size + 3 = X + 1 + 1 + 1 by have := HX.out; omega] at KL; clear hk2
          gi_wp2_with fail
          refine ⟨trivial, (CallsIn.inRound l (callsIn_wide.2 KL.out)).mono ?_⟩
          rintro r w2 ⟨rfl, hs2, hg2⟩
          rw [show X + 1 + 1 + 1 = w.heap.size + 3 by have := HX.out; omega] at hs2 hg2; have MB2 := hid (MB.out.sv hg2 hs2); have KT2 := hid (Kp7.row (w := w) hg2 MB.out.s (by omega) (by decide) (by decide) (by decide) (by have := MB.out.sz; omega)); have I5 : Hid (ScI w til seq lim es (k + 1) w2 v L key) := ⟨MB2.out, E5.out, by omega⟩; have KT := KT2; clear hs2 hg2 KL MB2
          gi_wp2
          exact ⟨by rw [show wL.heap.size = w.heap.size + 7 by rw [ZL.out, HX.out]]; exact KT.out.f, KT.out.k, _, _, _, I5.out⟩
        · cases gn with
          | true =>
           have E5 := hid (EQ.out.trans (sc_gone NS.out hq hk2 rfl)); have KL := hid (iLets (w.heap.size + 3) key ⟨ky, sq, true, tx⟩ W MB.out.s); dsimp only at KL; rw [if_neg hk2, if_neg hk2, show w.heap.size + 3 = X + 1 + 1 + 1 by have := HX.out; omega] at KL; clear hk2
           gi_wp2_with fail
           refine ⟨trivial, (CallsIn.inRound l (callsIn_wide.2 KL.out)).mono ?_⟩
           rintro r w2 ⟨rfl, hs2, hg2⟩
           rw [show X + 1 + 1 + 1 = w.heap.size + 3 by have := HX.out; omega] at hs2 hg2; have MB2 := hid (MB.out.sv hg2 hs2); have KT2 := hid (Kp7.row (w := w) hg2 MB.out.s (by omega) (by decide) (by decide) (by decide) (by have := MB.out.sz; omega)); have I5 : Hid (ScI w til seq lim es (k + 1) w2 v L ky) := ⟨MB2.out, E5.out, by omega⟩; have KT := KT2; clear hs2 hg2 KL MB2
           gi_wp2
           exact ⟨by rw [show wL.heap.size = w.heap.size + 7 by rw [ZL.out, HX.out]]; exact KT.out.f, KT.out.k, _, _, _, I5.out⟩
          | false =>
           have E5 := hid (EQ.out.trans (sc_let NS.out hq hk2 rfl)); have KL := hid (iLets (w.heap.size + 3) key ⟨ky, sq, false, tx⟩ W MB.out.s); dsimp only at KL; rw [if_neg hk2, if_neg hk2, show w.heap.size + 3 = X + 1 + 1 + 1 by have := HX.out; omega] at KL; clear hk2
           gi_wp2_with fail
           refine ⟨trivial, (CallsIn.inRound l (callsIn_wide.2 KL.out)).mono ?_⟩
           rintro r w2 ⟨rfl, hs2, hg2⟩
           rw [show X + 1 + 1 + 1 = w.heap.size + 3 by have := HX.out; omega] at hs2 hg2; have MB2 := hid (MB.out.sv hg2 hs2); have KT2 := hid (Kp7.row (w := w) hg2 MB.out.s (by omega) (by decide) (by decide) (by decide) (by have := MB.out.sz; omega)); have Y2 : Hid (RA w2 y 46 #[.string ky, .int .i64 sq, .bool false, .string tx]) := (hg2.block y YY.out.lt (fun e => by have := Option.some.inj e; have := HX.out; omega)).trans YY.out; clear hs2 hg2 KL y0 y1 y2 y3 t0 q0 l0 o0; have ro : RA w2 (X + 1 + 1 + 1 + 1) 23 #[v] := by rw [HX.out]; exact MB2.out.o
           have o0 := ro.cell 0; rw [hv1] at o0; have y0 := Y2.out.cell 0; have y1 := Y2.out.cell 1; have y2 := Y2.out.cell 2; have y3 := Y2.out.cell 3; clear ro
           gi_wp2_with (gi_at_builtin; revert HX)
           intro HX; refine append_enIn (w.heap.size + 7) w2 rfl (.tmp 48) (.tmp 50) rfl (.slice a1 L.length c1) L ⟨ky, sq, false, tx⟩ rfl (by rw [← hv1]; exact MB2.out.own) MB2.out.sz rfl (by omega) ?_; intro v' w5 hO5 hg5; obtain ⟨a2, c2, hv2⟩ := hO5.slice; subst hv2; rw [← hv1] at hg5; have ro5 : RA w5 (w.heap.size + 4) 23 #[v] := (hg5.block _ MB2.out.o.lt (fun e => by have := (MB2.out.own.row e.symm).1; omega)).trans MB2.out.o; have MB5 := hid (MB2.out.app hg5 hO5); have KT := hid (KT2.out.trans ((Kp7.own (w := w) MB2.out.own hg5 (by omega) (by have := MB2.out.sz; omega)).trans (Kp7.row (w := w) (grown_setCellQ w5 (w.heap.size + 4) 0 (.slice a2 (L ++ [(⟨ky, sq, false, tx⟩ : En)]).length c2)) ro5 (by omega) (by decide) (by decide) (by decide) (by have := MB2.out.sz; have := hg5.size; omega)))); have e3 : w.heap.size + 4 = X + 1 + 1 + 1 + 1 := by have := HX.out; omega
           rw [e3] at MB5 KT ro5; have d0 := ro5.cell 0; rw [hv1] at d0; have d1 := ro5.free 0; have I5 : Hid (ScI w til seq lim es (k + 1) _ _ (L ++ [(⟨ky, sq, false, tx⟩ : En)]) ky) := ⟨MB5.out, E5.out, by rw [List.length_append]; show L.length + 1 ≤ k + 1; omega⟩
           generalize (L ++ [(⟨ky, sq, false, tx⟩ : En)]).length = LL at MB5 KT I5 ⊢
           clear ro5 hg5 hO5 e3 MB5
           gi_wp2
           exact ⟨by rw [show wL.heap.size = w.heap.size + 7 by rw [ZL.out, HX.out]]; exact KT.out.f, KT.out.k, _, _, _, I5.out⟩
      · have dq : decide (sq ≤ seq) = false := by simpa using hq
        have E5 := hid (EQ.out.trans (sc_new NS.out hq)); have KT : Hid (Kp7 w W W) := ⟨kpq_below (Below.refl _ _) (by have := MB.out.sz; omega), ⟨Nat.le_refl _, fun j o hB hj ho => hj⟩⟩; have I5 : Hid (ScI w til seq lim es (k + 1) W v L key) := ⟨MB.out, E5.out, by omega⟩
        gi_wp2_with fail
        refine ⟨trivial, ?_⟩
        gi_wp2
        exact ⟨by rw [show wL.heap.size = w.heap.size + 7 by rw [ZL.out, HX.out]]; exact KT.out.f, KT.out.k, _, _, _, I5.out⟩
    · have de : (til.toList == []) = false := by
       have : til.toList ≠ [] := fun q => ht0 (ByteArray.ext (by rw [baT] at q; apply Array.toList_inj.1; exact q))
       simpa using this
      cases hkt : kLt ky til with
      | false =>
       have dk : Op.bytesLess ky.toList til.toList = false := hkt; have ST : Hid (lim ≤ (L.length : Int) ∨ (til ≠ ⟨#[]⟩ ∧ kLt ky til = false)) := .inr ⟨ht0, hkt⟩; clear ht0 hkt; have KT : Hid (Kp7 w W W) := ⟨kpq_below (Below.refl _ _) (by have := MB.out.sz; omega), ⟨Nat.le_refl _, fun j o hB hj ho => hj⟩⟩; have E5 : Hid (ScB w til seq lim W v (scL til seq lim ⟨#[]⟩ [] es) key) := by rw [EQ.out, sc_stop ST.out]; exact MB.out
       gi_wp2
       exact ⟨by rw [show wL.heap.size = w.heap.size + 7 by rw [ZL.out, HX.out]]; exact KT.out.f, rfl, _, _, E5.out⟩
      | true =>
       have dk : Op.bytesLess ky.toList til.toList = true := hkt; have NS : Hid (¬ (lim ≤ (L.length : Int) ∨ (til ≠ ⟨#[]⟩ ∧ kLt ky til = false))) := fun q => q.elim hl1 fun z => by rw [hkt] at z; cases z.2
       clear ht0 hkt
       by_cases hq : sq ≤ seq
       · have dq : decide (sq ≤ seq) = true := by simpa using hq
         by_cases hk2 : ky = key
         · have E5 := hid (EQ.out.trans (sc_old NS.out hq hk2))
           have KL := hid (iLets (w.heap.size + 3) key ⟨ky, sq, gn, tx⟩ W MB.out.s); dsimp only at KL; rw [if_pos hk2, if_pos hk2, show w.heap.size + 3 = X + 1 + 1 + 1 by have := HX.out; omega] at KL; clear hk2
           gi_wp2_with fail
           refine ⟨trivial, (CallsIn.inRound l (callsIn_wide.2 KL.out)).mono ?_⟩
           rintro r w2 ⟨rfl, hs2, hg2⟩
           rw [show X + 1 + 1 + 1 = w.heap.size + 3 by have := HX.out; omega] at hs2 hg2; have MB2 := hid (MB.out.sv hg2 hs2); have KT2 := hid (Kp7.row (w := w) hg2 MB.out.s (by omega) (by decide) (by decide) (by decide) (by have := MB.out.sz; omega)); have I5 : Hid (ScI w til seq lim es (k + 1) w2 v L key) := ⟨MB2.out, E5.out, by omega⟩; have KT := KT2; clear hs2 hg2 KL MB2
           gi_wp2
           exact ⟨by rw [show wL.heap.size = w.heap.size + 7 by rw [ZL.out, HX.out]]; exact KT.out.f, KT.out.k, _, _, _, I5.out⟩
         · cases gn with
           | true =>
            have E5 := hid (EQ.out.trans (sc_gone NS.out hq hk2 rfl)); have KL := hid (iLets (w.heap.size + 3) key ⟨ky, sq, true, tx⟩ W MB.out.s); dsimp only at KL; rw [if_neg hk2, if_neg hk2, show w.heap.size + 3 = X + 1 + 1 + 1 by have := HX.out; omega] at KL; clear hk2
            gi_wp2_with fail
            refine ⟨trivial, (CallsIn.inRound l (callsIn_wide.2 KL.out)).mono ?_⟩
            rintro r w2 ⟨rfl, hs2, hg2⟩
            rw [show X + 1 + 1 + 1 = w.heap.size + 3 by have := HX.out; omega] at hs2 hg2; have MB2 := hid (MB.out.sv hg2 hs2); have KT2 := hid (Kp7.row (w := w) hg2 MB.out.s (by omega) (by decide) (by decide) (by decide) (by have := MB.out.sz; omega)); have I5 : Hid (ScI w til seq lim es (k + 1) w2 v L ky) := ⟨MB2.out, E5.out, by omega⟩; have KT := KT2; clear hs2 hg2 KL MB2
            gi_wp2
            exact ⟨by rw [show wL.heap.size = w.heap.size + 7 by rw [ZL.out, HX.out]]; exact KT.out.f, KT.out.k, _, _, _, I5.out⟩
           | false =>
            have E5 := hid (EQ.out.trans (sc_let NS.out hq hk2 rfl)); have KL := hid (iLets (w.heap.size + 3) key ⟨ky, sq, false, tx⟩ W MB.out.s); dsimp only at KL; rw [if_neg hk2, if_neg hk2, show w.heap.size + 3 = X + 1 + 1 + 1 by have := HX.out; omega] at KL; clear hk2
            gi_wp2_with fail
            refine ⟨trivial, (CallsIn.inRound l (callsIn_wide.2 KL.out)).mono ?_⟩
            rintro r w2 ⟨rfl, hs2, hg2⟩
            rw [show X + 1 + 1 + 1 = w.heap.size + 3 by have := HX.out; omega] at hs2 hg2; have MB2 := hid (MB.out.sv hg2 hs2); have KT2 := hid (Kp7.row (w := w) hg2 MB.out.s (by omega) (by decide) (by decide) (by decide) (by have := MB.out.sz; omega)); have Y2 : Hid (RA w2 y 46 #[.string ky, .int .i64 sq, .bool false, .string tx]) := (hg2.block y YY.out.lt (fun e => by have := Option.some.inj e; have := HX.out; omega)).trans YY.out; clear hs2 hg2 KL y0 y1 y2 y3 t0 q0 l0 o0; have ro : RA w2 (X + 1 + 1 + 1 + 1) 23 #[v] := by rw [HX.out]; exact MB2.out.o
            have o0 := ro.cell 0; rw [hv1] at o0; have y0 := Y2.out.cell 0; have y1 := Y2.out.cell 1; have y2 := Y2.out.cell 2; have y3 := Y2.out.cell 3; clear ro
            gi_wp2_with (gi_at_builtin; revert HX)
            intro HX; refine append_enIn (w.heap.size + 7) w2 rfl (.tmp 48) (.tmp 50) rfl (.slice a1 L.length c1) L ⟨ky, sq, false, tx⟩ rfl (by rw [← hv1]; exact MB2.out.own) MB2.out.sz rfl (by omega) ?_; intro v' w5 hO5 hg5; obtain ⟨a2, c2, hv2⟩ := hO5.slice; subst hv2; rw [← hv1] at hg5; have ro5 : RA w5 (w.heap.size + 4) 23 #[v] := (hg5.block _ MB2.out.o.lt (fun e => by have := (MB2.out.own.row e.symm).1; omega)).trans MB2.out.o; have MB5 := hid (MB2.out.app hg5 hO5); have KT := hid (KT2.out.trans ((Kp7.own (w := w) MB2.out.own hg5 (by omega) (by have := MB2.out.sz; omega)).trans (Kp7.row (w := w) (grown_setCellQ w5 (w.heap.size + 4) 0 (.slice a2 (L ++ [(⟨ky, sq, false, tx⟩ : En)]).length c2)) ro5 (by omega) (by decide) (by decide) (by decide) (by have := MB2.out.sz; have := hg5.size; omega)))); have e3 : w.heap.size + 4 = X + 1 + 1 + 1 + 1 := by have := HX.out; omega
            rw [e3] at MB5 KT ro5; have d0 := ro5.cell 0; rw [hv1] at d0; have d1 := ro5.free 0; have I5 : Hid (ScI w til seq lim es (k + 1) _ _ (L ++ [(⟨ky, sq, false, tx⟩ : En)]) ky) := ⟨MB5.out, E5.out, by rw [List.length_append]; show L.length + 1 ≤ k + 1; omega⟩
            generalize (L ++ [(⟨ky, sq, false, tx⟩ : En)]).length = LL at MB5 KT I5 ⊢
            clear ro5 hg5 hO5 e3 MB5
            gi_wp2
            exact ⟨by rw [show wL.heap.size = w.heap.size + 7 by rw [ZL.out, HX.out]]; exact KT.out.f, KT.out.k, _, _, _, I5.out⟩
       · have dq : decide (sq ≤ seq) = false := by simpa using hq
         have E5 := hid (EQ.out.trans (sc_new NS.out hq)); have KT : Hid (Kp7 w W W) := ⟨kpq_below (Below.refl _ _) (by have := MB.out.sz; omega), ⟨Nat.le_refl _, fun j o hB hj ho => hj⟩⟩; have I5 : Hid (ScI w til seq lim es (k + 1) W v L key) := ⟨MB.out, E5.out, by omega⟩
         gi_wp2_with fail
         refine ⟨trivial, ?_⟩
         gi_wp2
         exact ⟨by rw [show wL.heap.size = w.heap.size + 7 by rw [ZL.out, HX.out]]; exact KT.out.f, KT.out.k, _, _, _, I5.out⟩
 case done =>
  rintro D W hD ⟨v, L, key, hI⟩ hK
  have LF : Hid (scL til seq lim ⟨#[]⟩ [] es = L) := by
   show _ = _
   have e := hI.2.1; rw [HES.out, List.drop_of_length_le (by simp)] at e; rw [HES.out, e]; unfold scL
   rfl
  have MB := hid hI.1; have HDD : Hid (X + 7 ≤ D) := by show _ ≤ _; rw [ZL.out] at hD; exact hD
  clear hI hD; obtain ⟨a1, cp1, rfl⟩ := MB.out.own.slice; have hx := HX.out; have rd : RA W (X + 1 + 1 + 1 + 1) 23 #[.slice a1 L.length cp1] := by rw [hx]; exact MB.out.o
  have c0 := rd.cell 0
  have so : OwnEn (W.putObj D (.deferred none)) w.heap.size (.slice a1 L.length cp1) L := (MB.out.own.keep fun g cs e q => ((grownBy_putObj' W D _).block g q.lt (fun e2 => by
   cases e2
   have := q.symm.trans hK
   cases this)).trans q).baseLe (by omega)
  have bl : Below w.heap.size w (W.putObj D (.deferred none)) := MB.out.bl.grown (grownBy_putObj' W D _) MB.out.bl.size (fun j hj => by cases hj; have := HDD.out; omega); have HK' := hid hK; have SO := hid so; have BL := hid bl; clear rd hK hx so bl I0 hsq
  gi_wp2
  exact scan_ret HK'.out (by rw [LF.out]; exact SO.out) BL.out rfl
 case stop =>
  rintro D c k W hD hk ⟨rfl, v, key, hI⟩ hK
  obtain ⟨L, hLL⟩ : ∃ L, L = scL til seq lim ⟨#[]⟩ [] es := ⟨_, rfl⟩; rw [← hLL] at hI; have LF : Hid (scL til seq lim ⟨#[]⟩ [] es = L) := hLL.symm; have MB := hid hI; have HDD : Hid (X + 7 ≤ D) := by show _ ≤ _; rw [ZL.out] at hD; exact hD
  clear hI hLL hD; obtain ⟨a1, cp1, rfl⟩ := MB.out.own.slice; have hx := HX.out; have rd : RA W (X + 1 + 1 + 1 + 1) 23 #[.slice a1 L.length cp1] := by rw [hx]; exact MB.out.o
  have c0 := rd.cell 0
  have so : OwnEn (W.putObj D (.deferred none)) w.heap.size (.slice a1 L.length cp1) L := (MB.out.own.keep fun g cs e q => ((grownBy_putObj' W D _).block g q.lt (fun e2 => by
   cases e2
   have := q.symm.trans hK
   cases this)).trans q).baseLe (by omega)
  have bl : Below w.heap.size w (W.putObj D (.deferred none)) := MB.out.bl.grown (grownBy_putObj' W D _) MB.out.bl.size (fun j hj => by cases hj; have := HDD.out; omega); have HK' := hid hK; have SO := hid so; have BL := hid bl; clear rd hK hx so bl I0 hsq
  gi_wp2
  exact scan_ret HK'.out (by rw [LF.out]; exact SO.out) BL.out rfl
end Go.Proofs.YtcbmgpdpjagaoaaGreat
