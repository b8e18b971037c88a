import Derived.Test.YtcbmgpdpjagaoaaGreatMgL
import Derived.Test.YtcbmgpdpjagaoaaGreatEnO
namespace Go.Proofs.YtcbmgpdpjagaoaaGreat
open Go.RowKit Go.Shelf
set_option linter.unusedVariables false
attribute [local go_sem] Oper.semAt_some
structure MrI (w : World) (fl : Int) (es : List En) (k : Nat) (W : World) (v : Value) (L : List En) (key : ByteArray) : Prop where
 a : RA W w.heap.size 2 #[.int .i64 fl]
 r : RA W (w.heap.size + 1) 25 #[.slice none 0 0]
 s : RA W (w.heap.size + 2) 90 #[.string key]
 o : RA W (w.heap.size + 3) 25 #[v]
 own : OwnEn W (w.heap.size + 6) v L
 eq : mgP fl ⟨#[]⟩ es = L ++ mgP fl key (es.drop k)
 len : L.length ≤ k
 bl : Below w.heap.size w W
 sz : w.heap.size + 6 ≤ W.heap.size
theorem MrI.grow {w A B : World} {fl : Int} {es : List En} {k : Nat} {v : Value} {L : List En} {key : ByteArray} {row : Option Nat} (h : MrI w fl es k A v L key) (hg : A.grownBy B row) (hr : ∀ r, row = some r → w.heap.size + 6 ≤ r ∧ ∃ o, A.heap[r]? = some o ∧ o.isCells = false) : MrI w fl es k B v L key := by
 have kp : ∀ {b t cs}, RA A b t cs → RA B b t cs := fun {b t cs} q => (hg.block b q.lt (fun e => by
  obtain ⟨_, o, ho, hc⟩ := hr b e.symm; have := q.symm.trans ho
  cases this
  cases hc)).trans q
 exact ⟨kp h.a, kp h.r, kp h.s, kp h.o, h.own.keep fun g cs _ q => kp q, h.eq, h.len, h.bl.grown hg h.bl.size (fun r e => by have := (hr r e).1; omega), Nat.le_trans h.sz hg.size⟩
theorem MrI.rq {w A B : World} {fl : Int} {es : List En} {k B0 : Nat} {v : Value} {L : List En} {key : ByteArray} (h : MrI w fl es k A v L key) (hg : RQB B0 A B) (hB : w.heap.size ≤ B0) : MrI w fl es k B v L key :=
 ⟨hg.1.row h.a (by decide) (by decide) (by decide), hg.1.row h.r (by decide) (by decide) (by decide), hg.1.row h.s (by decide) (by decide) (by decide), hg.1.row h.o (by decide) (by decide) (by decide), h.own.keep fun g cs _ q => hg.1.row q (by decide) (by decide) (by decide), h.eq, h.len, ⟨hg.1.os.trans h.bl.os, hg.1.tape.trans h.bl.tape, hg.1.output.trans h.bl.output, Nat.le_trans h.bl.size hg.1.size, fun j hj => (hg.2 j (by omega)).trans (h.bl.block j hj)⟩, Nat.le_trans h.sz hg.1.size⟩
theorem kpq_below {A B : World} {B0 : Nat} (h : Below A.heap.size A B) (hB : B0 ≤ A.heap.size) : KpQ B0 A B := ⟨h.os, h.tape, h.output, h.size, fun j hj => h.block j (by omega), fun j t cs _ hr => hr.below h hr.lt⟩
theorem OwnEn.baseLe {w : World} {B B' : Nat} {v : Value} {L : List En} (h : OwnEn w B v L) (hb : B' ≤ B) : OwnEn w B' v L := by
 refine ⟨h.1, ?_⟩
 rcases h.2 with h0 | ⟨g, cap, cur, he, hb2, r⟩
 · exact .inl h0
 · exact .inr ⟨g, cap, cur, he, by omega, r⟩
structure MrB (w : World) (fl : Int) (W : World) (v : Value) (L : List En) (key : ByteArray) : Prop where
 a : RA W w.heap.size 2 #[.int .i64 fl]
 r : RA W (w.heap.size + 1) 25 #[.slice none 0 0]
 s : RA W (w.heap.size + 2) 90 #[.string key]
 o : RA W (w.heap.size + 3) 25 #[v]
 own : OwnEn W (w.heap.size + 6) v L
 bl : Below w.heap.size w W
 sz : w.heap.size + 6 ≤ W.heap.size
theorem MrI.b {w W : World} {fl : Int} {es : List En} {k : Nat} {v : Value} {L : List En} {key : ByteArray} (h : MrI w fl es k W v L key) : MrB w fl W v L key := ⟨h.a, h.r, h.s, h.o, h.own, h.bl, h.sz⟩
theorem MrB.i {w W : World} {fl : Int} {es : List En} {k : Nat} {v : Value} {L : List En} {key : ByteArray} (h : MrB w fl W v L key) (he : mgP fl ⟨#[]⟩ es = L ++ mgP fl key (es.drop k)) (hl : L.length ≤ k) : MrI w fl es k W v L key := ⟨h.a, h.r, h.s, h.o, h.own, he, hl, h.bl, h.sz⟩
theorem MrB.app {w W w5 : World} {fl : Int} {v v' : Value} {L : List En} {e : En} {key : ByteArray} (h : MrB w fl W v L key) (hg : W.grownBy w5 v.ownBlock) (ho : OwnEn w5 (w.heap.size + 6) v' (L ++ [e])) : MrB w fl (w5.setCell ⟨w.heap.size + 3, 0, none⟩ v') v' (L ++ [e]) key := by
 have ne : ∀ j, j < w.heap.size + 6 → some j ≠ v.ownBlock := fun j hj e => by have := (h.own.row e.symm).1; omega
 have kp : ∀ {j t cs}, j < w.heap.size + 6 → RA W j t cs → RA w5 j t cs := fun {j t cs} hj q => (hg.block j q.lt (ne j hj)).trans q; refine ⟨(kp (by omega) h.a).other _ _ (by show w.heap.size ≠ w.heap.size + 3; omega), (kp (by omega) h.r).other _ _ (by show w.heap.size + 1 ≠ w.heap.size + 3; omega), (kp (by omega) h.s).other _ _ (by show w.heap.size + 2 ≠ w.heap.size + 3; omega), (kp (by omega) h.o).set 0 _, ho.keep fun g cs e q => q.other _ _ (by have := (ho.row e).1; show g ≠ w.heap.size + 3; omega), (h.bl.grown hg h.bl.size (fun j e => by have := (h.own.row e).1; omega)).setCell (by show w.heap.size ≤ w.heap.size + 3; omega) _, Nat.le_trans h.sz (Nat.le_trans hg.size grown_set.size)⟩
theorem MrB.sv {w W w2 : World} {fl : Int} {v : Value} {L : List En} {key key' : ByteArray} (h : MrB w fl W v L key) (hg : W.grownBy w2 (some (w.heap.size + 2))) (hs : RA w2 (w.heap.size + 2) 90 #[.string key']) : MrB w fl w2 v L key' := by
 have kp : ∀ {j t cs}, j ≠ w.heap.size + 2 → RA W j t cs → RA w2 j t cs := fun {j t cs} hj q => (hg.block j q.lt (fun e => hj (Option.some.inj e))).trans q; exact ⟨kp (by omega) h.a, kp (by omega) h.r, hs, kp (by omega) h.o, h.own.keep fun g cs e q => kp (by have := (h.own.row e).1; omega) q, h.bl.grown hg h.bl.size (fun j e => by have := Option.some.inj e; omega), Nat.le_trans h.sz hg.size⟩
structure Kpt (w A B : World) : Prop where
 k : KpQ w.heap.size A B
 f : KeepsFrom (w.heap.size + 6) A B
theorem Kpt.trans {w A B C : World} (h : Kpt w A B) (h' : Kpt w B C) : Kpt w A C := ⟨h.k.trans h'.k, h.f.trans h'.f⟩
theorem Kpt.below {w A B : World} (h : Below A.heap.size A B) (hs : w.heap.size ≤ A.heap.size) : Kpt w A B := ⟨kpq_below h hs, KeepsFrom.of_grownBy (below_grown h none) (fun j hj => by cases hj)⟩
theorem Kpt.row {w A B : World} {g : Nat} {t : TypeId} {cs : Array Value} (hg : A.grownBy B (some g)) (hr : RA A g t cs) (hw : w.heap.size ≤ g) (h1 : t ≠ 109) (h2 : t ≠ 112) (h3 : t ≠ 114) (hs : w.heap.size ≤ A.heap.size) : Kpt w A B := by
 refine ⟨⟨hg.os, hg.tape, hg.output, hg.size, fun j hj => hg.block j (by omega) (fun e => by have := Option.some.inj e; omega), fun j u ds hu q => (hg.block j q.lt (fun e => ?_)).trans q⟩, ⟨hg.size, fun j o hB hj ho => (hg.block j (Array.getElem?_eq_some_iff.1 hj).1 (fun e => ?_)).trans hj⟩⟩
 · have := Option.some.inj e
   subst this; have := hr.symm.trans q
   simp at this
   rcases hu with rfl | rfl | rfl
   · exact h1 this.2
   · exact h2 this.2
   · exact h3 this.2
 · have := Option.some.inj e
   subst this; have := hr.symm.trans hj
   cases this
   cases ho
theorem Kpt.own {w A B : World} {v : Value} {L : List En} {b : Nat} (h : OwnEn A b v L) (hg : A.grownBy B v.ownBlock) (hb : w.heap.size ≤ b) (hs : w.heap.size ≤ A.heap.size) : Kpt w A B := by
 cases e : v.ownBlock with
 | none =>
  rw [e] at hg; exact ⟨⟨hg.os, hg.tape, hg.output, hg.size, fun j hj => hg.block j (by omega) (by simp), fun j u ds hu q => (hg.block j q.lt (by simp)).trans q⟩, ⟨hg.size, fun j o hB hj ho => (hg.block j (Array.getElem?_eq_some_iff.1 hj).1 (by simp)).trans hj⟩⟩
 | some g =>
  rw [e] at hg; obtain ⟨h1, _, cs, hr⟩ := h.row e; exact Kpt.row hg hr (by omega) (by decide) (by decide) (by decide) hs
theorem merge_ret {w W' : World} {X D : Nat} {v : Value} {M : List En} {tm : Array Value} (hK : W'.heap[D]? = some (.deferred (some []))) (sa : RA (W'.putObj D (.deferred none)) X 25 #[v])
 (so : OwnEn (W'.putObj D (.deferred none)) w.heap.size v M) (bl : Below w.heap.size w (W'.putObj D (.deferred none))) (h2 : tm.getD 4 undef = .pointer (some ⟨X, 0, none⟩)) :
 bodyPostM Fence.wide 5 Tryz.prog Tryz.f58 (fun e w' => (∃ v, e = .returned (.agg #[v]) ∧ OwnEn w' w.heap.size v M) ∧ Below w.heap.size w w') Exit.ret { tmps := tm, defers := [{ target := .collected D, args := #[] }] } W' := by
 refine ⟨by simp, .inl ⟨_, _, rfl, run_takeDeferred hK, ?_⟩⟩; refine ⟨.agg #[v], ?_, ⟨v, rfl, so⟩, bl⟩; exact results_cell_row Tryz.results58 _ _ X _ _ _ _ h2 sa Tryz.underlying25 rfl (by kernel_rfl)
set_option maxRecDepth 20000 in
theorem iMerged (a : Option Addr) (m cap : Nat) (k : ByteArray) (w : World) :
 Calls Tryz.prog 54 #[.slice a m cap, .string k] w fun e w' => e = .returned (.func (.func 68) #[] #[.pointer (some ⟨w.heap.size, 0, none⟩), .pointer (some ⟨w.heap.size + 1, 0, none⟩)]) ∧ w' = (w.alloc (.cells #[.slice a m cap] 26)).alloc (.cells #[.string k] 9) := by
 have hmf : ∀ (fn : Fn) (first cap : Array Value) (w : World), (Instr.makeFunc fn first cap).run Tryz.prog w = .ok (.func fn first cap) w := fun _ _ _ _ => rfl
 go_enter Tryz.func54, Tryz.ntmps54
 go_wp2
 go_ret
 exact ⟨rfl, rfl⟩
set_option maxRecDepth 100000 in
set_option maxHeartbeats 4000000 in
theorem iMerge (a : Option Addr) (m cap : Nat) (R : Nat → Rn) (fl : Int) (hm : m ≤ 1000) (hn : ∀ r, r < m → (R r).n ≤ 1048576) (st : Nat → Nat) (S : List Tg) (hSl : S.length ≤ 1000000) (w : World)
 (hN : Rns w a m cap R) (hR : RSrt R m) (hst : StOk R m ⟨#[]⟩ st) (hS : S.Pairwise tLt) (hM : Rem S R m st 0) :
 Calls Tryz.prog 58 #[.slice a m cap, .int .i64 fl] w fun e w' => (∃ v, e = .returned (.agg #[v]) ∧ OwnEn w' w.heap.size v (mgP fl ⟨#[]⟩ (S.map Prod.fst))) ∧ Below w.heap.size w w' := by
 refine (callsIn_wide (n := 5)).1 ?_; obtain ⟨es, hes⟩ : ∃ es, es = S.map Prod.fst := ⟨_, rfl⟩; rw [← hes]; have HES := hid hes; have HN := hid hN; clear hes hN; obtain ⟨W0, hW0⟩ : ∃ W, W = (((w.alloc (.cells #[.int .i64 fl] 2)).alloc (.cells #[.slice none 0 0] 25)).alloc (.cells #[.string ⟨#[]⟩] 90)).alloc (.cells #[.slice none 0 0] 25) := ⟨_, rfl⟩; have Z0 : Hid (W0.heap.size = w.heap.size + 4) := by rw [hW0]; show _ = _; simp only [World.size_alloc]
 have rA : RA W0 w.heap.size 2 #[.int .i64 fl] := by rw [hW0]; exact (((RA.new _ _ _).alloc _).alloc _).alloc _
 have rB : RA W0 (w.heap.size + 1) 25 #[.slice none 0 0] := by rw [hW0]; exact ((RA.next _ _ _ (by rw [World.size_alloc])).alloc _).alloc _
 have rC : RA W0 (w.heap.size + 2) 90 #[.string ⟨#[]⟩] := by rw [hW0]; exact (RA.next _ _ _ (by simp only [World.size_alloc])).alloc _
 have rD : RA W0 (w.heap.size + 3) 25 #[.slice none 0 0] := by rw [hW0]; exact RA.next _ _ _ (by simp only [World.size_alloc])
 have b0 : Below w.heap.size w W0 := by rw [hW0]; exact ((((Below.refl _ w).alloc (Nat.le_refl _) _).alloc (by simp) _).alloc (by simp; omega) _).alloc (by simp; omega) _
 refine callsIn_of_wp_marks Tryz.func58 rfl trivial ?_ rfl; simp only [Tryz.ntmps58, List.size_toArray, List.length_cons, List.length_nil, Nat.reduceAdd, Nat.reduceSub, Array.replicate_succ, Array.replicate_zero, List.push_toArray, List.append_toArray, List.nil_append, List.cons_append]
 gi_wp2_with fail
 rw [← hW0]; clear hW0; refine ⟨trivial, (callsIn_wide.2 (iMerged a m cap ⟨#[]⟩ W0)).mono ?_⟩
 rintro e wL ⟨rfl, hwL⟩
 rw [Z0.out]; obtain ⟨X, hX⟩ : ∃ X, X = w.heap.size := ⟨_, rfl⟩; have ZL : Hid (wL.heap.size = X + 6) := by rw [hwL, hX]; show _ = _; simp only [World.size_alloc]; have := Z0.out; omega
 have bL : Below W0.heap.size W0 wL := by rw [hwL]; exact ((Below.refl _ W0).alloc (Nat.le_refl _) _).alloc (by simp) _
 have BW := hid (b0.trans (bL.mono b0.size)); have RR : Hid (RA wL (X + 4) 26 #[.slice a m cap]) := by rw [hwL, hX]; exact (RA.next _ _ _ Z0.out.symm).alloc _
 have RF : Hid (RA wL (X + 4 + 1) 9 #[.string ⟨#[]⟩]) := by rw [hwL, hX]; exact RA.next _ _ _ (by rw [World.size_alloc, Z0.out])
 have I0 : Hid (MrI w fl es 0 wL (.slice none 0 0) [] ⟨#[]⟩) := ⟨rA.below bL rA.lt, rB.below bL rB.lt, rC.below bL rC.lt, rD.below bL rD.lt, OwnEn.nil _ _, rfl, Nat.le_refl _, BW.out, by rw [ZL.out, hX]; exact Nat.le_refl _⟩; have hsq := iMrg (5 - 1) (X + 4) (X + 4 + 1) a m cap R ⟨#[]⟩ hm hn st S w wL BW.out RR.out RF.out HN.out hR hst hS hM; rw [← hX]; have HX := hid hX; clear hwL bL rA rB rC rD b0 hX Z0
 gi_wp2
 refine wpIn_rangeR rfl (by decide) (gf := 68) (lb := #[.pointer (some ⟨X + 4, 0, none⟩), .pointer (some ⟨X + 4 + 1, 0, none⟩)]) rfl trivial (enters_of Tryz.func68 (by kernel_rfl) rfl)
  hsq (Below.refl _ _) (fun h k => h.trans k) ?kb ?rk (fun _ => rfl) (fun k W => ∃ v L key, MrI w fl es k W v L key) (fun _ _ _ => False) ?oI ?oX ?iR ?xR ⟨_, _, _, I0.out⟩
  (fun k a' W => ∃ y, a' = { tmps := #[.slice a m cap, .int .i64 fl, undef, .pointer (some ⟨X, 0, none⟩), .pointer (some ⟨X + 1, 0, none⟩), .pointer (some ⟨X + 1 + 1, 0, none⟩), .pointer (some ⟨X + 1 + 1 + 1, 0, none⟩), .pointer (some ⟨y, 0, none⟩), .slice a m cap, .func (.func 68) #[] #[.pointer (some ⟨X + 4, 0, none⟩), .pointer (some ⟨X + 4 + 1, 0, none⟩)], .agg #[.string (S.getD k (en0, 0)).1.ky, .int .i64 (S.getD k (en0, 0)).1.sq, .bool (S.getD k (en0, 0)).1.gn, .string (S.getD k (en0, 0)).1.tx], undef, undef, undef, undef, undef, undef, undef, undef, undef, undef, undef, undef, undef, undef, undef], defers := [] } ∧ RA W y 46 #[.string (S.getD k (en0, 0)).1.ky, .int .i64 (S.getD k (en0, 0)).1.sq, .bool (S.getD k (en0, 0)).1.gn, .string (S.getD k (en0, 0)).1.tx] ∧ X + 6 ≤ y)
  ?hAx ?assign ?body ?done ?stop
 case kb =>
  intro W l o o' hl h ho _; have hlt := (Array.getElem?_eq_some_iff.1 h).1; have g := grownBy_putObj' W l o'; refine ⟨g.os, g.tape, g.output, g.size, fun k hk => g.block k (by rw [ZL.out] at hl; have := HX.out; omega) (fun e => by cases e; rw [ZL.out] at hl; have := HX.out; omega), fun k t cs _ hr => (g.block k hr.lt (fun e => ?_)).trans hr⟩
  cases e
  have := hr.symm.trans h
  cases this
  cases ho
 case rk =>
  intro A B h; refine ⟨h.1.size, fun j o hB hj ho => ?_⟩
  rcases h.1.keep j (Array.getElem?_eq_some_iff.1 hj).1 with ⟨t, cs, hr, _⟩ | q
  · have := hr.symm.trans hj
    cases this
    cases ho
  · exact q.trans hj
 case oI =>
  rintro k A B row ⟨v, L, key, h⟩ hg hr
  exact ⟨v, L, key, h.grow hg fun r e => ⟨by have := (hr r e).1; rw [ZL.out] at this; have := HX.out; omega, (hr r e).2⟩⟩
 case oX =>
  rintro c k A B row h hg hr
  exact h
 case iR =>
  rintro k A B ⟨v, L, key, h⟩ hg
  exact ⟨v, L, key, h.rq hg (Nat.le_refl _)⟩
 case xR =>
  rintro c k A B h hg
  exact h
 case hAx =>
  rintro k a' u A B row ⟨y, he, hy, hyX⟩ hg hr
  refine ⟨y, he, (hg.block y hy.lt (fun e => ?_)).trans hy, hyX⟩; obtain ⟨_, o, ho, hc⟩ := hr y e.symm; have := hy.symm.trans ho
  cases this
  cases hc
 case assign =>
  rintro l k W K0 hk ⟨v, L, key, hI⟩ hK
  have b9 : Below W.heap.size W (W.alloc (.cells #[.string (S.getD k (en0, 0)).1.ky, .int .i64 (S.getD k (en0, 0)).1.sq, .bool (S.getD k (en0, 0)).1.gn, .string (S.getD k (en0, 0)).1.tx] 46)) := (Below.refl _ _).alloc (Nat.le_refl _) _; have hK' := hK _ _ (KeepsFrom.of_grownBy (below_grown b9 none) (fun j hj => by cases hj)) (kpq_below b9 (by have := hI.sz; omega)) ⟨v, L, key, hI.grow (below_grown b9 none) (fun r e => by cases e)⟩ ⟨W.heap.size, rfl, RA.new _ _ _, by have := hI.sz; have := HX.out; omega⟩; clear hK b9 hk
  gi_wp2
  exact hK'
 case body =>
  rintro l k a' W hl hr hk ⟨v, L, key, hI⟩ ⟨y, rfl, hy, hyX⟩
  have hdr : es.drop k = (S.getD k (en0, 0)).1 :: es.drop (k + 1) := by
   have e1 : es[k]? = some ((S.getD k (en0, 0)).1) := by rw [HES.out, List.getElem?_map, List.getD_eq_getElem?_getD, List.getElem?_eq_getElem hk]; rfl
   obtain ⟨h2, h3⟩ := List.getElem?_eq_some_iff.1 e1; rw [List.drop_eq_getElem_cons h2, h3]
  have EQ : Hid (mgP fl ⟨#[]⟩ es = L ++ mgP fl key ((S.getD k (en0, 0)).1 :: es.drop (k + 1))) := by show _ = _; rw [hI.eq, hdr]
  have hll : L.length ≤ k := hI.len; have hkk : k ≤ 1000000 := by omega
  have MB := hid hI.b; have YY := hid hy; clear hdr hI hy hr hk hl hsq I0
  generalize (S.getD k (en0, 0)).1 = e at EQ YY ⊢
  obtain ⟨ky, sq, gn, tx⟩ := e; dsimp only at YY ⊢; obtain ⟨a1, c1, hv1⟩ := MB.out.own.slice; have hx := HX.out; have ra : RA W X 2 #[.int .i64 fl] := by rw [hx]; exact MB.out.a
  have a0 := ra.cell 0; have y1 := YY.out.cell 1; have zz : Hid (KeepsFrom wL.heap.size = KeepsFrom (w.heap.size + 6)) := by show _ = _; rw [ZL.out, HX.out]
  by_cases hf : fl < sq
  · have hx2 := hx
    clear hx hx2 zz; have ro : RA W (X + 1 + 1 + 1) 25 #[v] := by rw [HX.out]; exact MB.out.o
    have o0 := ro.cell 0; rw [hv1] at o0; have y0 := YY.out.cell 0; have y1 := YY.out.cell 1; have y2 := YY.out.cell 2; have y3 := YY.out.cell 3; have RO := hid ro; clear ro
    gi_wp2_with fail
    refine ⟨trivial, ?_⟩
    gi_wp2_with (gi_at_builtin; revert HX)
    intro HX; refine append_enIn (w.heap.size + 6) W rfl (.tmp 20) (.tmp 22) rfl (.slice a1 L.length c1) L ⟨ky, sq, gn, tx⟩ rfl (by rw [← hv1]; exact MB.out.own) MB.out.sz rfl (by omega) ?_; intro v' w5 hO5 hg5; obtain ⟨a2, c2, hv2⟩ := hO5.slice; subst hv2; rw [← hv1] at hg5; have ro5 : RA w5 (w.heap.size + 3) 25 #[v] := (hg5.block _ MB.out.o.lt (fun e => by have := (MB.out.own.row e.symm).1; omega)).trans MB.out.o; have MB5 := hid (MB.out.app hg5 hO5); have KT := hid (((Kpt.own (w := w) MB.out.own hg5 (by omega) (by have := MB.out.sz; omega)).trans (Kpt.row (w := w) (grown_setCellQ w5 (w.heap.size + 3) 0 (.slice a2 (L ++ [(⟨ky, sq, gn, tx⟩ : En)]).length c2)) ro5 (by omega) (by decide) (by decide) (by decide) (by have := MB.out.sz; have := hg5.size; omega)))); have e3 : w.heap.size + 3 = X + 1 + 1 + 1 := by have := HX.out; omega
    rw [e3] at MB5 KT ro5; have d0 := ro5.cell 0; rw [hv1] at d0; have d1 := ro5.free 0; have I5 := hid (MB5.out.i (es := es) (k := k + 1) (by rw [EQ.out]; simp only [mgP]; rw [if_pos hf]; simp) (by rw [List.length_append]; show L.length + 1 ≤ k + 1; omega))
    generalize (L ++ [(⟨ky, sq, gn, tx⟩ : En)]).length = LL at MB5 KT I5 ⊢
    clear ro5 hg5 hO5 e3 MB5
    gi_wp2
    exact ⟨by rw [show wL.heap.size = w.heap.size + 6 by rw [ZL.out, HX.out]]; exact KT.out.f, KT.out.k, _, _, _, I5.out⟩
  · clear hx zz
    by_cases hk2 : ky = key
    · have KL := hid (iLets (w.heap.size + 2) key ⟨ky, sq, gn, tx⟩ W MB.out.s)
      dsimp only at KL; rw [if_pos hk2, if_pos hk2, show w.heap.size + 2 = X + 1 + 1 by have := HX.out; omega] at KL; have y0 := YY.out.cell 0; have y2 := YY.out.cell 2; have y3 := YY.out.cell 3; have HK2 := hid hk2; have HF := hid hf; have d9 : ¬ fl < sq := hf; clear hk2 hf
      gi_wp2_with fail
      refine ⟨trivial, (CallsIn.inRound l (callsIn_wide.2 KL.out)).mono ?_⟩
      rintro r w2 ⟨rfl, hs2, hg2⟩
      rw [show X + 1 + 1 = w.heap.size + 2 by have := HX.out; omega] at hs2 hg2; have MB2 := hid (MB.out.sv hg2 hs2); have KT := hid (Kpt.row (w := w) hg2 MB.out.s (by omega) (by decide) (by decide) (by decide) (by have := MB.out.sz; omega)); have I5 := hid (MB2.out.i (es := es) (k := k + 1) (by rw [EQ.out]; simp only [mgP]; rw [if_neg (by have := HF.out; omega), if_pos HK2.out]) (by omega)); clear hs2 hg2 KL MB2
      gi_wp2
      exact ⟨by rw [show wL.heap.size = w.heap.size + 6 by rw [ZL.out, HX.out]]; exact KT.out.f, KT.out.k, _, _, _, I5.out⟩
    · cases gn with
      | true =>
       have KL := hid (iLets (w.heap.size + 2) key ⟨ky, sq, true, tx⟩ W MB.out.s); dsimp only at KL; rw [if_neg hk2, if_neg hk2, show w.heap.size + 2 = X + 1 + 1 by have := HX.out; omega] at KL; have y0 := YY.out.cell 0; have y2 := YY.out.cell 2; have y3 := YY.out.cell 3; have HK2 := hid hk2; have HF := hid hf; have d9 : ¬ fl < sq := hf; clear hk2 hf
       gi_wp2_with fail
       refine ⟨trivial, (CallsIn.inRound l (callsIn_wide.2 KL.out)).mono ?_⟩
       rintro r w2 ⟨rfl, hs2, hg2⟩
       rw [show X + 1 + 1 = w.heap.size + 2 by have := HX.out; omega] at hs2 hg2; have MB2 := hid (MB.out.sv hg2 hs2); have KT2 := hid (Kpt.row (w := w) hg2 MB.out.s (by omega) (by decide) (by decide) (by decide) (by have := MB.out.sz; omega)); have Y2 : Hid (RA w2 y 46 #[.string ky, .int .i64 sq, .bool true, .string tx]) := (hg2.block y YY.out.lt (fun e => by have := Option.some.inj e; have := HX.out; omega)).trans YY.out; clear hs2 hg2 KL y0 y1 y2 y3 a0; have I5 := hid (MB2.out.i (es := es) (k := k + 1) (by rw [EQ.out]; simp only [mgP]; rw [if_neg (by have := HF.out; omega), if_neg HK2.out]; simp) (by omega))
       gi_wp2
       exact ⟨by rw [show wL.heap.size = w.heap.size + 6 by rw [ZL.out, HX.out]]; exact KT2.out.f, KT2.out.k, _, _, _, I5.out⟩
      | false =>
       have KL := hid (iLets (w.heap.size + 2) key ⟨ky, sq, false, tx⟩ W MB.out.s); dsimp only at KL; rw [if_neg hk2, if_neg hk2, show w.heap.size + 2 = X + 1 + 1 by have := HX.out; omega] at KL; have y0 := YY.out.cell 0; have y2 := YY.out.cell 2; have y3 := YY.out.cell 3; have HK2 := hid hk2; have HF := hid hf; have d9 : ¬ fl < sq := hf; clear hk2 hf
       gi_wp2_with fail
       refine ⟨trivial, (CallsIn.inRound l (callsIn_wide.2 KL.out)).mono ?_⟩
       rintro r w2 ⟨rfl, hs2, hg2⟩
       rw [show X + 1 + 1 = w.heap.size + 2 by have := HX.out; omega] at hs2 hg2; have MB2 := hid (MB.out.sv hg2 hs2); have KT2 := hid (Kpt.row (w := w) hg2 MB.out.s (by omega) (by decide) (by decide) (by decide) (by have := MB.out.sz; omega)); have Y2 : Hid (RA w2 y 46 #[.string ky, .int .i64 sq, .bool false, .string tx]) := (hg2.block y YY.out.lt (fun e => by have := Option.some.inj e; have := HX.out; omega)).trans YY.out; clear hs2 hg2 KL y0 y1 y2 y3 a0; have ro : RA w2 (X + 1 + 1 + 1) 25 #[v] := by rw [HX.out]; exact MB2.out.o
       have o0 := ro.cell 0; rw [hv1] at o0; have y0 := Y2.out.cell 0; have y1 := Y2.out.cell 1; have y2 := Y2.out.cell 2; have y3 := Y2.out.cell 3; have RO := hid ro; clear ro
       gi_wp2_with (gi_at_builtin; revert HX)
       intro HX; refine append_enIn (w.heap.size + 6) w2 rfl (.tmp 20) (.tmp 22) rfl (.slice a1 L.length c1) L ⟨ky, sq, false, tx⟩ rfl (by rw [← hv1]; exact MB2.out.own) MB2.out.sz rfl (by omega) ?_; intro v' w5 hO5 hg5; obtain ⟨a2, c2, hv2⟩ := hO5.slice; subst hv2; rw [← hv1] at hg5; have ro5 : RA w5 (w.heap.size + 3) 25 #[v] := (hg5.block _ MB2.out.o.lt (fun e => by have := (MB2.out.own.row e.symm).1; omega)).trans MB2.out.o; have MB5 := hid (MB2.out.app hg5 hO5); have KT := hid (KT2.out.trans ((Kpt.own (w := w) MB2.out.own hg5 (by omega) (by have := MB2.out.sz; omega)).trans (Kpt.row (w := w) (grown_setCellQ w5 (w.heap.size + 3) 0 (.slice a2 (L ++ [(⟨ky, sq, false, tx⟩ : En)]).length c2)) ro5 (by omega) (by decide) (by decide) (by decide) (by have := MB2.out.sz; have := hg5.size; omega)))); have e3 : w.heap.size + 3 = X + 1 + 1 + 1 := by have := HX.out; omega
       rw [e3] at MB5 KT ro5; have d0 := ro5.cell 0; rw [hv1] at d0; have d1 := ro5.free 0; have I5 := hid (MB5.out.i (es := es) (k := k + 1) (by rw [EQ.out]; simp only [mgP]; rw [if_neg (by have := HF.out; omega), if_neg HK2.out]; simp) (by rw [List.length_append]; show L.length + 1 ≤ k + 1; omega))
       generalize (L ++ [(⟨ky, sq, false, tx⟩ : En)]).length = LL at MB5 KT I5 ⊢
       clear ro5 hg5 hO5 e3 MB5
       gi_wp2
       exact ⟨by rw [show wL.heap.size = w.heap.size + 6 by rw [ZL.out, HX.out]]; exact KT.out.f, KT.out.k, _, _, _, I5.out⟩
 case done =>
  rintro D W hD ⟨v, L, key, hI⟩ hK
  obtain ⟨a1, cp1, rfl⟩ := hI.own.slice; have hx := HX.out; have hz := ZL.out
  have LF : Hid (mgP fl ⟨#[]⟩ es = L) := by
   show _ = _
   have e := hI.eq; rw [HES.out, List.drop_of_length_le (by simp)] at e; rw [HES.out, e]
   simp [mgP]
  have rb : RA W (X + 1) 25 #[.slice none 0 0] := by rw [hx]; exact hI.r
  have rd : RA W (X + 1 + 1 + 1) 25 #[.slice a1 L.length cp1] := by rw [hx]; exact hI.o
  have c0 := rd.cell 0; have b0 := rb.cell 0; have b1 := rb.free 0; obtain ⟨W', hW'⟩ : ∃ W', W' = W.setCell ⟨X + 1, 0, none⟩ (.slice a1 L.length cp1) := ⟨_, rfl⟩
  have hK' : W'.heap[D]? = some (.deferred (some [])) := by
   rw [hW', Below.heap_setCell _ _ _ D (by show D ≠ X + 1; omega)]; exact hK
  have sa : RA (W'.putObj D (.deferred none)) (X + 1) 25 #[.slice a1 L.length cp1] := by
   refine (World.putObj_heap_other (by omega)).trans ?_; rw [hW']; exact rb.set 0 _
  have so : OwnEn (W'.putObj D (.deferred none)) w.heap.size (.slice a1 L.length cp1) L := by
   have o1 : OwnEn W' (w.heap.size + 6) (.slice a1 L.length cp1) L := by
    rw [hW']; exact hI.own.keep fun g cs e q => q.other _ _ (by have := (hI.own.row e).1; show g ≠ X + 1; omega)
   exact (o1.keep fun g cs e q => ((grownBy_putObj' W' D _).block g q.lt (fun e2 => by
    cases e2
    have := q.symm.trans hK'
    cases this)).trans q).baseLe (by omega)
  have bl : Below w.heap.size w (W'.putObj D (.deferred none)) := by
   have b5 : Below w.heap.size w W' := by rw [hW']; exact hI.bl.setCell (by show w.heap.size ≤ X + 1; omega) _
   exact b5.grown (grownBy_putObj' W' D _) b5.size (fun j hj => by cases hj; omega)
  have HK' := hid hK'; have SA := hid sa; have SO := hid so; have BL := hid bl; have HW' := hid hW'; clear rb rd hK hI hx hz hK' sa so bl hW' hD I0 hsq
  gi_wp2
  rw [← HW'.out]; exact merge_ret HK'.out SA.out (by rw [LF.out]; exact SO.out) BL.out rfl
 case stop =>
  rintro D c k W hD hk h
  exact h.elim
end Go.Proofs.YtcbmgpdpjagaoaaGreat
