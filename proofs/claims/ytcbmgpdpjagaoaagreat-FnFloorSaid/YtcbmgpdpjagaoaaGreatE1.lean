import Derived.Test.YtcbmgpdpjagaoaaGreatDkA
import Derived.Test.YtcbmgpdpjagaoaaGreatFndI
import Derived.Deep.RegionHeld3
import Derived.Test.YtcbmgpdpjagaoaaGreatT2
import Derived.Deep.RegionLaw
import Derived.Test.YtcbmgpdpjagaoaaGreatSnI
import Derived.Laws.StructEq
namespace Go.Proofs.YtcbmgpdpjagaoaaGreat
open Go.RowKit
set_option linter.unusedVariables false
noncomputable def Rq (Q : List (Value × List En)) (k : Nat) : Rn := rnOf (Q.getD k (.slice none 0 0, []))
theorem rs_rnA {w : World} {base : Nat} {v : Value} {Q : List (Value × List En)} (h : w.ownsRow base 25 1 v Q.length (Q.map Prod.fst)) (hu : ∀ p ∈ Q, OwnEn w base p.1 p.2) : ∃ a cap, v = .slice a Q.length cap ∧ Rns w a Q.length cap (Rq Q) ∧ RnA w a Q.length cap (Rq Q) ∧ (∀ k, k < Q.length → (Rq Q k).ad = none → (Rq Q k).cap = 0) ∧ (a = none → cap = 0) := by
 obtain ⟨a, cap, hv, hN, hnil, ha⟩ := rs_rns h hu; subst hv; refine ⟨a, cap, rfl, hN, ?_, hnil, ha⟩
 rcases h.2 with ⟨h1, h2⟩ | ⟨g, cap', cur, he, hb, hr, hnc, hm, hsz2, htk⟩
 · injection h1 with q1 q2 q3
   exact .inl ⟨q1, h2, q3⟩
 · injection he with q1 q2 q3
   subst q1 q3; refine .inr ⟨g, rfl, (show RA w g _ cur from hr).lt, fun k hk => ?_⟩; have e2 : Q[k]? = some Q[k] := List.getElem?_eq_getElem hk; have e1 : (Q.map Prod.fst)[k]? = some Q[k].1 := by rw [List.getElem?_map, e2]; rfl
   have := World.ownsRow.cells h rfl k Q[k].1 e1; have hadd : (⟨g, 0, none⟩ : Addr).add k = ⟨g, k, none⟩ := by unfold Addr.add; split <;> simp_all
   rw [hadd] at this; rw [this]; have eg : Q.getD k (.slice none 0 0, []) = Q[k] := by rw [List.getD_eq_getElem?_getD, e2]; rfl
   show some Q[k].1 = some (.slice (rnOf (Q.getD k (.slice none 0 0, []))).ad (rnOf (Q.getD k (.slice none 0 0, []))).n (rnOf (Q.getD k (.slice none 0 0, []))).cap)
   rw [eg]; exact congrArg some (hu Q[k] (List.getElem_mem hk)).rnOf.1
theorem rq_of {w : World} {base : Nat} {Q : List (Value × List En)} (hu : ∀ p ∈ Q, OwnEn w base p.1 p.2) {rs : List (List En)} (he : Q.map Prod.snd = rs) : ∀ k, k < rs.length → (Rq Q k).n = (rs.getD k []).length ∧ (Rq Q k).o = enA (rs.getD k []) := fun k hk => by
 have hk' : k < Q.length := by rw [← he, List.length_map] at hk; exact hk
 have e2 : Q[k]? = some Q[k] := List.getElem?_eq_getElem hk'; have eg : Q.getD k (.slice none 0 0, []) = Q[k] := by rw [List.getD_eq_getElem?_getD, e2]; rfl
 have er : rs.getD k [] = Q[k].2 := by rw [List.getD_eq_getElem?_getD, ← he, List.getElem?_map, e2]; rfl
 unfold Rq; rw [eg, er]; have := (hu Q[k] (List.getElem_mem hk')).rnOf; exact ⟨this.2.1, this.2.2.1⟩
theorem Dk.tt {W : World} {B d mb : Nat} {t : Tt} {D : DataW En} {L : List En} {vS : Value} {S : List En} {vR : Value} {Q : List (Value × List En)} (h : Dk W B d mb t D L vS S vR Q) : ttOf t.sq t.fl t.fr.length (enA t.fr) Q.length (Rq Q) = t := by
 have hl : Q.length = t.rs.length := by rw [← h.eq, List.length_map]
 rw [hl]; exact tt_eq t _ (rq_of h.ru h.eq)
theorem Dk.rn {W : World} {B d mb : Nat} {t : Tt} {D : DataW En} {L : List En} {vS : Value} {S : List En} {aR : Option Addr} {m cR : Nat} {Q : List (Value × List En)} (h : Dk W B d mb t D L vS S (.slice aR m cR) Q) : m = Q.length ∧ Rns W aR m cR (Rq Q) ∧ RnA W aR m cR (Rq Q) := by
 obtain ⟨a, c, hv, h1, h2, _, _⟩ := rs_rnA h.rs h.ru
 injection hv with q1 q2 q3
 subst q1 q2 q3; exact ⟨rfl, h1, h2⟩
theorem Dk.drew {W : World} {B d mb : Nat} {t : Tt} {D : DataW En} {L : List En} {vS : Value} {S : List En} {vR : Value} {Q : List (Value × List En)} (h : Dk W B d mb t D L vS S vR Q) : Dk W.drew B d mb t D L vS S vR Q := h.drewN 1
theorem KD.drew {B : Nat} {W W' : World} (h : KD B W W') : KD B W W'.drew := ⟨h.os, h.tape, h.output, h.size, h.low, h.row⟩
theorem ens_snoc {w : World} {R : Nat → Rn} {m : Nat} {x : Rn} (h1 : ∀ k, k < m → Ens w (R k).ad (R k).n (R k).cap (R k).o) (h2 : Ens w x.ad x.n x.cap x.o) : ∀ k, k < m + 1 → Ens w (snoc R m x k).ad (snoc R m x k).n (snoc R m x k).cap (snoc R m x k).o := fun k hk => by
 by_cases e : k < m
 · rw [show snoc R m x k = R k by unfold snoc; rw [if_pos e]]; exact h1 k e
 · rw [show snoc R m x k = x by unfold snoc; rw [if_neg e]]; exact h2
set_option maxRecDepth 20000 in
set_option maxHeartbeats 2000000 in
theorem iDAll (B d mb : Nat) (t : Tt) (D : DataW En) (L : List En) (vS : Value) (S : List En) (vR : Value) (Q : List (Value × List En)) (hl : L.length ≤ 1000) (hQ : Q.length ≤ 20) (hnd : (t.fr.map En.sq).Nodup) (W : World) (h : Dk W B d mb t D L vS S vR Q) (hB : B ≤ W.heap.size) :
 Calls Tryz.prog 60 #[.pointer (some ⟨d, 0, none⟩)] W fun e W' => (∃ a cap a0 c0, e = .returned (.slice a (Q.length + 1) cap) ∧ Dk W' B d mb t D L (.slice a0 t.fr.length c0) t.fr vR Q ∧ Rns W' a (Q.length + 1) cap (snoc (Rq Q) Q.length ⟨a0, t.fr.length, c0, enA t.fr⟩)) ∧ KD B W W' := by
 obtain ⟨aR, cR, hvR, _, _, _, _⟩ := rs_rnA h.rs h.ru; obtain ⟨m, hm⟩ : ∃ x, x = Q.length := ⟨_, rfl⟩; rw [← hm] at hvR hQ ⊢; subst hvR; have D1 := hid h; have K1 : Hid (KD B W W) := KD.refl _ _; have KF := fun wx vS S (hx : Dk wx B d mb t D L vS S (.slice aR m cR) Q) (hb : B ≤ wx.heap.size) => hid (iFresh B d mb t D L vS S (.slice aR m cR) Q hl hnd wx hx hb); have KA := fun wx r (hx : RnA wx aR m cR (Rq Q)) => hid (iAllRunsG aR m cR (Rq Q) r (by omega) wx hx); have HM := hid hm; have HB1 := hid hB; have c4 := h.row.cell 4; clear h hm hB hnd hl
 go_enter Tryz.func60, Tryz.ntmps60
 go_upto_region 1 with fail
 go_region_held3 (fun wx => wx.cell? ⟨d, 4, none⟩ = some (.slice aR m cR))
  ((first | (go_keep; done) | exact D1.out.row.cell 4))
  (((first
  | (go_at_call 49; (first | refine (KF _ _ _ D1.out HB1.out).out.mono ?_ | refine (KF _ _ _ D1.out.drew HB1.out).out.mono ?_); rintro e w1 ⟨⟨v, rfl, hD⟩, hK⟩; obtain ⟨a0, c0, rfl⟩ := hD.so.slice; replace D1 := hid hD; (first | replace K1 := hid (K1.out.trans hK) | replace K1 := hid (K1.out.drew.trans hK)); replace HB1 := hid (Nat.le_trans HB1.out hK.size); clear hD hK)
  | (go_at_call 28; refine (KA _ ⟨a0, t.fr.length, c0, enA t.fr⟩ D1.out.rn.2.2).out.mono ?_; rintro e w1 ⟨v, rfl, hO, hb⟩; obtain ⟨aN, cN, rfl, hN⟩ := hO.rns (ens_snoc ((D1.out.below hb).rn.2.1.2.2) ((D1.out.below hb).so.ens.2)); replace K1 := hid (K1.out.trans (KD.of_below hb HB1.out)); replace D1 := hid (D1.out.below hb); have HN := hid hN; clear hO hb hN))))
 all_goals go_wp2
 all_goals go_ret
 all_goals exact ⟨⟨_, _, _, _, rfl, D1.out, HN.out⟩, K1.out⟩
end Go.Proofs.YtcbmgpdpjagaoaaGreat
namespace Go.Proofs.YtcbmgpdpjagaoaaGreat
open Go.RowKit
set_option linter.unusedVariables false
def rdV (t : Tt) (q : Int) : Int := if q < t.fl then 13 else if t.sq < q then 1 else 0
set_option maxRecDepth 20000 in
set_option maxHeartbeats 2000000 in
theorem iRdF {B d mb : Nat} {t : Tt} {D : DataW En} {L : List En} {vS : Value} {S : List En} {vR : Value} {Q : List (Value × List En)} (q : Int) (W : World) (h : Dk W B d mb t D L vS S vR Q) :
 Calls Tryz.prog 59 #[.pointer (some ⟨d, 0, none⟩), .int .i64 q] W fun e W' => e = .returned (.int .i64 (rdV t q)) ∧ W' = W := by
 obtain ⟨sq, fl, fr, rs⟩ := t; have c0 := h.row.cell 0; have c1 := h.row.cell 1; clear h; unfold rdV; dsimp only at c0 c1 ⊢
 by_cases h1 : q < fl
 · have e1 : decide (q < fl) = true := by simpa using h1
   rw [if_pos h1]
   go_enter Tryz.func59, Tryz.ntmps59
   go_wp2_with fail
   go_ret
   exact ⟨rfl, rfl⟩
 · have e1 : decide (q < fl) = false := by simpa using h1
   rw [if_neg h1]
   by_cases h2 : sq < q
   · have e2 : decide (sq < q) = true := by simpa using h2
     rw [if_pos h2]
     go_enter Tryz.func59, Tryz.ntmps59
     go_wp2_with fail
     go_ret
     exact ⟨rfl, rfl⟩
   · have e2 : decide (sq < q) = false := by simpa using h2
     rw [if_neg h2]
     go_enter Tryz.func59, Tryz.ntmps59
     go_wp2_with fail
     go_ret
     exact ⟨rfl, rfl⟩
theorem tb_ret {W' : World} {X : Nat} {a b v r : Value} {P : Value → World → Prop} {Q : World → Prop} {tm : Array Value} (sa : RA W' X 28 #[a, b, v, r]) (so : P v W') (bl : Q W') (h2 : tm.getD 2 undef = .pointer (some ⟨X, 0, none⟩)) :
 bodyPost Tryz.prog Tryz.f26 (fun e w' => (∃ v, e = .returned (.agg #[a, b, v, r]) ∧ P v w') ∧ Q w') Exit.ret { tmps := tm, defers := [] } W' := by
 refine bodyPost_ret (v := .agg #[a, b, v, r]) ?_ rfl ⟨⟨v, rfl, so⟩, bl⟩; exact results_cell_row Tryz.results26 _ _ X _ _ _ _ h2 sa Tryz.underlying28 rfl (by kernel_rfl)
theorem Dk.keepY {W : World} {B d mb X : Nat} {t : Tt} {D : DataW En} {L : List En} {vS : Value} {S : List En} {vR : Value} {Q : List (Value × List En)} {cs : Array Value} {ty : TypeId} (h : Dk W B d mb t D L vS S vR Q) (hx : RA W X ty cs) (h1 : ty ≠ 79) (h2 : ty ≠ 46) (h3 : ty ≠ 25) (ds : Array Value) : Dk (W.setRow X ds) B d mb t D L vS S vR Q := by
 have ok : ∀ {g ty' cs'}, RA W g ty' cs' → ty' ≠ ty → RA (W.setRow X ds) g ty' cs' := fun {g ty' cs'} r hne => r.otherRow X _ (row_ne r hx hne); exact ⟨ok h.row h1.symm, mapAt h.map (setRow_other W X mb ds (fun e => row_not_map hx h.map e.symm)), h.fr, h.mem, h.srt, h.so.keep fun g cs _ r => ok r h2.symm, h.sk, or_keep h.rs fun g cs _ r => ok r h3.symm, fun p hp => (h.ru p hp).keep fun g cs _ r => ok r h2.symm, h.eq, h.bd⟩
theorem Dk.cellY {W : World} {B d mb X : Nat} {t : Tt} {D : DataW En} {L : List En} {vS : Value} {S : List En} {vR : Value} {Q : List (Value × List En)} {cs : Array Value} {ty : TypeId} (h : Dk W B d mb t D L vS S vR Q) (hx : RA W X ty cs) (h1 : ty ≠ 79) (h2 : ty ≠ 46) (h3 : ty ≠ 25) (i : Nat) (v : Value) : Dk (W.setCell ⟨X, i, none⟩ v) B d mb t D L vS S vR Q := by
 have ok : ∀ {g ty' cs'}, RA W g ty' cs' → ty' ≠ ty → RA (W.setCell ⟨X, i, none⟩ v) g ty' cs' := fun {g ty' cs'} r hne => r.other _ _ (row_ne r hx hne); exact ⟨ok h.row h1.symm, mapAt h.map (Below.heap_setCell _ _ _ mb (fun e => row_not_map hx h.map e.symm)), h.fr, h.mem, h.srt, h.so.keep fun g cs _ r => ok r h2.symm, h.sk, or_keep h.rs fun g cs _ r => ok r h3.symm, fun p hp => (h.ru p hp).keep fun g cs _ r => ok r h2.symm, h.eq, h.bd⟩
theorem Dk.cells4 {W : World} {B d mb X : Nat} {t : Tt} {D : DataW En} {L : List En} {vS : Value} {S : List En} {vR : Value} {Q : List (Value × List En)} {cs : Array Value} {ty : TypeId} (h : Dk W B d mb t D L vS S vR Q) (hx : RA W X ty cs) (h1 : ty ≠ 79) (h2 : ty ≠ 46) (h3 : ty ≠ 25) (a b c e : Value) : Dk ((((W.setCell ⟨X, 0, none⟩ a).setCell ⟨X, 1, none⟩ b).setCell ⟨X, 2, none⟩ c).setCell ⟨X, 3, none⟩ e) B d mb t D L vS S vR Q :=
 (((h.cellY hx h1 h2 h3 0 a).cellY (hx.set 0 a) h1 h2 h3 1 b).cellY ((hx.set 0 a).set 1 b) h1 h2 h3 2 c).cellY (((hx.set 0 a).set 1 b).set 2 c) h1 h2 h3 3 e
theorem KD.cellN {B X : Nat} {W0 W : World} (h : KD B W0 W) (hB : B ≤ X) (hX : W0.heap.size ≤ X) (i : Nat) (v : Value) : KD B W0 (W.setCell ⟨X, i, none⟩ v) := by
 have b : Below B W (W.setCell ⟨X, i, none⟩ v) := (Below.refl B W).setCell (by show B ≤ X; exact hB) v; refine ⟨b.os.trans h.os, b.tape.trans h.tape, b.output.trans h.output, Nat.le_trans h.size b.size, fun j hj => (b.block j hj).trans (h.low j hj), fun g ty cs r h1 h2 => (h.row g ty cs r h1 h2).other _ _ (by have := r.lt; show g ≠ X; omega)⟩
theorem KD.setN {B X : Nat} {W0 W : World} (h : KD B W0 W) (hB : B ≤ X) (hX : W0.heap.size ≤ X) (ds : Array Value) : KD B W0 (W.setRow X ds) := by
 have b := below_setRow (Below.refl B W) X ds hB; refine ⟨b.os.trans h.os, b.tape.trans h.tape, b.output.trans h.output, Nat.le_trans h.size b.size, fun j hj => (b.block j hj).trans (h.low j hj), fun g ty cs r h1 h2 => (h.row g ty cs r h1 h2).otherRow X _ (by have := r.lt; omega)⟩
set_option maxRecDepth 20000 in
set_option maxHeartbeats 4000000 in
theorem iTable (B d mb : Nat) (t : Tt) (D : DataW En) (L : List En) (vS : Value) (S : List En) (vR : Value) (Q : List (Value × List En)) (hl : L.length ≤ 1000) (hnd : (t.fr.map En.sq).Nodup) (W : World) (h : Dk W B d mb t D L vS S vR Q) (hB : B ≤ W.heap.size) :
 Calls Tryz.prog 26 #[.pointer (some ⟨d, 0, none⟩)] W fun e W' => (∃ v, e = .returned (.agg #[.int .i64 t.sq, .int .i64 t.fl, v, vR]) ∧ Dk W' B d mb t D L v t.fr vR Q) ∧ KD B W W' := by
 obtain ⟨aR, cR, hvR, _, _, _, _⟩ := rs_rnA h.rs h.ru; obtain ⟨m, hm⟩ : ∃ x, x = Q.length := ⟨_, rfl⟩; rw [← hm] at hvR; subst hvR; obtain ⟨W1, hW1⟩ : ∃ W1, W1 = W.alloc (.cells #[.int .i64 0, .int .i64 0, .slice none 0 0, .slice none 0 0] 28) := ⟨_, rfl⟩; have b1 : Below W.heap.size W W1 := by rw [hW1]; exact (Below.refl _ _).alloc (Nat.le_refl _) _
 have X1 : Hid (RA W1 W.heap.size 28 #[.int .i64 0, .int .i64 0, .slice none 0 0, .slice none 0 0]) := by rw [hW1]; exact RA.new _ _ _
 have D1 := hid (h.below b1); have K1 : Hid (KD B W W1) := KD.of_below b1 hB; have HB0 := hid hB; have HB1 : Hid (B ≤ W1.heap.size) := Nat.le_trans hB b1.size; have KF := fun wx vS S (hx : Dk wx B d mb t D L vS S (.slice aR m cR) Q) (hb : B ≤ wx.heap.size) => hid (iFresh B d mb t D L vS S (.slice aR m cR) Q hl hnd wx hx hb); obtain ⟨SQ, hSQ⟩ : ∃ x, x = t.sq := ⟨_, rfl⟩; obtain ⟨FL, hFL⟩ : ∃ x, x = t.fl := ⟨_, rfl⟩; have CC : Hid (∀ wx vS S, Dk wx B d mb t D L vS S (.slice aR m cR) Q → wx.cell? ⟨d, 0, none⟩ = some (.int .i64 SQ) ∧ wx.cell? ⟨d, 1, none⟩ = some (.int .i64 FL) ∧ wx.cell? ⟨d, 4, none⟩ = some (.slice aR m cR)) := fun wx vS S hx => ⟨by rw [hSQ]; exact hx.row.cell 0, by rw [hFL]; exact hx.row.cell 1, hx.row.cell 4⟩; obtain ⟨c0, c1, c4⟩ := CC.out _ _ _ D1.out; rw [← hSQ, ← hFL]; clear h hB hl hnd b1 hSQ hFL hm
 go_enter Tryz.func26, Tryz.ntmps26
 go_upto_region 1 with fail
 rw [← hW1]; clear hW1
 go_region_held3 (fun wx => wx.cell? ⟨d, 0, none⟩ = some (.int .i64 SQ) ∧ wx.cell? ⟨d, 1, none⟩ = some (.int .i64 FL) ∧ wx.cell? ⟨d, 4, none⟩ = some (.slice aR m cR))
  ((first | (go_keep; done) | exact CC.out _ _ _ D1.out | exact CC.out _ _ _ (D1.out.cells4 X1.out (by decide) (by decide) (by decide) _ _ _ _)))
  ((go_at_call 49; (first | refine (KF _ _ _ D1.out HB1.out).out.mono ?_ | refine (KF _ _ _ D1.out.drew HB1.out).out.mono ?_); rintro e w1 ⟨⟨v, rfl, hD⟩, hK⟩; obtain ⟨a0, b0, rfl⟩ := hD.so.slice; obtain ⟨n0, hn0⟩ : ∃ x, x = t.fr.length := ⟨_, rfl⟩; rw [← hn0] at hD ⊢; replace D1 := hid hD; replace X1 := hid (hK.row _ _ _ X1.out (by decide) (by decide)); (first | replace K1 := hid (K1.out.trans hK) | replace K1 := hid (K1.out.drew.trans hK)); have y0 : w1.cell? ⟨W.heap.size, 0, none⟩ = some (.int .i64 0) := X1.out.cell 0; have y1 : w1.cell? ⟨W.heap.size, 1, none⟩ = some (.int .i64 0) := X1.out.cell 1; have y2 : w1.cell? ⟨W.heap.size, 2, none⟩ = some (.slice none 0 0) := X1.out.cell 2; have y3 : w1.cell? ⟨W.heap.size, 3, none⟩ = some (.slice none 0 0) := X1.out.cell 3; have f0 := X1.out.free 0; have f1 := X1.out.free 1; have f2 := X1.out.free 2; have f3 := X1.out.free 3; clear hn0 hD hK))
 all_goals go_wp2
 all_goals exact tb_ret (P := fun v w' => Dk w' B d mb t D L v t.fr (.slice aR m cR) Q) ((((X1.out.set 0 _).set 1 _).set 2 _).set 3 _) (D1.out.cells4 X1.out (by decide) (by decide) (by decide) _ _ _ _) ((((K1.out.cellN HB0.out (Nat.le_refl _) 0 _).cellN HB0.out (Nat.le_refl _) 1 _).cellN HB0.out (Nat.le_refl _) 2 _).cellN HB0.out (Nat.le_refl _) 3 _) rfl
end Go.Proofs.YtcbmgpdpjagaoaaGreat
namespace Go.Proofs.YtcbmgpdpjagaoaaGreat
open Go.RowKit
set_option linter.unusedVariables false
theorem Dk.runs {W : World} {B d mb : Nat} {t : Tt} {D : DataW En} {L : List En} {vS : Value} {S : List En} {vR : Value} {Q : List (Value × List En)} (h : Dk W B d mb t D L vS S vR Q) (t' : Tt) (e1 : t'.sq = t.sq) (e2 : t'.fl = t.fl) (e3 : t'.fr = t.fr) {vR' : Value} {Q' : List (Value × List En)} (hr : W.ownsRow B 25 1 vR' Q'.length (Q'.map Prod.fst)) (hu : ∀ p ∈ Q', OwnEn W B p.1 p.2) (hq : Q'.map Prod.snd = t'.rs) : Dk (W.setCell ⟨d, 4, none⟩ vR') B d mb t' D L vS S vR' Q' := by
 obtain ⟨ok, om⟩ := h.set 4 vR'; have hrow := h.row.set 4 vR'; refine ⟨by rw [e1, e2]; exact hrow, mapAt h.map om, h.fr, by rw [e3]; exact h.mem, by rw [e3]; exact h.srt, h.so.keep fun g cs _ r => ok r (by decide), by rw [e3]; exact h.sk, or_keep hr fun g cs _ r => ok r (by decide), fun p hp => (hu p hp).keep fun g cs _ r => ok r (by decide), hq, h.bd⟩
theorem Dk.len {W : World} {B d mb : Nat} {t : Tt} {D : DataW En} {L : List En} {vS : Value} {S : List En} {vR : Value} {Q : List (Value × List En)} (h : Dk W B d mb t D L vS S vR Q) : L.length = t.fr.length := h.perm.length_eq.symm
theorem Dk.ql {W : World} {B d mb : Nat} {t : Tt} {D : DataW En} {L : List En} {vS : Value} {S : List En} {vR : Value} {Q : List (Value × List En)} (h : Dk W B d mb t D L vS S vR Q) : Q.length = t.rs.length := by rw [← h.eq, List.length_map]
theorem Dk.tab {W : World} {B d mb : Nat} {t : Tt} {D : DataW En} {L : List En} {vS : Value} {S : List En} {vR : Value} {Q : List (Value × List En)} (h : Dk W B d mb t D L vS S vR Q) (hT : TbOk t) : tabOk t.sq t.fl t.fr.length (enA t.fr) Q.length (Rq Q) := tab_of_tb (by rw [h.tt]; exact hT)
theorem Dk.all {W : World} {B d mb : Nat} {t : Tt} {D : DataW En} {L : List En} {vS : Value} {S : List En} {vR : Value} {Q : List (Value × List En)} (h : Dk W B d mb t D L vS S vR Q) : allTb t.fr.length (enA t.fr) (Rq Q) Q.length = t.all := by rw [← ttOf_all t.sq t.fl, h.tt]
theorem Dk.flat {W : World} {B d mb : Nat} {t : Tt} {D : DataW En} {L : List En} {vS : Value} {S : List En} {vR : Value} {Q : List (Value × List En)} (h : Dk W B d mb t D L vS S vR Q) : allE (Rq Q) Q.length = t.rs.flatten := by rw [← ttOf_flat t.sq t.fl t.fr.length (enA t.fr), h.tt]
set_option maxRecDepth 20000 in
set_option maxHeartbeats 4000000 in
theorem iComp (B d mb : Nat) (t : Tt) (D : DataW En) (L : List En) (vS : Value) (S : List En) (vR : Value) (Q : List (Value × List En)) (hT : TbOk t) (fl : Int) (W : World) (h : Dk W B d mb t D L vS S vR Q) (hB : B ≤ W.heap.size) :
 Calls Tryz.prog 46 #[.pointer (some ⟨d, 0, none⟩), .int .i64 fl] W fun e W' => (∃ cd t' vR' Q', e = .returned (.int .i64 cd) ∧ (∀ ky tx til lm, Stp t ⟨4, ky, tx, fl, til, lm⟩ t' ⟨cd, ⟨#[]⟩, []⟩) ∧ Dk W' B d mb t' D L vS S vR' Q') ∧ KD B W W' := by
 obtain ⟨aR, cR, hvR, hRn, _, _, _⟩ := rs_rnA h.rs h.ru; obtain ⟨m, hm⟩ : ∃ x, x = Q.length := ⟨_, rfl⟩; have hm20 : m ≤ 20 := by rw [hm, h.ql]; exact hT.m
 obtain ⟨SS, q1, q2, q3, q4, q5, q6, q7⟩ := comp_runs (h.tab hT) fl; rw [h.flat] at q6; have hz := (tab_sz (h.tab hT)).1; rw [← hm] at hvR hRn q1 q2 q4 hz; subst hvR; obtain ⟨SQ, hSQ⟩ : ∃ x, x = t.sq := ⟨_, rfl⟩; obtain ⟨FL, hFL⟩ : ∃ x, x = t.fl := ⟨_, rfl⟩; have c0 := h.row.cell 0; have c1 := h.row.cell 1; have f1 := h.row.free 1; rw [← hSQ] at c0; rw [← hFL] at c1; have HD := hid h; have HB0 := hid hB; have HT := hid hT
 by_cases h1 : fl < FL
 · have e1 : decide (fl < FL) = true := by simpa using h1
   have ST : Hid (∀ ky tx til lm, Stp t ⟨4, ky, tx, fl, til, lm⟩ t ⟨1, ⟨#[]⟩, []⟩) := fun _ _ _ _ => .compF rfl (.inl (by rw [← hFL]; exact h1)); clear hSQ hFL h hB hT q1 q2 q3 q4 q5 q6 q7 hz hRn hm h1
   go_enter Tryz.func46, Tryz.ntmps46
   go_wp2_with fail
   go_ret
   exact ⟨⟨_, _, _, _, rfl, ST.out, HD.out⟩, KD.refl _ _⟩
 · have e1 : decide (fl < FL) = false := by simpa using h1
   by_cases h2 : SQ < fl
   · have e2 : decide (SQ < fl) = true := by simpa using h2
     have ST : Hid (∀ ky tx til lm, Stp t ⟨4, ky, tx, fl, til, lm⟩ t ⟨1, ⟨#[]⟩, []⟩) := fun _ _ _ _ => .compF rfl (.inr (by rw [← hSQ]; exact h2)); clear hSQ hFL h hB hT q1 q2 q3 q4 q5 q6 q7 hz hRn hm h1 h2
     go_enter Tryz.func46, Tryz.ntmps46
     go_wp2_with fail
     go_ret
     exact ⟨⟨_, _, _, _, rfl, ST.out, HD.out⟩, KD.refl _ _⟩
   · have e2 : decide (SQ < fl) = false := by simpa using h2
     have hno : ¬ (fl < t.fl ∨ t.sq < fl) := by rw [← hSQ, ← hFL]; exact fun q => q.elim h1 h2
     obtain ⟨M, hM⟩ : ∃ x, x = mgP fl ⟨#[]⟩ (SS.map Prod.fst) := ⟨_, rfl⟩; have hMS : mgS fl none (SS.map Prod.fst) = M := by rw [hM, q7]
     have ST0 : Hid (M = [] → ∀ ky tx til lm, Stp t ⟨4, ky, tx, fl, til, lm⟩ ⟨t.sq, fl, t.fr, []⟩ ⟨0, ⟨#[]⟩, []⟩) := fun hE _ _ _ _ => .comp0 _ rfl hno q6 (by show mgS fl none _ = []; rw [hMS, hE])
     have ST1 : Hid (M ≠ [] → ∀ ky tx til lm, Stp t ⟨4, ky, tx, fl, til, lm⟩ ⟨t.sq, fl, t.fr, [M]⟩ ⟨0, ⟨#[]⟩, []⟩) := fun hE ky tx til lm => by
      have := Stp.comp (t := t) (o := ⟨4, ky, tx, fl, til, lm⟩) _ rfl hno q6 (by show mgS fl none _ ≠ []; rw [hMS]; exact hE); dsimp only at this; rw [hMS] at this; exact this
     obtain ⟨W3, hW3⟩ : ∃ W3, W3 = W.setCell ⟨d, 1, none⟩ (.int .i64 fl) := ⟨_, rfl⟩; have D3 : Hid (Dk W3 B d mb ⟨t.sq, fl, t.fr, t.rs⟩ D L vS S (.slice aR m cR) Q) := by rw [hW3]; exact h.num ⟨t.sq, fl, t.fr, t.rs⟩ rfl rfl 1 _ rfl
     have K3 : Hid (KD B W W3) := by rw [hW3]; exact KD.set h.row h.bd.1 _
     have KM := hid (iMerge aR m cR (Rq Q) fl (by omega) (fun r hr => (hz r hr).1) (fun _ => 0) SS (by omega) W3 (D3.out.rn.2.1) q1 q2 q3 q4); rw [← hM] at KM; clear hSQ hFL h hB hT q1 q2 q3 q4 q5 q6 q7 hz hRn hm h1 h2 hno hM hMS HD
     go_enter Tryz.func46, Tryz.ntmps46
     go_upto_region 4 with fail
     rw [← hW3]; clear hW3 c0 c1 f1; have c4 := D3.out.row.cell 4
     go_wp2_with fail
     refine KM.out.mono ?_
     rintro e w4 ⟨⟨v4, rfl, hO4⟩, hb4⟩
     have D4 := hid (D3.out.below hb4); have O4 := hid (OwnEn.baseUp hO4 (Nat.le_trans HB0.out K3.out.size)); have K4 := hid (K3.out.trans (KD.of_below hb4 (Nat.le_trans HB0.out K3.out.size))); obtain ⟨a4, k4, hv4⟩ := hO4.slice; subst hv4; obtain ⟨N, hN⟩ : ∃ x, x = M.length := ⟨_, rfl⟩; rw [← hN] at O4 ⊢; have HN := hid hN; clear hN; obtain ⟨W5, hW5⟩ : ∃ W5, W5 = w4.alloc (.cells #[.slice a4 N k4] 25) := ⟨_, rfl⟩; have b5 : Below w4.heap.size w4 W5 := by rw [hW5]; exact (Below.refl _ _).alloc (Nat.le_refl _) _
     have X5 : Hid (RA W5 w4.heap.size 25 #[.slice a4 N k4]) := by rw [hW5]; exact RA.new _ _ _
     have HX5 : Hid (w4.heap.size ≠ d ∧ (Value.slice aR m cR).ownBlock ≠ some w4.heap.size) := ⟨fun e => by have := D4.out.row.lt; omega, fun e => by have := (or_row D4.out.rs e).2.1; omega⟩; have D5 := hid (D4.out.below b5); have O5 := hid (O4.out.below b5); have K5 := hid (K4.out.trans (KD.of_below b5 (Nat.le_trans HB0.out K4.out.size))); obtain ⟨X, hX⟩ : ∃ x, x = w4.heap.size := ⟨_, rfl⟩
     go_upto_region 5 with ((refine wpList_store_row rfl 25 (.tmp 5) (.tmp 29) rfl w4.heap.size #[.slice a4 N k4] rfl rfl _ _ (RA.new w4 _ _) (by kernel_rfl) rfl (by simp [Value.oneCell']) ?_); rw [World.setRow_alloc_new])
     rw [← hW5, ← hX]; rw [← hX] at X5 HX5; clear hW5 b5 hX c4 KM hO4 hb4 D4 O4 K4 D3 K3; have c4 := D5.out.row.cell 4; have f4 := D5.out.row.free 4; obtain ⟨W6, hW6⟩ : ∃ W6, W6 = W5.setCell ⟨d, 4, none⟩ (.slice none 0 0) := ⟨_, rfl⟩; have D6 : Hid (Dk W6 B d mb ⟨t.sq, fl, t.fr, []⟩ D L vS S (.slice none 0 0) []) := by rw [hW6]; exact D5.out.runs ⟨t.sq, fl, t.fr, []⟩ rfl rfl rfl ⟨rfl, .inl ⟨rfl, rfl⟩⟩ (fun p hp => by cases hp) rfl
     have K6 : Hid (KD B W W6) := by rw [hW6]; exact K5.out.trans (KD.set D5.out.row D5.out.bd.1 _)
     have X6 : Hid (RA W6 X 25 #[.slice a4 N k4]) := by rw [hW6]; exact X5.out.other _ _ HX5.out.1
     have O6 : Hid (OwnEn W6 B (.slice a4 N k4) M) := by rw [hW6]; exact O5.out.keep fun g cs _ r => (D5.out.set 4 _).1 r (by decide)
     have HW6 := hid hW6; clear hW6
     go_upto_region 6 with fail
     rw [← HW6.out]; clear HW6 c4 f4 D5 K5 X5 O5; have x0 := X6.out.cell 0
     by_cases hz0 : N = 0
     · have e5 : ¬ 0 < N := by omega
       have e3 : ¬ (0 : Int) < (N : Int) := by omega
       have e4 : decide ((0 : Int) < (N : Int)) = false := by simp; omega
       have ME : M = [] := List.eq_nil_of_length_eq_zero (by rw [← HN.out]; exact hz0); have STM := hid (ST0.out ME); clear hz0 ME
       go_wp2_with fail
       go_ret
       first | exact ⟨⟨_, _, _, _, rfl, STM.out, D6.out⟩, K6.out⟩ | exact ⟨⟨_, rfl, _, STM.out, _, _, D6.out⟩, K6.out⟩
     · have e5 : 0 < N := by omega
       have e3 : (0 : Int) < (N : Int) := by omega
       have e4 : decide ((0 : Int) < (N : Int)) = true := by simp; omega
       have STM := hid (ST1.out (fun q => hz0 (by rw [HN.out, q]; rfl))); clear hz0; obtain ⟨W7, hW7⟩ : ∃ W7, W7 = W6.alloc (.cells #[.slice a4 N k4] 25) := ⟨_, rfl⟩; have b7 : Below W6.heap.size W6 W7 := by rw [hW7]; exact (Below.refl _ _).alloc (Nat.le_refl _) _
       have D7 := hid (D6.out.below b7); have O7 := hid (O6.out.below b7); have K7 := hid (K6.out.trans (KD.of_below b7 (Nat.le_trans HB0.out K6.out.size)))
       have R7 : Hid (W7.ownsRow B 25 1 (.slice (some ⟨W6.heap.size, 0, none⟩) 1 1) 1 [.slice a4 N k4]) := by
        rw [hW7]; exact ⟨rfl, .inr ⟨W6.heap.size, 1, #[.slice a4 N k4], rfl, Nat.le_trans HB0.out K6.out.size, RA.new _ _ _, Nat.le_refl _, (by unfold maxLen; omega), rfl, rfl⟩⟩
       have c4 := D7.out.row.cell 4; have f4 := D7.out.row.free 4; obtain ⟨W8, hW8⟩ : ∃ W8, W8 = W7.setCell ⟨d, 4, none⟩ (.slice (some ⟨W6.heap.size, 0, none⟩) 1 1) := ⟨_, rfl⟩
       have D8 : Hid (Dk W8 B d mb ⟨t.sq, fl, t.fr, [M]⟩ D L vS S (.slice (some ⟨W6.heap.size, 0, none⟩) 1 1) [(.slice a4 N k4, M)]) := by
        rw [hW8]; exact D7.out.runs ⟨t.sq, fl, t.fr, [M]⟩ rfl rfl rfl R7.out (fun p hp => by rw [List.mem_singleton] at hp; subst hp; exact O7.out) rfl
       have K8 : Hid (KD B W W8) := by rw [hW8]; exact K7.out.trans (KD.set D7.out.row D7.out.bd.1 _)
       rw [hW7] at c4 f4 hW8; have HW8 := hid hW8; clear hW7 b7 hW8 D7 O7 K7 R7
       go_upto_region 8 with fail
       rw [← HW8.out]; clear HW8 c4 f4
       go_wp2_with fail
       go_ret
       first | exact ⟨⟨_, _, _, _, rfl, STM.out, D8.out⟩, K8.out⟩ | exact ⟨⟨_, rfl, _, STM.out, _, _, D8.out⟩, K8.out⟩
end Go.Proofs.YtcbmgpdpjagaoaaGreat
namespace Go.Proofs.YtcbmgpdpjagaoaaGreat
open Go.RowKit
set_option linter.unusedVariables false
@[go_sem] theorem eqEn8 (k : ByteArray) (s : Int) (g : Bool) (x k' : ByteArray) (s' : Int) (g' : Bool) (x' : ByteArray) (w : World) : (Op.equalIn 10000 46 (.agg #[.string k, .int .i64 s, .bool g, .string x]) (.agg #[.string k', .int .i64 s', .bool g', .string x'])).run Tryz.prog w = .ok (k.toList == k'.toList && (s == s') && (g == g') && x.toList == x'.toList) w := by
 have u9 := Tryz.underlying9; have u2 := Tryz.underlying2; have u4 := Tryz.underlying4; have hS : Tryz.prog.underlying 46 = some (.struct (Tryz.prog.fieldsOf 46)) := by kernel_rfl
 rw [show (10000 : Nat) = 9999 + 1 from rfl, run_equalIn_agg w 9999 46 _ _ hS (by kernel_rfl)]; simp only [Program.fieldsOf, Tryz.underlying46]
 go_simp
 by_cases h1 : k.toList = k'.toList <;> by_cases h2 : s = s' <;> by_cases h3 : g = g' <;> by_cases h4 : x.toList = x'.toList <;> simp [h1, h2, h3, h4]
@[go_sem] theorem eqGEn8 (op : BinOp) (x y : Operand) (xs ys : Array Value) (w : World) : (eqGuard op 46 x y (.agg xs) (.agg ys)).run Tryz.prog w = .ok () w := run_eqGuard_agg w op _ x y xs ys (by kernel_rfl)
theorem ou_ret {body : Func} {W' : World} {X sl : Nat} {a b v : Value} {P : Ending → World → Prop} {tm : Array Value} (sa : RA W' X 41 #[a, b, v]) (so : P (.returned (.agg #[a, b, v])) W') (hr : body.results = #[.cell sl 41]) (h2 : tm.getD sl undef = .pointer (some ⟨X, 0, none⟩)) :
 bodyPost Tryz.prog body P Exit.ret { tmps := tm, defers := [] } W' := by
 refine bodyPost_ret (v := .agg #[a, b, v]) ?_ rfl so; exact results_cell_row hr _ _ X _ _ _ _ h2 sa Tryz.underlying41 rfl (by kernel_rfl)
set_option maxRecDepth 20000 in
set_option maxHeartbeats 4000000 in
theorem iGet (B d mb : Nat) (t : Tt) (D : DataW En) (L : List En) (vS : Value) (S : List En) (vR : Value) (Q : List (Value × List En)) (hT : TbOk t) (key : ByteArray) (hk : key.size ≤ 1048576) (q : Int) (hq : q ≤ 9223372036854775807) (W : World) (h : Dk W B d mb t D L vS S vR Q) (hB : B ≤ W.heap.size) :
 Calls Tryz.prog 47 #[.pointer (some ⟨d, 0, none⟩), .string key, .int .i64 q] W fun e W' => (∃ cd tx, e = .returned (.agg #[.int .i64 cd, .string tx, .slice none 0 0]) ∧ (∀ tx0 til lm, Stp t ⟨5, key, tx0, q, til, lm⟩ t ⟨cd, tx, []⟩) ∧ ∃ vS' S', Dk W' B d mb t D L vS' S' vR Q ∧ (S' = S ∨ S' = t.fr)) ∧ KD B W W' := by
 obtain ⟨W1, hW1⟩ : ∃ W1, W1 = W.alloc (.cells #[.int .i64 0, .string ⟨#[]⟩, .slice none 0 0] 41) := ⟨_, rfl⟩; have b1 : Below W.heap.size W W1 := by rw [hW1]; exact (Below.refl _ _).alloc (Nat.le_refl _) _
 have X1 : Hid (RA W1 W.heap.size 41 #[.int .i64 0, .string ⟨#[]⟩, .slice none 0 0]) := by rw [hW1]; exact RA.new _ _ _
 have D1 := hid (h.below b1); have K1 : Hid (KD B W W1) := KD.of_below b1 hB; have HB1 : Hid (B ≤ W1.heap.size) := Nat.le_trans hB b1.size; have HB0 := hid hB; have KR := hid (iRdF q W1 D1.out); have HT := hid hT
 by_cases h1 : q < t.fl
 · rw [show rdV t q = 13 by unfold rdV; rw [if_pos h1]] at KR
   have ST : Hid (∀ tx0 til lm, Stp t ⟨5, key, tx0, q, til, lm⟩ t ⟨13, ⟨#[]⟩, []⟩) := fun _ _ _ => .late (.inl rfl) h1; clear h hB b1 h1 hT
   go_enter Tryz.func47, Tryz.ntmps47
   go_upto_region 1 with fail
   rw [← hW1]; clear hW1
   go_wp2_with fail
   refine KR.out.mono ?_
   rintro e w2 ⟨rfl, rfl⟩
   go_wp2_with (refine wpList_store_row rfl 41 (.tmp 6) (.tmp 15) rfl W.heap.size #[.int .i64 13, .string ⟨#[]⟩, .slice none 0 0] rfl rfl _ _ X1.out (by kernel_rfl) rfl (by simp [Value.oneCell']) ?_)
   exact ou_ret (X1.out.setRow _) ⟨⟨_, _, rfl, ST.out, _, _, D1.out.keepY X1.out (by decide) (by decide) (by decide) _, .inl rfl⟩, K1.out.setN HB0.out (Nat.le_refl _) _⟩ Tryz.results47 rfl
 · by_cases h2 : t.sq < q
   · rw [show rdV t q = 1 by unfold rdV; rw [if_neg h1, if_pos h2]] at KR
     have ST : Hid (∀ tx0 til lm, Stp t ⟨5, key, tx0, q, til, lm⟩ t ⟨1, ⟨#[]⟩, []⟩) := fun _ _ _ => .ahead (.inl rfl) h1 h2; clear h hB b1 h1 h2 hT
     go_enter Tryz.func47, Tryz.ntmps47
     go_upto_region 1 with fail
     rw [← hW1]; clear hW1
     go_wp2_with fail
     refine KR.out.mono ?_
     rintro e w2 ⟨rfl, rfl⟩
     go_wp2_with (refine wpList_store_row rfl 41 (.tmp 6) (.tmp 15) rfl W.heap.size #[.int .i64 1, .string ⟨#[]⟩, .slice none 0 0] rfl rfl _ _ X1.out (by kernel_rfl) rfl (by simp [Value.oneCell']) ?_)
     exact ou_ret (X1.out.setRow _) ⟨⟨_, _, rfl, ST.out, _, _, D1.out.keepY X1.out (by decide) (by decide) (by decide) _, .inl rfl⟩, K1.out.setN HB0.out (Nat.le_refl _) _⟩ Tryz.results47 rfl
   · rw [show rdV t q = 0 by unfold rdV; rw [if_neg h1, if_neg h2]] at KR
     have ST : Hid (∀ x, FndOf t.all key q x → ∀ tx0 til lm, Stp t ⟨5, key, tx0, q, til, lm⟩ t ⟨if x.sq = 0 then 5 else 0, x.tx, []⟩) := fun x hx _ _ _ => .get x rfl h1 h2 hx; have hl : L.length ≤ 1000 := by rw [h.len]; exact hT.frl
     have hQ : Q.length ≤ 20 := by rw [h.ql]; exact hT.m
     have KA := hid (iDAll B d mb t D L vS S vR Q hl hQ hT.frnd W1 D1.out HB1.out); have KF := fun a0 c0 a cap w hN => hid (iFir t.sq t.fl a0 t.fr.length c0 (enA t.fr) Q.length (Rq Q) key hk q hq (h.tab hT) (rnsz_snoc (tab_sz (h.tab hT)).1 ⟨Nat.le_trans hT.frl (by decide), (tab_sz (h.tab hT)).2⟩) a cap w hN); have FO : Hid (∀ x, FnR t.sq t.fl t.fr.length (enA t.fr) Q.length (Rq Q) key q x → FndOf t.all key q x) := fun x hx => by rw [← h.all]; exact fnr_of (h.tab hT) hx
     have ZZ : Hid (∀ x, FndOf t.all key q x → x = en0 ∨ 1 ≤ x.sq) := fun x hx => fnd_zero hx fun e he => (hT.fit e he).1.2.2.1; clear h hB b1 h1 h2 hT hl hQ hk hq D1
     go_enter Tryz.func47, Tryz.ntmps47
     go_upto_region 1 with fail
     rw [← hW1]; clear hW1
     go_wp2_with fail
     refine KR.out.mono ?_
     rintro e w2 ⟨rfl, rfl⟩
     go_wp2_with fail
     refine KA.out.mono ?_
     rintro e w3 ⟨⟨a, cap, a0, c0, rfl, hD3, hN3⟩, hK3⟩
     have D3 := hid hD3; have X3 := hid (hK3.row _ _ _ X1.out (by decide) (by decide)); have K3 := hid (K1.out.trans hK3); have KF3 := KF a0 c0 a cap w3 hN3; clear hD3 hK3 hN3 KF KR KA X1 K1
     go_wp2_with fail
     refine KF3.out.mono ?_
     rintro e w4 ⟨⟨x, rfl, hx, hx1, hx2⟩, hb4⟩
     have D4 := hid (D3.out.below hb4); have X4 := hid (X3.out.below hb4 X3.out.lt); have K4 := hid (K3.out.trans (KD.of_below hb4 (Nat.le_trans HB0.out K3.out.size))); have FX := FO.out x hx; have ZX := ZZ.out x FX; have STX := hid (ST.out x FX); obtain ⟨W5, hW5⟩ : ∃ W5, W5 = w4.alloc (.cells #[.string x.ky, .int .i64 x.sq, .bool x.gn, .string x.tx] 46) := ⟨_, rfl⟩; have b5 : Below w4.heap.size w4 W5 := by rw [hW5]; exact (Below.refl _ _).alloc (Nat.le_refl _) _
     have E5 : Hid (RA W5 w4.heap.size 46 #[.string x.ky, .int .i64 x.sq, .bool x.gn, .string x.tx]) := by rw [hW5]; exact RA.new _ _ _
     have D5 := hid (D4.out.below b5); have X5 := hid (X4.out.below b5 X4.out.lt); have K5 := hid (K4.out.trans (KD.of_below b5 (Nat.le_trans HB0.out K4.out.size))); obtain ⟨Y, hY⟩ : ∃ y, y = w4.heap.size := ⟨_, rfl⟩
     go_upto_region 5 with ((refine wpList_store_row rfl 46 (.tmp 8) (.tmp 20) rfl w4.heap.size #[.string x.ky, .int .i64 x.sq, .bool x.gn, .string x.tx] rfl rfl _ _ (RA.new w4 _ _) (by kernel_rfl) rfl (oneEn4 _ _ _ _) ?_); rw [World.setRow_alloc_new])
     rw [← hW5, ← hY]; rw [← hY] at E5; clear hW5 hY b5 hb4 KF3 D3 X3 K3 D4 X4 K4 hx hx1 hx2 FX ST FO ZZ; obtain ⟨x0, x1, x2, x3⟩ := x; dsimp only at ZX STX E5 ⊢; have y0 := E5.out.cell 0; have y1 := E5.out.cell 1; have y2 := E5.out.cell 2; have y3 := E5.out.cell 3
     rcases ZX with hz | hz
     · unfold en0 at hz
       injection hz with z1 z2 z3 z4
       subst z1 z2 z3 z4
       go_wp2_with (refine wpList_store_row rfl 41 (.tmp 6) (.tmp 24) rfl W.heap.size #[.int .i64 5, .string ⟨#[]⟩, .slice none 0 0] rfl rfl _ _ X5.out (by kernel_rfl) rfl (by simp [Value.oneCell']) ?_)
       exact ou_ret (X5.out.setRow _) ⟨⟨_, _, rfl, STX.out, _, _, D5.out.keepY X5.out (by decide) (by decide) (by decide) _, .inr rfl⟩, K5.out.setN HB0.out (Nat.le_refl _) _⟩ Tryz.results47 rfl
     · have hne : (x1 == 0) = false := by simp; omega
       have hne2 : ¬ x1 = 0 := by omega
       rw [if_neg hne2] at STX; clear hz hne2
       go_wp2_with (refine wpList_store_row rfl 41 (.tmp 6) (.tmp 27) rfl W.heap.size #[.int .i64 0, .string x3, .slice none 0 0] rfl rfl _ _ X5.out (by kernel_rfl) rfl (by simp [Value.oneCell']) ?_)
       exact ou_ret (X5.out.setRow _) ⟨⟨_, _, rfl, STX.out, _, _, D5.out.keepY X5.out (by decide) (by decide) (by decide) _, .inr rfl⟩, K5.out.setN HB0.out (Nat.le_refl _) _⟩ Tryz.results47 rfl
end Go.Proofs.YtcbmgpdpjagaoaaGreat
namespace Go.Proofs.YtcbmgpdpjagaoaaGreat
open Go.RowKit
set_option linter.unusedVariables false
theorem iScnD (t : Tt) (hT : TbOk t) (Q : List (Value × List En)) (htab : tabOk t.sq t.fl t.fr.length (enA t.fr) Q.length (Rq Q)) (hall : allTb t.fr.length (enA t.fr) (Rq Q) Q.length = t.all) (key til : ByteArray) (hk : key.size ≤ 100000) (ht : til.size ≤ 100000) (q lim : Int) {L0 : List En} {fe : ByteArray → En} (hL : SrtOf t.all L0) (hfe : ∀ k, FndOf t.all k q (fe k)) (a0 : Option Addr) (c0 : Nat) (a : Option Addr) (cap : Nat) (w : World) (hN : Rns w a (Q.length + 1) cap (snoc (Rq Q) Q.length ⟨a0, t.fr.length, c0, enA t.fr⟩)) :
 Calls Tryz.prog 37 #[.slice a (Q.length + 1) cap, .string key, .string til, .int .i64 q, .int .i64 lim] w fun e w' => (∃ v, e = .returned v ∧ OwnEn w' w.heap.size v (scN lim fe L0 key til L0.length)) ∧ Below w.heap.size w w' := by
 obtain ⟨st, S, h1, h2, h3, h4, h5, h6⟩ := scan_runs htab ⟨a0, t.fr.length, c0, enA t.fr⟩ rfl rfl key til q lim (by rw [hall]; exact hL) (by rw [hall]; exact hfe); rw [← h6]; have hQ : Q.length ≤ 20 := htab.1.2.2.2; have hz := rnsz_snoc (x := ⟨a0, t.fr.length, c0, enA t.fr⟩) (tab_sz htab).1 ⟨Nat.le_trans hT.frl (by decide), (tab_sz htab).2⟩; exact iScan a (Q.length + 1) cap _ key til q lim hk ht (by omega) (fun r hr => (hz r hr).1) st S (by omega) w hN h1 h2 h3 h4
theorem Dk.cells3 {W : World} {B d mb X : Nat} {t : Tt} {D : DataW En} {L : List En} {vS : Value} {S : List En} {vR : Value} {Q : List (Value × List En)} {cs : Array Value} {ty : TypeId} (h : Dk W B d mb t D L vS S vR Q) (hx : RA W X ty cs) (h1 : ty ≠ 79) (h2 : ty ≠ 46) (h3 : ty ≠ 25) (a b c : Value) : Dk (((W.setCell ⟨X, 0, none⟩ a).setCell ⟨X, 1, none⟩ b).setCell ⟨X, 2, none⟩ c) B d mb t D L vS S vR Q :=
 ((h.cellY hx h1 h2 h3 0 a).cellY (hx.set 0 a) h1 h2 h3 1 b).cellY ((hx.set 0 a).set 1 b) h1 h2 h3 2 c
theorem KD.cells3 {B X : Nat} {W0 W : World} (h : KD B W0 W) (hB : B ≤ X) (hX : W0.heap.size ≤ X) (a b c : Value) : KD B W0 (((W.setCell ⟨X, 0, none⟩ a).setCell ⟨X, 1, none⟩ b).setCell ⟨X, 2, none⟩ c) := ((h.cellN hB hX 0 a).cellN hB hX 1 b).cellN hB hX 2 c
theorem OwnEn.cells3 {W : World} {B X : Nat} {v : Value} {L : List En} {cs : Array Value} {ty : TypeId} (h : OwnEn W B v L) (hx : RA W X ty cs) (h2 : ty ≠ 46) (a b c : Value) : OwnEn (((W.setCell ⟨X, 0, none⟩ a).setCell ⟨X, 1, none⟩ b).setCell ⟨X, 2, none⟩ c) B v L := by
 have ok : ∀ (W : World) (cs : Array Value) (i : Nat) (v : Value), RA W X ty cs → ∀ (g : Nat) (cs' : Array Value), RA W g 46 cs' → RA (W.setCell ⟨X, i, none⟩ v) g 46 cs' := fun W cs i v hx g cs' r => r.other _ _ (row_ne r hx h2.symm); exact ((h.keep fun g cs _ r => ok _ _ 0 a hx _ _ r).keep fun g cs _ r => ok _ _ 1 b (hx.set 0 a) _ _ r).keep fun g cs _ r => ok _ _ 2 c ((hx.set 0 a).set 1 b) _ _ r
set_option maxRecDepth 20000 in
set_option maxHeartbeats 4000000 in
theorem iDScan (B d mb : Nat) (t : Tt) (D : DataW En) (L : List En) (vS : Value) (S : List En) (vR : Value) (Q : List (Value × List En)) (hT : TbOk t) (kd : Int) (key tx : ByteArray) (q : Int) (til : ByteArray) (lim : Int) (hk : key.size ≤ 100000) (ht : til.size ≤ 100000) (W : World) (h : Dk W B d mb t D L vS S vR Q) (hB : B ≤ W.heap.size) :
 Calls Tryz.prog 48 #[.pointer (some ⟨d, 0, none⟩), .agg #[.int .i64 kd, .string key, .string tx, .int .i64 q, .string til, .int .i64 lim]] W fun e W' => (∃ cd v en, e = .returned (.agg #[.int .i64 cd, .string ⟨#[]⟩, v]) ∧ OwnEn W' B v en ∧ Stp t ⟨6, key, tx, q, til, lim⟩ t ⟨cd, ⟨#[]⟩, en⟩ ∧ ∃ vS' S', Dk W' B d mb t D L vS' S' vR Q ∧ (S' = S ∨ S' = t.fr)) ∧ KD B W W' := by
 obtain ⟨W1, hW1⟩ : ∃ W1, W1 = (W.alloc (.cells #[.int .i64 kd, .string key, .string tx, .int .i64 q, .string til, .int .i64 lim] 39)).alloc (.cells #[.int .i64 0, .string ⟨#[]⟩, .slice none 0 0] 41) := ⟨_, rfl⟩; have b1 : Below W.heap.size W W1 := by rw [hW1]; exact balEn (balEn (Below.refl _ _) _) _
 have P1 : Hid (RA W1 W.heap.size 39 #[.int .i64 kd, .string key, .string tx, .int .i64 q, .string til, .int .i64 lim]) := by rw [hW1]; exact (RA.new _ _ _).alloc _
 have X1 : Hid (RA W1 (W.heap.size + 1) 41 #[.int .i64 0, .string ⟨#[]⟩, .slice none 0 0]) := by rw [hW1]; exact RA.next _ _ _ (by rw [size_al])
 have D1 := hid (h.below b1); have K1 : Hid (KD B W W1) := KD.of_below b1 hB; have HB1 : Hid (B ≤ W1.heap.size) := Nat.le_trans hB b1.size; have HB0 := hid hB; have KR := hid (iRdF q W1 D1.out); have r0 := P1.out.cell 0; have r1 := P1.out.cell 1; have r2 := P1.out.cell 2; have r3 := P1.out.cell 3; have r4 := P1.out.cell 4; have r5 := P1.out.cell 5
 by_cases h1 : q < t.fl
 · rw [show rdV t q = 13 by unfold rdV; rw [if_pos h1]] at KR
   have ST : Hid (Stp t ⟨6, key, tx, q, til, lim⟩ t ⟨13, ⟨#[]⟩, []⟩) := .late (.inr rfl) h1; clear h hB b1 h1 hT
   go_enter Tryz.func48, Tryz.ntmps48
   go_upto_region 1 with fail
   rw [← hW1]; clear hW1
   go_wp2_with fail
   refine KR.out.mono ?_
   rintro e w2 ⟨rfl, rfl⟩
   go_wp2_with (refine wpList_store_row rfl 41 (.tmp 4) (.tmp 13) rfl (W.heap.size + 1) #[.int .i64 13, .string ⟨#[]⟩, .slice none 0 0] rfl rfl _ _ X1.out (by kernel_rfl) rfl (by simp [Value.oneCell']) ?_)
   exact ou_ret (X1.out.setRow _) ⟨⟨_, _, _, rfl, OwnEn.nil _ _, ST.out, _, _, D1.out.keepY X1.out (by decide) (by decide) (by decide) _, .inl rfl⟩, K1.out.setN (Nat.le_succ_of_le HB0.out) (Nat.le_succ _) _⟩ Tryz.results48 rfl
 · by_cases h2 : t.sq < q
   · rw [show rdV t q = 1 by unfold rdV; rw [if_neg h1, if_pos h2]] at KR
     have ST : Hid (Stp t ⟨6, key, tx, q, til, lim⟩ t ⟨1, ⟨#[]⟩, []⟩) := .ahead (.inr rfl) h1 h2; clear h hB b1 h1 h2 hT
     go_enter Tryz.func48, Tryz.ntmps48
     go_upto_region 1 with fail
     rw [← hW1]; clear hW1
     go_wp2_with fail
     refine KR.out.mono ?_
     rintro e w2 ⟨rfl, rfl⟩
     go_wp2_with (refine wpList_store_row rfl 41 (.tmp 4) (.tmp 13) rfl (W.heap.size + 1) #[.int .i64 1, .string ⟨#[]⟩, .slice none 0 0] rfl rfl _ _ X1.out (by kernel_rfl) rfl (by simp [Value.oneCell']) ?_)
     exact ou_ret (X1.out.setRow _) ⟨⟨_, _, _, rfl, OwnEn.nil _ _, ST.out, _, _, D1.out.keepY X1.out (by decide) (by decide) (by decide) _, .inl rfl⟩, K1.out.setN (Nat.le_succ_of_le HB0.out) (Nat.le_succ _) _⟩ Tryz.results48 rfl
   · rw [show rdV t q = 0 by unfold rdV; rw [if_neg h1, if_neg h2]] at KR
     obtain ⟨L0, hL0⟩ := srt_ex t.all; obtain ⟨fe, hfe, _⟩ := fe_ex hT.tok q; have ST : Hid (Stp t ⟨6, key, tx, q, til, lim⟩ t ⟨0, ⟨#[]⟩, scN lim fe L0 key til L0.length⟩) := .scan L0 fe rfl h1 h2 hL0 hfe; have hl : L.length ≤ 1000 := by rw [h.len]; exact hT.frl
     have hQ : Q.length ≤ 20 := by rw [h.ql]; exact hT.m
     have KA := fun wx vS S (hx : Dk wx B d mb t D L vS S vR Q) (hb : B ≤ wx.heap.size) => hid (iDAll B d mb t D L vS S vR Q hl hQ hT.frnd wx hx hb); have KS := fun a0 c0 a cap w hN => hid (iScnD t hT Q (h.tab hT) h.all key til hk ht q lim hL0 hfe a0 c0 a cap w hN); obtain ⟨EN, hEN⟩ : ∃ x, x = scN lim fe L0 key til L0.length := ⟨_, rfl⟩; rw [← hEN] at ST KS; clear h hB b1 h1 h2 hT hl hQ hk ht hL0 hfe hEN
     go_enter Tryz.func48, Tryz.ntmps48
     go_upto_region 1 with fail
     rw [← hW1]; clear hW1
     go_wp2_with fail
     refine KR.out.mono ?_
     rintro e w2 ⟨rfl, rfl⟩
     clear KR
     go_upto_region 4 with fail
     go_region_held3 (fun wx => wx.cell? ⟨W.heap.size, 1, none⟩ = some (.string key) ∧ wx.cell? ⟨W.heap.size, 3, none⟩ = some (.int .i64 q) ∧ wx.cell? ⟨W.heap.size, 4, none⟩ = some (.string til) ∧ wx.cell? ⟨W.heap.size, 5, none⟩ = some (.int .i64 lim))
      ((first | (go_keep; done) | exact ⟨P1.out.cell 1, P1.out.cell 3, P1.out.cell 4, P1.out.cell 5⟩))
      (((first
      | (go_at_call 60; (first | refine (KA _ _ _ D1.out HB1.out).out.mono ?_ | refine (KA _ _ _ D1.out.drew HB1.out).out.mono ?_); rintro e w3 ⟨⟨a, cap, a0, c0, rfl, hD3, hN3⟩, hK3⟩; replace D1 := hid hD3; replace X1 := hid (hK3.row _ _ _ X1.out (by decide) (by decide)); replace P1 := hid (hK3.row _ _ _ P1.out (by decide) (by decide)); (first | replace K1 := hid (K1.out.trans hK3) | replace K1 := hid (K1.out.drew.trans hK3)); replace HB1 := hid (Nat.le_trans HB1.out hK3.size); have HN3 := hid hN3; clear hD3 hK3 hN3)
      | (go_at_call 37; (first | refine (KS a0 c0 a cap _ HN3.out).out.mono ?_); rintro e w4 ⟨⟨v, rfl, hO⟩, hb4⟩; obtain ⟨a9, c9, rfl⟩ := hO.slice; obtain ⟨n9, hn9⟩ : ∃ x, x = EN.length := ⟨_, rfl⟩; rw [← hn9] at hO ⊢; have O4 := hid (OwnEn.baseUp hO HB1.out); replace X1 := hid (X1.out.below hb4 X1.out.lt); replace P1 := hid (P1.out.below hb4 P1.out.lt); replace K1 := hid (K1.out.trans (KD.of_below hb4 HB1.out)); replace D1 := hid (D1.out.below hb4); have y0 : w4.cell? ⟨W.heap.size + 1, 0, none⟩ = some (.int .i64 0) := X1.out.cell 0; have y1 : w4.cell? ⟨W.heap.size + 1, 1, none⟩ = some (.string ⟨#[]⟩) := X1.out.cell 1; have y2 : w4.cell? ⟨W.heap.size + 1, 2, none⟩ = some (.slice none 0 0) := X1.out.cell 2; have f0 := X1.out.free 0; have f1 := X1.out.free 1; have f2 := X1.out.free 2; clear hn9 hO hb4))))
     all_goals go_wp2
     all_goals exact ou_ret (((X1.out.set 0 _).set 1 _).set 2 _) ⟨⟨_, _, _, rfl, O4.out.cells3 X1.out (by decide) _ _ _, ST.out, _, _, D1.out.cells3 X1.out (by decide) (by decide) (by decide) _ _ _, .inr rfl⟩, K1.out.cells3 (Nat.le_succ_of_le HB0.out) (Nat.le_succ _) _ _ _⟩ Tryz.results48 rfl
end Go.Proofs.YtcbmgpdpjagaoaaGreat
