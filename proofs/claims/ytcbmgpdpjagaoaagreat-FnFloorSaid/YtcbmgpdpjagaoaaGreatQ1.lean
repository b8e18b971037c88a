import Derived.Test.YtcbmgpdpjagaoaaGreatQuR
import Derived.Deep.AppendLies
namespace Go.Proofs.YtcbmgpdpjagaoaaGreat
open Go.RowKit
set_option linter.unusedVariables false
theorem rowApartQ {w : World} {b g : Nat} {t u : TypeId} {cs ds : Array Value} (h : RA w b t cs) (h' : RA w g u ds) (ht : t ≠ u) : b ≠ g := by
 intro e; subst e; have := h.symm.trans h'
 simp at this
 exact ht this.2
theorem cuCmp_lt (a b : Cu) : cuCmp a b < 0 ↔ enLt (a.o 0) (b.o 0) ∨ (enCmp (a.o 0) (b.o 0) = 0 ∧ a.no < b.no) := by
 unfold cuCmp orI; have h1 := enCmp_lt (a.o 0) (b.o 0); have h2 := cmpI_lt (a.no : Int) (b.no : Int)
 by_cases e : enCmp (a.o 0) (b.o 0) = 0
 · rw [if_neg (fun h => h e), h2]
   have hn : ¬ enLt (a.o 0) (b.o 0) := fun h => by have := h1.2 h; omega
   constructor
   · intro h; exact .inr ⟨e, by omega⟩
   · rintro (h | ⟨_, h⟩)
     · exact absurd h hn
     · omega
 · rw [if_pos e, h1]
   exact ⟨.inl, fun h => h.elim id fun h => absurd h.1 e⟩
def nbC (cu : Nat → Cu) (x y : Nat) : Prop := ¬ cuCmp (cu x) (cu y) < 0
theorem cuCmp_swap (a b : Cu) : cuCmp b a = - cuCmp a b := by
 unfold cuCmp orI; rw [enCmp_swap (a.o 0) (b.o 0), cmpI_swap (a.no : Int) (b.no : Int)]
 by_cases e : enCmp (a.o 0) (b.o 0) = 0
 · simp [e]
 · simp [e]
theorem cuLt_trans {a b c : Cu} (h1 : cuCmp a b < 0) (h2 : cuCmp b c < 0) : cuCmp a c < 0 := by
 rw [cuCmp_lt] at h1 h2 ⊢; have z1 := enCmp_zero (a.o 0) (b.o 0); have z2 := enCmp_zero (b.o 0) (c.o 0); have z3 := enCmp_zero (a.o 0) (c.o 0)
 rcases h1 with h1 | ⟨e1, h1⟩
 · rcases h2 with h2 | ⟨e2, h2⟩
   · exact .inl (enLt_trans h1 h2)
   · refine .inl (enLt_nt h1 fun h => ?_)
     have := (enCmp_lt (c.o 0) (b.o 0)).2 h; have := enCmp_swap (b.o 0) (c.o 0)
     omega
 · rcases h2 with h2 | ⟨e2, h2⟩
   · obtain ⟨k1, k2⟩ := z1.1 e1
     rcases h2 with h2 | ⟨k3, h2⟩
     · exact .inl (.inl (by rw [k1]; exact h2))
     · exact .inl (.inr ⟨k1.trans k3, by omega⟩)
   · obtain ⟨k1, k2⟩ := z1.1 e1
     obtain ⟨k3, k4⟩ := z2.1 e2; exact .inr ⟨z3.2 ⟨k1.trans k3, k2.trans k4⟩, by omega⟩
theorem cuLt_nt {a b c : Cu} (h1 : ¬ cuCmp a b < 0) (h2 : ¬ cuCmp b c < 0) : ¬ cuCmp a c < 0 := fun h => by
 have s1 := cuCmp_swap a b; have s2 := cuCmp_swap b c
 by_cases e1 : cuCmp b a < 0
 · exact h2 (cuLt_trans e1 h)
 · by_cases e2 : cuCmp c b < 0
   · exact h1 (cuLt_trans h e2)
   · have e3 : cuCmp a b = 0 := by omega
     have e4 : cuCmp b c = 0 := by omega
     have zz : ∀ x y : Cu, cuCmp x y = 0 → enCmp (x.o 0) (y.o 0) = 0 ∧ x.no = y.no := fun x y e => by
      unfold cuCmp orI at e
      by_cases q : enCmp (x.o 0) (y.o 0) = 0
      · rw [if_neg (fun h => h q)] at e
        unfold cmpI at e; refine ⟨q, ?_⟩
        split at e
        · omega
        · split at e
          · omega
          · omega
      · rw [if_pos q] at e; exact absurd e q
     obtain ⟨q1, q2⟩ := zz a b e3; obtain ⟨q3, q4⟩ := zz b c e4; obtain ⟨k1, k2⟩ := (enCmp_zero (a.o 0) (b.o 0)).1 q1; obtain ⟨k3, k4⟩ := (enCmp_zero (b.o 0) (c.o 0)).1 q3; rw [cuCmp_lt] at h; have z3 := (enCmp_zero (a.o 0) (c.o 0)).2 ⟨k1.trans k3, k2.trans k4⟩
     rcases h with h | ⟨_, h⟩
     · have := (enCmp_lt (a.o 0) (c.o 0)).2 h; omega
     · omega
theorem nbC_ord (cu : Nat → Cu) : Ord0 (nbC cu) := by
 refine ⟨fun a => ?_, fun {a b c} h1 h2 => cuLt_nt h1 h2, fun a b => ?_⟩
 · unfold nbC
   have := cuCmp_swap (cu a) (cu a)
   omega
 · unfold nbC
   have := cuCmp_swap (cu a) (cu b)
   omega
structure QS (W0 w : World) (q gI C n : Nat) (H : Nat → Nat) (cu : Nat → Cu) : Prop where
 old : Below W0.heap.size W0 w
 row : RA w q 109 #[.func (.func 69) #[] #[], .slice (some ⟨gI, 0, none⟩) n C]
 itm : ∃ f, FRow w gI 112 C f ∧ ∀ i, i < n → f i = .pointer (some ⟨H i, 0, none⟩)
 le : n ≤ C
 bq : W0.heap.size ≤ q
 bg : W0.heap.size ≤ gI
 cus : ∀ i, i < n → RA w (H i) 114 #[.int .i64 ((cu (H i)).no : Int), .slice (cu (H i)).ad (cu (H i)).n (cu (H i)).cap] ∧ Ens W0 (cu (H i)).ad (cu (H i)).n (cu (H i)).cap (cu (H i)).o
theorem QS.cuAt {W0 w : World} {q gI C n : Nat} {H : Nat → Nat} {cu : Nat → Cu} (h : QS W0 w q gI C n H cu) {i : Nat} (hi : i < n) (pi : 0 < (cu (H i)).n) : CuAt w (H i) (cu (H i)) := ⟨(h.cus i hi).1, (h.cus i hi).2.below h.old, pi⟩
theorem QS.ne {W0 w : World} {q gI C n : Nat} {H : Nat → Nat} {cu : Nat → Cu} (h : QS W0 w q gI C n H cu) : q ≠ gI := by
 obtain ⟨f, hf, _⟩ := h.itm; exact rowApartQ h.row hf.row (by decide)
theorem QS.below {W0 w w' : World} {q gI C n : Nat} {H : Nat → Nat} {cu : Nat → Cu} (h : QS W0 w q gI C n H cu) (hb : Below w.heap.size w w') : QS W0 w' q gI C n H cu := by
 obtain ⟨f, hf, hh⟩ := h.itm; exact ⟨h.old.trans (hb.mono h.old.size), h.row.below hb h.row.lt, ⟨f, hf.below hb hf.lt, hh⟩, h.le, h.bq, h.bg, fun i hi => ⟨(h.cus i hi).1.below hb (h.cus i hi).1.lt, (h.cus i hi).2⟩⟩
theorem QS.swap {W0 w w' : World} {q gI C n : Nat} {H : Nat → Nat} {cu : Nat → Cu} (h : QS W0 w q gI C n H cu) {i j : Nat} (hi : i < n) (hj : j < n) {f : Nat → Value} (hf : ∀ k, k < n → f k = .pointer (some ⟨H k, 0, none⟩))
 (hg : w.grownBy w' (some gI)) (hq : RA w' q 109 #[.func (.func 69) #[] #[], .slice (some ⟨gI, 0, none⟩) n C]) (hF : FRow w' gI 112 C (putF (putF f i (.pointer (some ⟨H j, 0, none⟩))) j (.pointer (some ⟨H i, 0, none⟩)))) : QS W0 w' q gI C n (swH H i j) cu := by
 obtain ⟨f0, hf0, _⟩ := h.itm
 have rw' : ∀ k, k < n → RA w' (H k) 114 #[.int .i64 ((cu (H k)).no : Int), .slice (cu (H k)).ad (cu (H k)).n (cu (H k)).cap] := fun k hk =>
  (hg.block (H k) (h.cus k hk).1.lt (fun e => rowApartQ (h.cus k hk).1 hf0.row (by decide) (Option.some.inj e))).trans (h.cus k hk).1
 refine ⟨h.old.grown hg h.old.size (fun k e => by have := Option.some.inj e; have := h.bg; omega), hq, ⟨_, hF, fun k hk => ?_⟩, h.le, h.bq, h.bg, fun k hk => ?_⟩
 · unfold putF swH
   by_cases e1 : k = j
   · subst e1
     rw [if_pos rfl]
     by_cases e2 : k = i
     · subst e2; rw [if_pos rfl]
     · rw [if_neg e2, if_pos rfl]
   · rw [if_neg e1, if_neg e1]
     by_cases e2 : k = i
     · rw [if_pos e2, if_pos e2]
     · rw [if_neg e2, if_neg e2, hf k hk]
 · unfold swH
   by_cases e2 : k = i
   · rw [if_pos e2]; exact ⟨rw' j hj, (h.cus j hj).2⟩
   · rw [if_neg e2]
     by_cases e1 : k = j
     · rw [if_pos e1]; exact ⟨rw' i hi, (h.cus i hi).2⟩
     · rw [if_neg e1]; exact ⟨rw' k hk, (h.cus k hk).2⟩
theorem mtLess (q : Nat) (w : World) : (Go.method 283 105 (.pointer (some ⟨q, 0, none⟩)) "Less").run Tryz.prog w = .ok (140, (.pointer (some ⟨q, 0, none⟩))) w := by kernel_rfl
theorem mtSwap (q : Nat) (w : World) : (Go.method 283 105 (.pointer (some ⟨q, 0, none⟩)) "Swap").run Tryz.prog w = .ok (143, (.pointer (some ⟨q, 0, none⟩))) w := by kernel_rfl
theorem mtLen (q : Nat) (w : World) : (Go.method 283 105 (.pointer (some ⟨q, 0, none⟩)) "Len").run Tryz.prog w = .ok (72, (.pointer (some ⟨q, 0, none⟩))) w := by kernel_rfl
theorem mtPush (q : Nat) (w : World) : (Go.method 283 105 (.pointer (some ⟨q, 0, none⟩)) "Push").run Tryz.prog w = .ok (142, (.pointer (some ⟨q, 0, none⟩))) w := by kernel_rfl
theorem mtPop (q : Nat) (w : World) : (Go.method 283 105 (.pointer (some ⟨q, 0, none⟩)) "Pop").run Tryz.prog w = .ok (141, (.pointer (some ⟨q, 0, none⟩))) w := by kernel_rfl
set_option maxRecDepth 20000 in
set_option maxHeartbeats 2000000 in
theorem iCmpCu (b b' : Nat) (c c' : Cu) (w : World) (h : CuAt w b c) (h' : CuAt w b' c') :
 Calls Tryz.prog 69 #[.pointer (some ⟨b, 0, none⟩), .pointer (some ⟨b', 0, none⟩)] w fun e w' => e = .returned (.int .i64 (cuCmp c c')) ∧ Below w.heap.size w w' := by
 obtain ⟨no, ad, n, cap, o⟩ := c; obtain ⟨no', ad', n', cap', o'⟩ := c'; have p := h.pos; have p' := h'.pos; dsimp only at p p'; have e1 := h.ens.2; have e2 := h'.ens.2; dsimp only at e1 e2
 rcases e1 with e1 | ⟨g, og, rfl, hg, hc⟩
 · omega
 rcases e2 with e2 | ⟨g', og', rfl, hg', hc'⟩
 · omega
 obtain ⟨x0, x1, x2, x3⟩ := hc 0 p; obtain ⟨y0, y1, y2, y3⟩ := hc' 0 p'; simp only [Nat.zero_mul, Nat.add_zero] at x0 x1 x2 x3 y0 y1 y2 y3; have A := hid h.row; have B := hid h'.row; dsimp only at A B; have X := hid (And.intro x0 (And.intro x1 (And.intro x2 (And.intro x3 (And.intro hg p))))); have Y := hid (And.intro y0 (And.intro y1 (And.intro y2 (And.intro y3 (And.intro hg' p'))))); clear h h' hc hc' x0 x1 x2 x3 y0 y1 y2 y3
 go_enter Tryz.func69, Tryz.ntmps69
 go_upto_region 1 with fail
 refine cc1_wp w b b' no no' g og n cap g' og' n' cap' (o 0).ky (o' 0).ky (o 0).tx (o' 0).tx (o 0).sq (o' 0).sq (o 0).gn (o' 0).gn w (Below.refl _ _) A.out X.out B.out Y.out ?_; intro X22 w1 hb; intros; have B1 := hid hb; clear hb
 go_wp2
 go_ret
 exact ⟨rfl, B1.out⟩
set_option maxRecDepth 20000 in
set_option maxHeartbeats 2000000 in
theorem iLess (W0 : World) (q gI C n : Nat) (H : Nat → Nat) (cu : Nat → Cu) (i j : Nat) (hi : i < n) (hj : j < n) (pi : 0 < (cu (H i)).n) (pj : 0 < (cu (H j)).n) (w : World) (h : QS W0 w q gI C n H cu) :
 Calls Tryz.prog 140 #[.pointer (some ⟨q, 0, none⟩), .int .i64 (i : Int), .int .i64 (j : Int)] w fun e w' => e = .returned (.bool (decide (cuCmp (cu (H i)) (cu (H j)) < 0))) ∧ Below w.heap.size w w' := by
 obtain ⟨f, hf, hh⟩ := h.itm; have nc := h.le; have ci := hf.at_ i (by omega); have cj := hf.at_ j (by omega); rw [hh i hi] at ci; rw [hh j hj] at cj; have Q := hid h.row; have CI := hid (And.intro ci (And.intro hi hf.lt)); have CJ := hid (And.intro cj hj); have K : Hid (∀ wx : World, Below w.heap.size w wx → Calls Tryz.prog 69 #[.pointer (some ⟨H i, 0, none⟩), .pointer (some ⟨H j, 0, none⟩)] wx fun e w' => e = .returned (.int .i64 (cuCmp (cu (H i)) (cu (H j)))) ∧ Below wx.heap.size wx w') := fun wx hb => iCmpCu _ _ _ _ wx ((h.cuAt hi pi).below hb) ((h.cuAt hj pj).below hb); clear ci cj hf hh h
 go_enter Tryz.func140, Tryz.ntmps140
 go_upto_region 1 with fail
 refine ls1_wp w q gI n C i j (H i) (H j) (cuCmp (cu (H i)) (cu (H j))) w (Below.refl _ _) Q.out CI.out CJ.out K.out ?_; intro uu w1 hb; intros; have B1 := hid hb; clear hb
 go_wp2
 go_ret
 exact ⟨rfl, B1.out⟩
set_option maxRecDepth 20000 in
set_option maxHeartbeats 2000000 in
theorem iSwap (W0 : World) (q gI C n : Nat) (H : Nat → Nat) (cu : Nat → Cu) (i j : Nat) (hi : i < n) (hj : j < n) (w : World) (h : QS W0 w q gI C n H cu) :
 Calls Tryz.prog 143 #[.pointer (some ⟨q, 0, none⟩), .int .i64 (i : Int), .int .i64 (j : Int)] w fun e w' => (∃ v, e = .returned v) ∧ QS W0 w' q gI C n (swH H i j) cu ∧ w.grownBy w' (some gI) := by
 obtain ⟨f, hf, hh⟩ := h.itm; have nc := h.le; have QQ := hid h; have FF := hid hf; have HHH := hid hh; have Q := hid h.row; have ne := h.ne; clear h hf hh
 go_enter Tryz.func143, Tryz.ntmps143
 go_upto_region 0 with fail
 refine sw0_wp w q gI n C i j (H i) (H j) f _ w (World.grownBy.refl _ _) Q.out FF.out ⟨hi, hj, nc, ne, HHH.out i hi, HHH.out j hj⟩ ?_; intro uu w1 hg hq hF _; have S1 := hid (QQ.out.swap hi hj HHH.out hg hq hF); have G1 := hid hg; clear hg hq hF
 go_wp2
 go_end0
 exact ⟨⟨_, rfl⟩, S1.out, G1.out⟩
set_option maxRecDepth 20000 in
theorem iLen (q gI C n : Nat) (w : World) (v : Value) (h : RA w q 109 #[v, .slice (some ⟨gI, 0, none⟩) n C]) :
 Calls Tryz.prog 72 #[.pointer (some ⟨q, 0, none⟩)] w fun e w' => e = .returned (.int .i64 (n : Int)) ∧ w' = w := by
 have c1 := h.cell 1
 go_enter Tryz.func72, Tryz.ntmps72
 go_wp2
 go_ret
 exact ⟨rfl, rfl⟩
end Go.Proofs.YtcbmgpdpjagaoaaGreat
namespace Go.Proofs.YtcbmgpdpjagaoaaGreat
open Go.RowKit
set_option linter.unusedVariables false
structure RQ (A B : World) : Prop where
 os : B.os = A.os
 tape : B.tape = A.tape
 output : B.output = A.output
 size : A.heap.size ≤ B.heap.size
 keep : ∀ k, k < A.heap.size → (∃ t cs, RA A k t cs ∧ (t = 109 ∨ t = 112 ∨ t = 114)) ∨ B.heap[k]? = A.heap[k]?
theorem RQ.refl (A : World) : RQ A A := ⟨rfl, rfl, rfl, Nat.le_refl _, fun k _ => .inr rfl⟩
theorem RQ.trans {A B C : World} (h : RQ A B) (h' : RQ B C) : RQ A C := by
 refine ⟨h'.os.trans h.os, h'.tape.trans h.tape, h'.output.trans h.output, Nat.le_trans h.size h'.size, fun k hk => ?_⟩
 rcases h.keep k hk with q | q
 · exact .inl q
 · rcases h'.keep k (Nat.lt_of_lt_of_le hk h.size) with ⟨t, cs, r, ht⟩ | r
   · exact .inl ⟨t, cs, by unfold RA at r ⊢; rw [← q]; exact r, ht⟩
   · exact .inr (r.trans q)
theorem RQ.below {A B : World} (h : Below A.heap.size A B) : RQ A B := ⟨h.os, h.tape, h.output, h.size, fun k hk => .inr (h.block k hk)⟩
theorem RQ.grown {A B : World} {g : Nat} {t : TypeId} {cs : Array Value} (h : A.grownBy B (some g)) (hr : RA A g t cs) (ht : t = 109 ∨ t = 112 ∨ t = 114) : RQ A B :=
 ⟨h.os, h.tape, h.output, h.size, fun k hk => by
  by_cases e : k = g
  · subst e; exact .inl ⟨t, cs, hr, ht⟩
  · exact .inr (h.block k hk fun e2 => e (Option.some.inj e2))⟩
theorem QS.gr {W0 w w' : World} {q gI C n : Nat} {H : Nat → Nat} {cu : Nat → Cu} (h : QS W0 w q gI C n H cu) (hg : w.grownBy w' (some gI)) : RQ w w' := by
 obtain ⟨f, hf, _⟩ := h.itm; exact RQ.grown hg hf.row (.inr (.inl rfl))
def Inj (H : Nat → Nat) (n : Nat) : Prop := ∀ i j, i < n → j < n → H i = H j → i = j
structure Pm (H H' : Nat → Nat) (n : Nat) : Prop where
 mem : ∀ x, (∃ i, i < n ∧ H' i = x) ↔ ∃ i, i < n ∧ H i = x
 inj : Inj H n → Inj H' n
theorem Pm.refl (H : Nat → Nat) (n : Nat) : Pm H H n := ⟨fun _ => Iff.rfl, id⟩
theorem Pm.trans {H H' H'' : Nat → Nat} {n : Nat} (h : Pm H H' n) (h' : Pm H' H'' n) : Pm H H'' n := ⟨fun x => (h'.mem x).trans (h.mem x), fun q => h'.inj (h.inj q)⟩
theorem Pm.sw (H : Nat → Nat) {n i j : Nat} (hi : i < n) (hj : j < n) : Pm H (swH H i j) n := ⟨fun x => by
 constructor
 · rintro ⟨k, hk, rfl⟩
   unfold swH
   by_cases e1 : k = i
   · exact ⟨j, hj, by rw [if_pos e1]⟩
   · by_cases e2 : k = j
     · exact ⟨i, hi, by rw [if_neg e1, if_pos e2]⟩
     · exact ⟨k, hk, by rw [if_neg e1, if_neg e2]⟩
 · rintro ⟨k, hk, rfl⟩
   by_cases e1 : k = i
   · exact ⟨j, hj, by rw [e1, swH_j]⟩
   · by_cases e2 : k = j
     · exact ⟨i, hi, by rw [e2, swH_i]⟩
     · exact ⟨k, hk, swH_o H e1 e2⟩, fun q a b ha hb e => by
 unfold swH at e
 by_cases a1 : a = i
 · rw [if_pos a1] at e
   by_cases b1 : b = i
   · omega
   · rw [if_neg b1] at e
     by_cases b2 : b = j
     · rw [if_pos b2] at e; have := q _ _ hj hi e; omega
     · rw [if_neg b2] at e; have := q _ _ hj hb e; omega
 · rw [if_neg a1] at e
   by_cases a2 : a = j
   · rw [if_pos a2] at e
     by_cases b1 : b = i
     · rw [if_pos b1] at e; have := q _ _ hi hj e; omega
     · rw [if_neg b1] at e
       by_cases b2 : b = j
       · omega
       · rw [if_neg b2] at e; have := q _ _ hi hb e; omega
   · rw [if_neg a2] at e
     by_cases b1 : b = i
     · rw [if_pos b1] at e; have := q _ _ ha hj e; omega
     · rw [if_neg b1] at e
       by_cases b2 : b = j
       · rw [if_pos b2] at e; have := q _ _ ha hi e; omega
       · rw [if_neg b2] at e; exact q _ _ ha hb e⟩
set_option maxRecDepth 20000 in
set_option maxHeartbeats 4000000 in
theorem iUp (W0 : World) (q gI C n : Nat) (hn : n ≤ 1000000) (H : Nat → Nat) (cu : Nat → Cu) (j0 : Nat) (w : World) (h : QS W0 w q gI C n H cu) (hp : ∀ i, i < n → 0 < (cu (H i)).n) (hU : UpI (nbC cu) H n j0) :
 Calls Tryz.prog 95 #[.iface 105 (.pointer (some ⟨q, 0, none⟩)), .int .i64 (j0 : Int)] w fun e w' => (∃ v, e = .returned v) ∧ ∃ H', QS W0 w' q gI C n H' cu ∧ Heap (nbC cu) H' n ∧ Pm H H' n ∧ RQ w w' := by
 have Q0 := hid h; have U0 := hid hU; have HP := hid hp; have m1 := mtLess q; have m2 := mtSwap q; clear h hU hp
 go_enter Tryz.func95, Tryz.ntmps95
 go_wp2_with fail
 go_loopw [1] (fun v wr => ∃ (j : Nat) (H' : Nat → Nat), v = .int .i64 (j : Int) ∧ QS W0 wr q gI C n H' cu ∧ UpI (nbC cu) H' n j ∧ Pm H H' n ∧ RQ w wr) (fun v _ => (intOf v).toNat)
 case atStart => exact ⟨j0, H, rfl, Q0.out, U0.out, Pm.refl _ _, RQ.refl _⟩
 case round =>
  obtain ⟨j, H1, rfl, hQ, hU, hP, hR⟩ := hrel; obtain ⟨WR, hWR⟩ : ∃ v, v = wr := ⟨_, rfl⟩; subst hWR; have Q1 := hid hQ; have U1 := hid hU; have P1 := hid hP; have R1 := hid hR; have hlt := hU.lt
  have PP : Hid (∀ i, i < n → 0 < (cu (H1 i)).n) := fun i hi => by
   obtain ⟨t, ht, e⟩ := (hP.mem (H1 i)).1 ⟨i, hi, rfl⟩; rw [← e]; exact HP.out t ht
  clear hQ hU hP hR Q0 U0
  by_cases hj : j = 0
  · subst hj
    go_wp2
    go_end0
    exact ⟨⟨_, rfl⟩, H1, Q1.out, U1.out.done _ (.inl rfl), P1.out, R1.out⟩
  · obtain ⟨p, hp⟩ : ∃ p, p = (j - 1) / 2 := ⟨_, rfl⟩
    have hp2 : Hid (p = (j - 1) / 2) := hp; have pn : p < n := by omega
    have pj : p < j := by omega
    have td : Int.tdiv ((j : Int) - 1) 2 = (p : Int) := by rw [Int.tdiv_eq_ediv_of_nonneg (by omega)]; omega
    have dd : ((p : Int) == (j : Int)) = false := beq_eq_false_iff_ne.2 (by omega); have KL := hid (iLess W0 q gI C n H1 cu j p hlt pn (PP.out j hlt) (PP.out p pn) WR Q1.out); clear hp
    by_cases hl : cuCmp (cu (H1 j)) (cu (H1 p)) < 0
    · have dl : decide (cuCmp (cu (H1 j)) (cu (H1 p)) < 0) = true := decide_eq_true hl
      rw [dl] at KL; clear dl
      go_wp2_with fail
      refine KL.out.mono ?_
      rintro e w2 ⟨rfl, hb2⟩
      have Q2 := hid (Q1.out.below hb2); have R2 := hid (R1.out.trans (RQ.below hb2)); clear hb2 KL; have KS := hid (iSwap W0 q gI C n H1 cu p j pn hlt w2 Q2.out)
      go_wp2_with fail
      refine KS.out.mono ?_
      rintro e w3 ⟨⟨v3, rfl⟩, hQ3, hg3⟩
      have Q3 := hid hQ3; have R3 := hid (R2.out.trans (Q2.out.gr hg3)); clear hQ3 hg3 KS
      go_wp2
      go_roundw
      case rel => exact ⟨p, swH H1 p j, rfl, Q3.out, by have := UpI.step (nbC cu) (nbC_ord cu) U1.out (by omega) (by rw [← hp2.out]; exact fun q => q hl); rw [← hp2.out] at this; exact this, P1.out.trans (Pm.sw H1 pn hlt), R3.out⟩
      case measure => simp [intOf]; omega
    · have dl : decide (cuCmp (cu (H1 j)) (cu (H1 p)) < 0) = false := decide_eq_false hl
      rw [dl] at KL; clear dl
      go_wp2_with fail
      refine KL.out.mono ?_
      rintro e w2 ⟨rfl, hb2⟩
      have Q2 := hid (Q1.out.below hb2); have R2 := hid (R1.out.trans (RQ.below hb2)); clear hb2 KL
      go_wp2
      go_end0
      exact ⟨⟨_, rfl⟩, H1, Q2.out, U1.out.done _ (.inr (by rw [← hp2.out]; unfold nbC; omega)), P1.out, R2.out⟩
set_option maxRecDepth 20000 in
set_option maxHeartbeats 8000000 in
theorem iDown (W0 : World) (q gI C n m : Nat) (hn : n ≤ 1000000) (hm : m ≤ n) (H : Nat → Nat) (cu : Nat → Cu) (w : World) (h : QS W0 w q gI C n H cu) (hp : ∀ i, i < m → 0 < (cu (H i)).n) (hD : DnI (nbC cu) H m 0) :
 Calls Tryz.prog 96 #[.iface 105 (.pointer (some ⟨q, 0, none⟩)), .int .i64 0, .int .i64 (m : Int)] w fun e w' => (∃ b : Bool, e = .returned (.bool b)) ∧ ∃ H', QS W0 w' q gI C n H' cu ∧ Heap (nbC cu) H' m ∧ Pm H H' m ∧ (∀ k, m ≤ k → H' k = H k) ∧ RQ w w' := by
 have Q0 := hid h; have D0 := hid hD; have HP := hid hp; have m1 := mtLess q; have m2 := mtSwap q; clear h hD hp
 go_enter Tryz.func96, Tryz.ntmps96
 go_wp2_with fail
 go_loopw [7] (fun v wr => ∃ (i : Nat) (H' : Nat → Nat), v = .int .i64 (i : Int) ∧ (i < m ∨ i = 0) ∧ QS W0 wr q gI C n H' cu ∧ DnI (nbC cu) H' m i ∧ Pm H H' m ∧ (∀ k, m ≤ k → H' k = H k) ∧ RQ w wr) (fun v _ => m - (intOf v).toNat)
 case atStart => exact ⟨0, H, rfl, .inr rfl, Q0.out, D0.out, Pm.refl _ _, fun k _ => rfl, RQ.refl _⟩
 case round =>
  obtain ⟨i, H1, rfl, hi, hQ, hD, hP, hK, hR⟩ := hrel; obtain ⟨WR, hWR⟩ : ∃ v, v = wr := ⟨_, rfl⟩; subst hWR; have Q1 := hid hQ; have D1 := hid hD; have P1 := hid hP; have K1 := hid hK
  have PP : Hid (∀ i, i < m → 0 < (cu (H1 i)).n) := fun i hi => by
   obtain ⟨t, ht, e⟩ := (hP.mem (H1 i)).1 ⟨i, hi, rfl⟩; rw [← e]; exact HP.out t ht
  have R1 := hid hR; clear hQ hD hP hK hR Q0 D0
  by_cases h1 : 2 * i + 1 < m
  · have d1 : ¬ (m : Int) ≤ 2 * (i : Int) + 1 := by omega
    have d2 : ¬ 2 * (i : Int) + 1 < 0 := by omega
    by_cases h2 : 2 * i + 1 + 1 < m
    · have d3 : 2 * (i : Int) + 1 + 1 < (m : Int) := by omega
      have KL := hid (iLess W0 q gI C n H1 cu (2 * i + 1 + 1) (2 * i + 1) (by omega) (by omega) (PP.out _ (by omega)) (PP.out _ (by omega)) WR Q1.out); have e1 : ((2 * i + 1 + 1 : Nat) : Int) = 2 * (i : Int) + 1 + 1 := by omega
      have e2 : ((2 * i + 1 : Nat) : Int) = 2 * (i : Int) + 1 := by omega
      rw [e1, e2] at KL
      by_cases hb : cuCmp (cu (H1 (2 * i + 1 + 1))) (cu (H1 (2 * i + 1))) < 0
      · have dl : decide (cuCmp (cu (H1 (2 * i + 1 + 1))) (cu (H1 (2 * i + 1))) < 0) = true := decide_eq_true hb
        rw [dl] at KL
        have HM : Hid (∀ k, 0 < k → k < m → (k - 1) / 2 = i → nbC cu (H1 k) (H1 (2 * i + 1 + 1))) := fun k k0 kn kp => by
         rcases (by omega : k = 2 * i + 1 ∨ k = 2 * i + 1 + 1) with rfl | rfl
         · have := cuCmp_swap (cu (H1 (2 * i + 1))) (cu (H1 (2 * i + 1 + 1)))
           unfold nbC
           omega
         · exact (nbC_ord cu).refl _
        clear dl hb
        go_wp2_with fail
        refine KL.out.mono ?_
        rintro e w2 ⟨rfl, hb2⟩
        have Q2 := hid (Q1.out.below hb2); have R2 := hid (R1.out.trans (RQ.below hb2)); clear hb2 KL; have KL2 := hid (iLess W0 q gI C n H1 cu (2 * i + 1 + 1) i (by omega) (by omega) (PP.out _ (by omega)) (PP.out _ (by omega)) w2 Q2.out); rw [e1] at KL2
        by_cases hl : cuCmp (cu (H1 (2 * i + 1 + 1))) (cu (H1 i)) < 0
        · have dl : decide (cuCmp (cu (H1 (2 * i + 1 + 1))) (cu (H1 i)) < 0) = true := decide_eq_true hl
          rw [dl] at KL2; have HL : Hid (¬ nbC cu (H1 (2 * i + 1 + 1)) (H1 i)) := fun q => q hl; clear dl hl
          go_wp2_with fail
          refine KL2.out.mono ?_
          rintro e w4 ⟨rfl, hb4⟩
          have Q4 := hid (Q2.out.below hb4); have R4 := hid (R2.out.trans (RQ.below hb4)); clear hb4 KL2; have KS := hid (iSwap W0 q gI C n H1 cu i (2 * i + 1 + 1) (by omega) (by omega) w4 Q4.out); rw [e1] at KS
          go_wp2_with fail
          refine KS.out.mono ?_
          rintro e w5 ⟨⟨v5, rfl⟩, hQ5, hg5⟩
          have Q5 := hid hQ5; have R5 := hid (R4.out.trans (Q4.out.gr hg5)); clear hQ5 hg5 KS
          go_wp2
          go_roundw
          case rel => exact ⟨2 * i + 1 + 1, swH H1 i (2 * i + 1 + 1), by go_num, by omega, Q5.out, DnI.step (nbC cu) (nbC_ord cu) D1.out (by omega) (by omega) (by omega) HM.out HL.out, P1.out.trans (Pm.sw H1 (by omega) (by omega)), fun k hk => by rw [swH_o H1 (by omega) (by omega)]; exact K1.out k hk, R5.out⟩
          case measure => simp [intOf]; omega
        · have dl : decide (cuCmp (cu (H1 (2 * i + 1 + 1))) (cu (H1 i)) < 0) = false := decide_eq_false hl
          rw [dl] at KL2; have HL : Hid (nbC cu (H1 (2 * i + 1 + 1)) (H1 i)) := hl; clear dl hl
          go_wp2_with fail
          refine KL2.out.mono ?_
          rintro e w4 ⟨rfl, hb4⟩
          have Q4 := hid (Q2.out.below hb4); have R4 := hid (R2.out.trans (RQ.below hb4)); clear hb4 KL2
          go_wp2
          go_ret
          exact ⟨⟨_, rfl⟩, H1, Q4.out, D1.out.done _ (fun k k0 kn kp => (nbC_ord cu).trans (HM.out k k0 kn kp) HL.out), P1.out, K1.out, R4.out⟩
      · have dl : decide (cuCmp (cu (H1 (2 * i + 1 + 1))) (cu (H1 (2 * i + 1))) < 0) = false := decide_eq_false hb
        rw [dl] at KL
        have HM : Hid (∀ k, 0 < k → k < m → (k - 1) / 2 = i → nbC cu (H1 k) (H1 (2 * i + 1))) := fun k k0 kn kp => by
         rcases (by omega : k = 2 * i + 1 ∨ k = 2 * i + 1 + 1) with rfl | rfl
         · exact (nbC_ord cu).refl _
         · exact hb
        clear dl hb
        go_wp2_with fail
        refine KL.out.mono ?_
        rintro e w2 ⟨rfl, hb2⟩
        have Q2 := hid (Q1.out.below hb2); have R2 := hid (R1.out.trans (RQ.below hb2)); clear hb2 KL; have KL2 := hid (iLess W0 q gI C n H1 cu (2 * i + 1) i (by omega) (by omega) (PP.out _ (by omega)) (PP.out _ (by omega)) w2 Q2.out); rw [e2] at KL2
        by_cases hl : cuCmp (cu (H1 (2 * i + 1))) (cu (H1 i)) < 0
        · have dl : decide (cuCmp (cu (H1 (2 * i + 1))) (cu (H1 i)) < 0) = true := decide_eq_true hl
          rw [dl] at KL2; have HL : Hid (¬ nbC cu (H1 (2 * i + 1)) (H1 i)) := fun q => q hl; clear dl hl
          go_wp2_with fail
          refine KL2.out.mono ?_
          rintro e w4 ⟨rfl, hb4⟩
          have Q4 := hid (Q2.out.below hb4); have R4 := hid (R2.out.trans (RQ.below hb4)); clear hb4 KL2; have KS := hid (iSwap W0 q gI C n H1 cu i (2 * i + 1) (by omega) (by omega) w4 Q4.out); rw [e2] at KS
          go_wp2_with fail
          refine KS.out.mono ?_
          rintro e w5 ⟨⟨v5, rfl⟩, hQ5, hg5⟩
          have Q5 := hid hQ5; have R5 := hid (R4.out.trans (Q4.out.gr hg5)); clear hQ5 hg5 KS
          go_wp2
          go_roundw
          case rel => exact ⟨2 * i + 1, swH H1 i (2 * i + 1), by go_num, by omega, Q5.out, DnI.step (nbC cu) (nbC_ord cu) D1.out (by omega) (by omega) (by omega) HM.out HL.out, P1.out.trans (Pm.sw H1 (by omega) (by omega)), fun k hk => by rw [swH_o H1 (by omega) (by omega)]; exact K1.out k hk, R5.out⟩
          case measure => simp [intOf]; omega
        · have dl : decide (cuCmp (cu (H1 (2 * i + 1))) (cu (H1 i)) < 0) = false := decide_eq_false hl
          rw [dl] at KL2; have HL : Hid (nbC cu (H1 (2 * i + 1)) (H1 i)) := hl; clear dl hl
          go_wp2_with fail
          refine KL2.out.mono ?_
          rintro e w4 ⟨rfl, hb4⟩
          have Q4 := hid (Q2.out.below hb4); have R4 := hid (R2.out.trans (RQ.below hb4)); clear hb4 KL2
          go_wp2
          go_ret
          exact ⟨⟨_, rfl⟩, H1, Q4.out, D1.out.done _ (fun k k0 kn kp => (nbC_ord cu).trans (HM.out k k0 kn kp) HL.out), P1.out, K1.out, R4.out⟩
    · have d3 : ¬ 2 * (i : Int) + 1 + 1 < (m : Int) := by omega
      have e2 : ((2 * i + 1 : Nat) : Int) = 2 * (i : Int) + 1 := by omega
      have HM : Hid (∀ k, 0 < k → k < m → (k - 1) / 2 = i → nbC cu (H1 k) (H1 (2 * i + 1))) := fun k k0 kn kp => by
       obtain rfl : k = 2 * i + 1 := by omega
       exact (nbC_ord cu).refl _
      have KL2 := hid (iLess W0 q gI C n H1 cu (2 * i + 1) i (by omega) (by omega) (PP.out _ (by omega)) (PP.out _ (by omega)) WR Q1.out); rw [e2] at KL2
      by_cases hl : cuCmp (cu (H1 (2 * i + 1))) (cu (H1 i)) < 0
      · have dl : decide (cuCmp (cu (H1 (2 * i + 1))) (cu (H1 i)) < 0) = true := decide_eq_true hl
        rw [dl] at KL2; have HL : Hid (¬ nbC cu (H1 (2 * i + 1)) (H1 i)) := fun q => q hl; clear dl hl
        go_wp2_with fail
        refine KL2.out.mono ?_
        rintro e w4 ⟨rfl, hb4⟩
        have Q4 := hid (Q1.out.below hb4); have R4 := hid (R1.out.trans (RQ.below hb4)); clear hb4 KL2; have KS := hid (iSwap W0 q gI C n H1 cu i (2 * i + 1) (by omega) (by omega) w4 Q4.out); rw [e2] at KS
        go_wp2_with fail
        refine KS.out.mono ?_
        rintro e w5 ⟨⟨v5, rfl⟩, hQ5, hg5⟩
        have Q5 := hid hQ5; have R5 := hid (R4.out.trans (Q4.out.gr hg5)); clear hQ5 hg5 KS
        go_wp2
        go_roundw
        case rel => exact ⟨2 * i + 1, swH H1 i (2 * i + 1), by go_num, by omega, Q5.out, DnI.step (nbC cu) (nbC_ord cu) D1.out (by omega) (by omega) (by omega) HM.out HL.out, P1.out.trans (Pm.sw H1 (by omega) (by omega)), fun k hk => by rw [swH_o H1 (by omega) (by omega)]; exact K1.out k hk, R5.out⟩
        case measure => simp [intOf]; omega
      · have dl : decide (cuCmp (cu (H1 (2 * i + 1))) (cu (H1 i)) < 0) = false := decide_eq_false hl
        rw [dl] at KL2; have HL : Hid (nbC cu (H1 (2 * i + 1)) (H1 i)) := hl; clear dl hl
        go_wp2_with fail
        refine KL2.out.mono ?_
        rintro e w4 ⟨rfl, hb4⟩
        have Q4 := hid (Q1.out.below hb4); have R4 := hid (R1.out.trans (RQ.below hb4)); clear hb4 KL2
        go_wp2
        go_ret
        exact ⟨⟨_, rfl⟩, H1, Q4.out, D1.out.done _ (fun k k0 kn kp => (nbC_ord cu).trans (HM.out k k0 kn kp) HL.out), P1.out, K1.out, R4.out⟩
  · have d1 : (m : Int) ≤ 2 * (i : Int) + 1 := by omega
    go_wp2
    go_ret
    exact ⟨⟨_, rfl⟩, H1, Q1.out, D1.out.done _ (fun k k0 kn kp => by omega), P1.out, K1.out, R1.out⟩
end Go.Proofs.YtcbmgpdpjagaoaaGreat
namespace Go.Proofs.YtcbmgpdpjagaoaaGreat
open Go.RowKit
set_option linter.unusedVariables false
def ptL (L : List Nat) : List Value := L.map fun b => .pointer (some ⟨b, 0, none⟩)
def OwnPt (w : World) (base : Nat) (v : Value) (L : List Nat) : Prop := w.ownsRow base 112 1 v L.length (ptL L)
theorem OwnPt.nil (w : World) (base : Nat) : OwnPt w base (.slice none 0 0) [] := ⟨rfl, .inl ⟨rfl, rfl⟩⟩
theorem ownPt_row {w : World} {base : Nat} {v : Value} {L : List Nat} (h : OwnPt w base v L) {g : Nat} (hg : v.ownBlock = some g) : base ≤ g ∧ g < w.heap.size ∧ ∃ cs, RA w g 112 cs := by
 rcases h.2 with ⟨rfl, _⟩ | ⟨g', cap, cur, rfl, hb, hr, r⟩
 · cases hg
 · have e : g' = g := Option.some.inj hg
   subst e; exact ⟨hb, (show RA w g' 112 cur from hr).lt, cur, hr⟩
theorem OwnPt.keep {w w' : World} {base : Nat} {v : Value} {L : List Nat} (h : OwnPt w base v L) (hk : ∀ g cs, v.ownBlock = some g → RA w g 112 cs → RA w' g 112 cs) : OwnPt w' base v L := by
 refine ⟨h.1, ?_⟩
 rcases h.2 with h0 | ⟨g, cap, cur, he, hb, hr, r⟩
 · exact .inl h0
 · exact .inr ⟨g, cap, cur, he, hb, hk g cur (by rw [he]; rfl) hr, r⟩
theorem OwnPt.setQ {w : World} {B b k : Nat} {v u : Value} {L : List Nat} (h : OwnPt w B v L) (hn : ∀ g, v.ownBlock = some g → g ≠ b) : OwnPt (w.setCell ⟨b, k, none⟩ u) B v L := h.keep fun g cs e hr => ((grown_setCellQ w b k u).block g hr.lt (fun q => hn g e (Option.some.inj q))).trans hr
theorem OwnPt.below {w w' : World} {B : Nat} {v : Value} {L : List Nat} (h : OwnPt w B v L) (hb : Below w.heap.size w w') : OwnPt w' B v L := h.keep fun g cs _ hr => hr.below hb hr.lt
theorem RQ.own {A B : World} {base : Nat} {v : Value} {L : List Nat} (h : OwnPt A base v L) (hg : A.grownBy B v.ownBlock) : RQ A B := by
 cases e : v.ownBlock with
 | none => rw [e] at hg; exact ⟨hg.os, hg.tape, hg.output, hg.size, fun k hk => .inr (hg.block k hk (by simp))⟩
 | some g =>
  rw [e] at hg; obtain ⟨_, _, cs, hr⟩ := ownPt_row h e; exact RQ.grown hg hr (.inr (.inl rfl))
theorem OwnPt.slice {w : World} {base : Nat} {v : Value} {L : List Nat} (h : OwnPt w base v L) : ∃ a c, v = .slice a L.length c := by
 rcases h.2 with ⟨h0, h1⟩ | ⟨g, cap, cur, he, _⟩
 · exact ⟨_, _, by rw [h0, h1]⟩
 · exact ⟨_, _, he⟩
theorem OwnPt.frow {w : World} {base g n C : Nat} {L : List Nat} (h : OwnPt w base (.slice (some ⟨g, 0, none⟩) n C) L) : n = L.length ∧ base ≤ g ∧ n ≤ C ∧ ∃ f, FRow w g 112 C f ∧ ∀ i, i < n → f i = .pointer (some ⟨L.getD i 0, 0, none⟩) := by
 rcases h.2 with ⟨h0, h1⟩ | ⟨g', cap, cur, he, hb, hr, hnc, hm, hsz, htk⟩
 · cases h0
 · cases he
   refine ⟨rfl, hb, hnc, fun p => cur.getD p (.int .i64 0), FRow.of (show RA w g 112 cur from hr) (by simpa using hsz) fun p hp => ?_, fun i hi => ?_⟩
   · have : p < cur.size := by rw [hsz]; omega
     simp [Array.getD, this]
   · have q := congrArg (·[i]?) htk
     simp only [List.getElem?_take] at q; rw [if_pos (by omega), Array.getElem?_toList, ptL, List.getElem?_map, List.getElem?_eq_getElem hi] at q; simp only [Option.map_some] at q
     simp [Array.getD_eq_getD_getElem?, q, List.getD_eq_getElem?_getD, List.getElem?_eq_getElem hi]
theorem OwnPt.of {w : World} {base g n C : Nat} {f : Nat → Value} {H : Nat → Nat} (h : FRow w g 112 C f) (hf : ∀ i, i < n → f i = .pointer (some ⟨H i, 0, none⟩)) (hn : n ≤ C) (hC : C ≤ maxLen) (hb : base ≤ g) : OwnPt w base (.slice (some ⟨g, 0, none⟩) n C) ((List.range n).map H) := by
 have hl : ((List.range n).map H).length = n := by simp
 unfold OwnPt; rw [hl]; refine ⟨by simp [ptL], .inr ⟨g, C, _, rfl, hb, h.row, hn, hC, by simp, ?_⟩⟩; rw [Nat.mul_one]
 apply List.ext_getElem?
 intro i; rw [List.getElem?_take]
 by_cases hi : i < n
 · rw [if_pos hi]
   simp [ptL, hi, show i < C by omega, hf i hi]
 · rw [if_neg hi]
   simp [ptL, hi]
theorem Tryz.infoPt : (Tryz.prog.info? 112).map (fun i => (i.zero, i.size, i.bytes)) = some (some (.pointer none), 1, 8) := by kernel_rfl
theorem taQ (b : Nat) (w : World) : (Instr.typeAssert (.iface 112 (.pointer (some ⟨b, 0, none⟩))) 20 112 false).run Tryz.prog w = .ok (.pointer (some ⟨b, 0, none⟩)) w := by kernel_rfl
theorem step_append_ptE (base : Nat) (w : World) {ops : Array Oper} {op : Oper} {a : Act} {K : Act → World → Prop} {Q : Exit → Act → World → Prop} {E : Prop} (hgd : op.guard = none) (s x : Operand)
 (ho : op.op = .call { callee := .builtin .append, args := #[s, x], argTypes := #[107, 107] })
 (v : Value) (L : List Nat) (n : Nat) (hn : L.length = n) (y : Nat) (hs : a.eval s = v) (hown : OwnPt w base v L) (hsz : base ≤ w.heap.size)
 (b : Nat) (R : RA w b 112 #[.pointer (some ⟨y, 0, none⟩)]) (hx : a.eval x = .slice (some ⟨b, 0, none⟩) 1 1) (hlen : n + 1 ≤ 1048576)
 (h : ∀ g cap w', OwnPt w' base (.slice (some ⟨g, 0, none⟩) (n + 1) cap) (L ++ [y]) → w.grownBy w' v.ownBlock → K (a.put op.dst (.slice (some ⟨g, 0, none⟩) (n + 1) cap)) w') :
 if Region.wanted op (yielded ops a.tmps) = true then Oper.wp Tryz.prog op a w K Q else E := by
 subst hn; obtain ⟨i0, hi, hz0, hz1, hz2⟩ := info_parts Tryz.infoPt; refine step_append_lies _ hgd s x _ ho base 112 i0 _ 1 8 Tryz.underlying107 hi hz0 hz1 hz2 rfl (by decide) v L.length (ptL L) hs hown ⟨b, 0, none⟩ 1 1 [.pointer (some ⟨y, 0, none⟩)] hx rfl ?_ ?_ (by decide) ?_ ?_ hsz w.heap.size rfl ?_
 · intro j u hj
   have hadd : (⟨b, 0, none⟩ : Addr).add j = ⟨b, j, none⟩ := by unfold Addr.add; split <;> simp_all
   rw [hadd, R.cell]
   match j, hj with
   | 0, hj => exact hj
 · intro u hu; simp at hu; subst hu; rfl
 · unfold maxLen; omega
 · omega
 · intro g cap w' h1 h2 h3 _
   exact h g cap w' (by simpa [OwnPt, ptL] using h1) h2
end Go.Proofs.YtcbmgpdpjagaoaaGreat
