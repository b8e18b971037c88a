import Derived.Test.YtekdphfifdfmbaaQuR
namespace Go.Proofs.Ytekdphfifdfmbaa
open Go.RowKit
set_option linter.unusedVariables false
/-! The queue's methods. -/
theorem rowApartQ {w : World} {b g : Nat} {t u : TypeId} {cs ds : Array Value} (h : RowAt w b t cs) (h' : RowAt w g u ds) (ht : t ≠ u) : b ≠ g := by
  intro e
  subst e
  have := h.symm.trans h'
  simp at this
  exact ht this.2
theorem cuCmp_lt (a b : Cu) : cuCmp a b < 0 ↔ enLt (a.o 0) (b.o 0) ∨ (enCmp (a.o 0) (b.o 0) = 0 ∧ a.no < b.no) := by
  unfold cuCmp orI
  have h1 := enCmp_lt (a.o 0) (b.o 0)
  have h2 := cmpI_lt (a.no : Int) (b.no : Int)
  by_cases e : enCmp (a.o 0) (b.o 0) = 0
  · rw [if_neg (fun h => h e), h2]
    have hn : ¬ enLt (a.o 0) (b.o 0) := fun h => by have := h1.2 h; omega
    constructor
    · intro h; exact .inr ⟨e, by omega⟩
    · rintro (h | ⟨_, h⟩)
      · exact absurd h hn
      · omega
  · rw [if_pos e, h1]
    exact ⟨.inl, fun h => h.elim id fun h => absurd h.1 e⟩
/-- not below -/
def nbC (cu : Nat → Cu) (x y : Nat) : Prop := ¬ cuCmp (cu x) (cu y) < 0
theorem cuCmp_swap (a b : Cu) : cuCmp b a = - cuCmp a b := by
  unfold cuCmp orI
  rw [enCmp_swap (a.o 0) (b.o 0), cmpI_swap (a.no : Int) (b.no : Int)]
  by_cases e : enCmp (a.o 0) (b.o 0) = 0
  · simp [e]
  · simp [e]
theorem cuLt_trans {a b c : Cu} (h1 : cuCmp a b < 0) (h2 : cuCmp b c < 0) : cuCmp a c < 0 := by
  rw [cuCmp_lt] at h1 h2 ⊢
  have z1 := enCmp_zero (a.o 0) (b.o 0)
  have z2 := enCmp_zero (b.o 0) (c.o 0)
  have z3 := enCmp_zero (a.o 0) (c.o 0)
  rcases h1 with h1 | ⟨e1, h1⟩
  · rcases h2 with h2 | ⟨e2, h2⟩
    · exact .inl (enLt_trans h1 h2)
    · refine .inl (enLt_nt h1 fun h => ?_)
      have := (enCmp_lt (c.o 0) (b.o 0)).2 h
      have := enCmp_swap (b.o 0) (c.o 0)
      omega
  · rcases h2 with h2 | ⟨e2, h2⟩
    · obtain ⟨k1, k2⟩ := z1.1 e1
      rcases h2 with h2 | ⟨k3, h2⟩
      · exact .inl (.inl (by rw [k1]; exact h2))
      · exact .inl (.inr ⟨k1.trans k3, by omega⟩)
    · obtain ⟨k1, k2⟩ := z1.1 e1
      obtain ⟨k3, k4⟩ := z2.1 e2
      exact .inr ⟨z3.2 ⟨k1.trans k3, k2.trans k4⟩, by omega⟩
theorem cuLt_nt {a b c : Cu} (h1 : ¬ cuCmp a b < 0) (h2 : ¬ cuCmp b c < 0) : ¬ cuCmp a c < 0 := fun h => by
  have s1 := cuCmp_swap a b
  have s2 := cuCmp_swap b c
  by_cases e1 : cuCmp b a < 0
  · exact h2 (cuLt_trans e1 h)
  · by_cases e2 : cuCmp c b < 0
    · exact h1 (cuLt_trans h e2)
    · have e3 : cuCmp a b = 0 := by omega
      have e4 : cuCmp b c = 0 := by omega
      have zz : ∀ x y : Cu, cuCmp x y = 0 → enCmp (x.o 0) (y.o 0) = 0 ∧ x.no = y.no := fun x y e => by
        unfold cuCmp orI at e
        by_cases q : enCmp (x.o 0) (y.o 0) = 0
        · rw [if_neg (fun h => h q)] at e
          unfold cmpI at e
          refine ⟨q, ?_⟩
          split at e
          · omega
          · split at e
            · omega
            · omega
        · rw [if_pos q] at e; exact absurd e q
      obtain ⟨q1, q2⟩ := zz a b e3
      obtain ⟨q3, q4⟩ := zz b c e4
      obtain ⟨k1, k2⟩ := (enCmp_zero (a.o 0) (b.o 0)).1 q1
      obtain ⟨k3, k4⟩ := (enCmp_zero (b.o 0) (c.o 0)).1 q3
      rw [cuCmp_lt] at h
      have z3 := (enCmp_zero (a.o 0) (c.o 0)).2 ⟨k1.trans k3, k2.trans k4⟩
      rcases h with h | ⟨_, h⟩
      · have := (enCmp_lt (a.o 0) (c.o 0)).2 h; omega
      · omega
theorem nbC_ord (cu : Nat → Cu) : Ord0 (nbC cu) := by
  refine ⟨fun a => ?_, fun {a b c} h1 h2 => cuLt_nt h1 h2, fun a b => ?_⟩
  · unfold nbC
    have := cuCmp_swap (cu a) (cu a)
    omega
  · unfold nbC
    have := cuCmp_swap (cu a) (cu b)
    omega
/-- a queue of cursors over entries of the old memory -/
structure QS (W0 w : World) (q gI C n : Nat) (H : Nat → Nat) (cu : Nat → Cu) : Prop where
  old : Below W0.heap.size W0 w
  row : RowAt w q 107 #[.func (.func 70) #[] #[], .slice (some ⟨gI, 0, none⟩) n C]
  itm : ∃ f, FRow w gI 110 C f ∧ ∀ i, i < n → f i = .pointer (some ⟨H i, 0, none⟩)
  le : n ≤ C
  bq : W0.heap.size ≤ q
  bg : W0.heap.size ≤ gI
  cus : ∀ i, i < n → RowAt w (H i) 112 #[.int .i64 ((cu (H i)).no : Int), .slice (cu (H i)).ad (cu (H i)).n (cu (H i)).cap] ∧ Ens W0 (cu (H i)).ad (cu (H i)).n (cu (H i)).cap (cu (H i)).o
theorem QS.cuAt {W0 w : World} {q gI C n : Nat} {H : Nat → Nat} {cu : Nat → Cu} (h : QS W0 w q gI C n H cu) {i : Nat} (hi : i < n) (pi : 0 < (cu (H i)).n) : CuAt w (H i) (cu (H i)) := ⟨(h.cus i hi).1, (h.cus i hi).2.below h.old, pi⟩
theorem QS.ne {W0 w : World} {q gI C n : Nat} {H : Nat → Nat} {cu : Nat → Cu} (h : QS W0 w q gI C n H cu) : q ≠ gI := by
  obtain ⟨f, hf, _⟩ := h.itm
  exact rowApartQ h.row hf.row (by decide)
theorem QS.below {W0 w w' : World} {q gI C n : Nat} {H : Nat → Nat} {cu : Nat → Cu} (h : QS W0 w q gI C n H cu) (hb : Below w.heap.size w w') : QS W0 w' q gI C n H cu := by
  obtain ⟨f, hf, hh⟩ := h.itm
  exact ⟨h.old.trans (hb.mono h.old.size), h.row.below hb h.row.lt, ⟨f, hf.below hb hf.lt, hh⟩, h.le, h.bq, h.bg, fun i hi => ⟨(h.cus i hi).1.below hb (h.cus i hi).1.lt, (h.cus i hi).2⟩⟩
theorem QS.swap {W0 w w' : World} {q gI C n : Nat} {H : Nat → Nat} {cu : Nat → Cu} (h : QS W0 w q gI C n H cu) {i j : Nat} (hi : i < n) (hj : j < n) {f : Nat → Value} (hf : ∀ k, k < n → f k = .pointer (some ⟨H k, 0, none⟩))
    (hg : w.grownBy w' (some gI)) (hq : RowAt w' q 107 #[.func (.func 70) #[] #[], .slice (some ⟨gI, 0, none⟩) n C]) (hF : FRow w' gI 110 C (putF (putF f i (.pointer (some ⟨H j, 0, none⟩))) j (.pointer (some ⟨H i, 0, none⟩)))) : QS W0 w' q gI C n (swH H i j) cu := by
  obtain ⟨f0, hf0, _⟩ := h.itm
  have rw' : ∀ k, k < n → RowAt w' (H k) 112 #[.int .i64 ((cu (H k)).no : Int), .slice (cu (H k)).ad (cu (H k)).n (cu (H k)).cap] := fun k hk =>
    (hg.block (H k) (h.cus k hk).1.lt (fun e => rowApartQ (h.cus k hk).1 hf0.row (by decide) (Option.some.inj e))).trans (h.cus k hk).1
  refine ⟨h.old.grown hg h.old.size (fun k e => by have := Option.some.inj e; have := h.bg; omega), hq, ⟨_, hF, fun k hk => ?_⟩, h.le, h.bq, h.bg, fun k hk => ?_⟩
  · unfold putF swH
    by_cases e1 : k = j
    · subst e1
      rw [if_pos rfl]
      by_cases e2 : k = i
      · subst e2; rw [if_pos rfl]
      · rw [if_neg e2, if_pos rfl]
    · rw [if_neg e1, if_neg e1]
      by_cases e2 : k = i
      · rw [if_pos e2, if_pos e2]
      · rw [if_neg e2, if_neg e2, hf k hk]
  · unfold swH
    by_cases e2 : k = i
    · rw [if_pos e2]; exact ⟨rw' j hj, (h.cus j hj).2⟩
    · rw [if_neg e2]
      by_cases e1 : k = j
      · rw [if_pos e1]; exact ⟨rw' i hi, (h.cus i hi).2⟩
      · rw [if_neg e1]; exact ⟨rw' k hk, (h.cus k hk).2⟩
theorem mtLess (q : Nat) (w : World) : (Go.method 282 103 (.pointer (some ⟨q, 0, none⟩)) "Less").run Try.prog w = .ok (130, (.pointer (some ⟨q, 0, none⟩))) w := by kernel_rfl
theorem mtSwap (q : Nat) (w : World) : (Go.method 282 103 (.pointer (some ⟨q, 0, none⟩)) "Swap").run Try.prog w = .ok (133, (.pointer (some ⟨q, 0, none⟩))) w := by kernel_rfl
theorem mtLen (q : Nat) (w : World) : (Go.method 282 103 (.pointer (some ⟨q, 0, none⟩)) "Len").run Try.prog w = .ok (73, (.pointer (some ⟨q, 0, none⟩))) w := by kernel_rfl
theorem mtPush (q : Nat) (w : World) : (Go.method 282 103 (.pointer (some ⟨q, 0, none⟩)) "Push").run Try.prog w = .ok (132, (.pointer (some ⟨q, 0, none⟩))) w := by kernel_rfl
theorem mtPop (q : Nat) (w : World) : (Go.method 282 103 (.pointer (some ⟨q, 0, none⟩)) "Pop").run Try.prog w = .ok (131, (.pointer (some ⟨q, 0, none⟩))) w := by kernel_rfl
set_option maxRecDepth 20000 in
set_option maxHeartbeats 2000000 in
theorem iCmpCu (b b' : Nat) (c c' : Cu) (w : World) (h : CuAt w b c) (h' : CuAt w b' c') :
    Calls Try.prog 70 #[.pointer (some ⟨b, 0, none⟩), .pointer (some ⟨b', 0, none⟩)] w fun e w' => e = .returned (.int .i64 (cuCmp c c')) ∧ Below w.heap.size w w' := by
  obtain ⟨no, ad, n, cap, o⟩ := c
  obtain ⟨no', ad', n', cap', o'⟩ := c'
  have p := h.pos
  have p' := h'.pos
  dsimp only at p p'
  have e1 := h.ens.2
  have e2 := h'.ens.2
  dsimp only at e1 e2
  rcases e1 with e1 | ⟨g, og, rfl, hg, hc⟩
  · omega
  rcases e2 with e2 | ⟨g', og', rfl, hg', hc'⟩
  · omega
  obtain ⟨x0, x1, x2, x3⟩ := hc 0 p
  obtain ⟨y0, y1, y2, y3⟩ := hc' 0 p'
  simp only [Nat.zero_mul, Nat.add_zero] at x0 x1 x2 x3 y0 y1 y2 y3
  have A := hid h.row
  have B := hid h'.row
  dsimp only at A B
  have X := hid (And.intro x0 (And.intro x1 (And.intro x2 (And.intro x3 (And.intro hg p)))))
  have Y := hid (And.intro y0 (And.intro y1 (And.intro y2 (And.intro y3 (And.intro hg' p')))))
  clear h h' hc hc' x0 x1 x2 x3 y0 y1 y2 y3
  go_enter Try.func70, Try.ntmps70
  go_upto_region 1 with fail
  refine cc1_wp w b b' no no' g og n cap g' og' n' cap' (o 0).ky (o' 0).ky (o 0).tx (o' 0).tx (o 0).sq (o' 0).sq (o 0).gn (o' 0).gn w (Below.refl _ _) A.out X.out B.out Y.out ?_
  intro X22 w1 hb
  intros
  have B1 := hid hb
  clear hb
  go_wp2
  go_ret
  exact ⟨rfl, B1.out⟩
set_option maxRecDepth 20000 in
set_option maxHeartbeats 2000000 in
theorem iLess (W0 : World) (q gI C n : Nat) (H : Nat → Nat) (cu : Nat → Cu) (i j : Nat) (hi : i < n) (hj : j < n) (pi : 0 < (cu (H i)).n) (pj : 0 < (cu (H j)).n) (w : World) (h : QS W0 w q gI C n H cu) :
    Calls Try.prog 130 #[.pointer (some ⟨q, 0, none⟩), .int .i64 (i : Int), .int .i64 (j : Int)] w fun e w' => e = .returned (.bool (decide (cuCmp (cu (H i)) (cu (H j)) < 0))) ∧ Below w.heap.size w w' := by
  obtain ⟨f, hf, hh⟩ := h.itm
  have nc := h.le
  have ci := hf.at_ i (by omega)
  have cj := hf.at_ j (by omega)
  rw [hh i hi] at ci
  rw [hh j hj] at cj
  have Q := hid h.row
  have CI := hid (And.intro ci (And.intro hi hf.lt))
  have CJ := hid (And.intro cj hj)
  have K : Hid (∀ wx : World, Below w.heap.size w wx → Calls Try.prog 70 #[.pointer (some ⟨H i, 0, none⟩), .pointer (some ⟨H j, 0, none⟩)] wx fun e w' => e = .returned (.int .i64 (cuCmp (cu (H i)) (cu (H j)))) ∧ Below wx.heap.size wx w') := fun wx hb => iCmpCu _ _ _ _ wx ((h.cuAt hi pi).below hb) ((h.cuAt hj pj).below hb)
  clear ci cj hf hh h
  go_enter Try.func130, Try.ntmps130
  go_upto_region 1 with fail
  refine ls1_wp w q gI n C i j (H i) (H j) (cuCmp (cu (H i)) (cu (H j))) w (Below.refl _ _) Q.out CI.out CJ.out K.out ?_
  intro uu w1 hb
  intros
  have B1 := hid hb
  clear hb
  go_wp2
  go_ret
  exact ⟨rfl, B1.out⟩
set_option maxRecDepth 20000 in
set_option maxHeartbeats 2000000 in
theorem iSwap (W0 : World) (q gI C n : Nat) (H : Nat → Nat) (cu : Nat → Cu) (i j : Nat) (hi : i < n) (hj : j < n) (w : World) (h : QS W0 w q gI C n H cu) :
    Calls Try.prog 133 #[.pointer (some ⟨q, 0, none⟩), .int .i64 (i : Int), .int .i64 (j : Int)] w fun e w' => (∃ v, e = .returned v) ∧ QS W0 w' q gI C n (swH H i j) cu ∧ w.grownBy w' (some gI) := by
  obtain ⟨f, hf, hh⟩ := h.itm
  have nc := h.le
  have QQ := hid h
  have FF := hid hf
  have HHH := hid hh
  have Q := hid h.row
  have ne := h.ne
  clear h hf hh
  go_enter Try.func133, Try.ntmps133
  go_upto_region 0 with fail
  refine sw0_wp w q gI n C i j (H i) (H j) f _ w (World.grownBy.refl _ _) Q.out FF.out ⟨hi, hj, nc, ne, HHH.out i hi, HHH.out j hj⟩ ?_
  intro uu w1 hg hq hF _
  have S1 := hid (QQ.out.swap hi hj HHH.out hg hq hF)
  have G1 := hid hg
  clear hg hq hF
  go_wp2
  go_end0
  exact ⟨⟨_, rfl⟩, S1.out, G1.out⟩
set_option maxRecDepth 20000 in
theorem iLen (q gI C n : Nat) (w : World) (v : Value) (h : RowAt w q 107 #[v, .slice (some ⟨gI, 0, none⟩) n C]) :
    Calls Try.prog 73 #[.pointer (some ⟨q, 0, none⟩)] w fun e w' => e = .returned (.int .i64 (n : Int)) ∧ w' = w := by
  have c1 := h.cell 1
  go_enter Try.func73, Try.ntmps73
  go_wp2
  go_ret
  exact ⟨rfl, rfl⟩
end Go.Proofs.Ytekdphfifdfmbaa
