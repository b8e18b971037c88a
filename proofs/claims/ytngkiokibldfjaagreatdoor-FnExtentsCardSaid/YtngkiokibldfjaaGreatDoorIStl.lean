import Derived.Test.YtngkiokibldfjaaGreatDoorPR
import Derived.Test.YtngkiokibldfjaaGreatDoorPS
import Derived.Deep.RegionHeld3
import Derived.Deep.CutRange
namespace Go.Proofs.YtngkiokibldfjaaGreatDoor
open Go.RowKit Go.Shelf
set_option linter.unusedVariables false
attribute [local go_sem] Oper.semAt_some
/-! The last record of each key: the program's settle. -/
theorem OwnNums.setAt {w : World} {base g n c j : Nat} {e : TypeId} {k : IntKind} {xs : List Int} (h : OwnNums w base e k (.slice (some ⟨g, 0, none⟩) n c) xs) (hj : j < xs.length) (x : Int) : OwnNums (w.setCell ⟨g, j, none⟩ (.int k x)) base e k (.slice (some ⟨g, 0, none⟩) n c) (xs.set j x) := by
  have hn : n = xs.length := by obtain ⟨a, c', hv⟩ := orSlice h; injection hv
  refine ⟨by simp, ?_⟩
  rcases h.2 with ⟨h0, _⟩ | ⟨g', cap, cur, he, hb, hr, hnc, hm, hsz, htk⟩
  · cases h0
  · injection he with e1 e2 e3
    injection e1 with e1
    injection e1 with e1 _ _
    subst e1 e3
    refine .inr ⟨g, c, cur.setIfInBounds j (.int k x), by rw [List.length_set, hn], hb, ?_, by rw [List.length_set]; exact hnc, hm, by simpa using hsz, ?_⟩
    · rw [setCell_eq_setRow w g j cur _ _ _ hr]
      exact setRow_heap w g cur _ _ _ hr
    · rw [Array.toList_setIfInBounds, List.take_set, List.length_set, htk, List.map_set]
/-- the shelf behind k records of the reading -/
structure StI (X bx : Nat) (w : World) (d : ByteArray) (hv pv sy rv hl : Value) (mb : Nat) (NK : List ByteArray) (k : Nat) (W : World) (lv : Value) : Prop where
  s : RowAt W bx 60 #[.pointer (some ⟨X, 0, none⟩)]
  r : RowAt W X 72 #[.string d, hv, pv, sy, rv, .map (some mb), lv, hl]
  l : OwnNums W w.heap.size 3 .i64 lv (NK.map fun key => lx d key k)
  t : TG [72, 3] false X w W
theorem StI.obj {X bx : Nat} {w A B : World} {d : ByteArray} {hv pv sy rv hl : Value} {mb : Nat} {NK : List ByteArray} {k : Nat} {lv : Value} {row : Option Nat} (h : StI X bx w d hv pv sy rv hl mb NK k A lv) (hX : X ≤ w.heap.size) (hg : A.grownBy B row) (hr : ∀ r, row = some r → w.heap.size ≤ r ∧ ∃ o, A.heap[r]? = some o ∧ o.isCells = false) : StI X bx w d hv pv sy rv hl mb NK k B lv := by
  have kp : ∀ {b t cs}, RowAt A b t cs → RowAt B b t cs := fun {b t cs} q => (hg.block b q.lt (fun e => by
    obtain ⟨_, o, ho, hc⟩ := hr b e.symm
    have := q.symm.trans ho
    cases this
    cases hc)).trans q
  exact ⟨kp h.s, kp h.r, orKeep h.l fun g cs _ q => kp q, h.t.fresh hX hg fun g e => (hr g e).1⟩
theorem StI.below {X bx : Nat} {w A B : World} {d : ByteArray} {hv pv sy rv hl : Value} {mb : Nat} {NK : List ByteArray} {k : Nat} {lv : Value} (h : StI X bx w d hv pv sy rv hl mb NK k A lv) (hX : X ≤ w.heap.size) (hb : Below A.heap.size A B) : StI X bx w d hv pv sy rv hl mb NK k B lv :=
  h.obj hX (below_grown hb none) fun r e => by cases e
theorem step_len {P : Program} {ops : Array Oper} {o : Oper} {a : Act} {w : World} {K : Act → World → Prop} {Q : Exit → Act → World → Prop} {E : Prop}
    (hg : o.guard = none) (m : Operand) (t : TypeId) (ho : o.op = Op.call { callee := Callee.builtin Builtin.len, args := #[m], argTypes := #[t] })
    (v : Value) (hm : a.eval m = v) {v' : Value} (hr : (Builtin.len_ #[t] o.type #[v]).run P w = .ok v' w) (hK : K (a.put o.dst v') w) :
    if Region.wanted o (yielded ops a.tmps) = true then Oper.wp P o a w K Q else E := by
  rw [if_pos (by simp [Region.wanted, hg])]
  unfold Oper.wp execOp
  simp only [ho, resolve, invoke, builtin, Sem.run_bind, Sem.run_pure, Result.andThen_ok, List.map_toArray, List.map_cons, List.map_nil, hm, hr]
  exact hK
theorem NumsAt.len {w : World} {mb : Nat} {NK : List ByteArray} (h : NumsAt w mb NK) (ty : TypeId) : (Builtin.len_ #[69] ty #[.map (some mb)]).run Tryz.prog w = .ok (.int .i64 (NK.length : Int)) w := by
  obtain ⟨_, D, hD, hO⟩ := h
  rw [hO.len Tryz.underlying69 ty, hD.size]
/-- the shelf while the held keys are counted -/
structure StJ (X bx : Nat) (w : World) (d : ByteArray) (hv pv sy rv : Value) (mb : Nat) (NK : List ByteArray) (P : List (Fr × Nat)) (lv : Value) (D : Nat) (c : Nat) (W : World) : Prop where
  s : RowAt W bx 60 #[.pointer (some ⟨X, 0, none⟩)]
  r : RowAt W X 72 #[.string d, hv, pv, sy, rv, .map (some mb), lv, .int .i64 (c : Nat)]
  l : OwnNums W w.heap.size 3 .i64 lv (NK.map (lxA d))
  p : OwnFl W (X + 1) rv P
  t : TG [72, 3] false X w W
  d : W.heap[D]? = some (.deferred (some []))
theorem StJ.put {X bx D c c' : Nat} {w A : World} {d : ByteArray} {hv pv sy rv lv : Value} {mb : Nat} {NK : List ByteArray} {P : List (Fr × Nat)} (h : StJ X bx w d hv pv sy rv mb NK P lv D c A) (hX : X ≤ w.heap.size) : StJ X bx w d hv pv sy rv mb NK P lv D c' (A.setCell ⟨X, 7, none⟩ (.int .i64 (c' : Nat))) := by
  have g : A.grownBy (A.setCell ⟨X, 7, none⟩ (.int .i64 (c' : Nat))) (some X) := grown_set
  refine ⟨h.s.other _ _ (row_neX h.s h.r (by decide)), h.r.set 7 _, orKeep h.l fun g cs _ q => q.other _ _ (row_neX q h.r (by decide)), orKeep h.p fun g cs _ q => q.other _ _ (row_neX q h.r (by decide)), h.t.trans (TG.grown false g (Nat.le_trans hX h.t.size) fun k e => by
    obtain rfl := Option.some.inj e
    exact ⟨Nat.le_refl _, _, _, h.r, by simp⟩), (g.block D (Array.getElem?_eq_some_iff.1 h.d).1 (fun e => ?_)).trans h.d⟩
  have := Option.some.inj e
  subst this
  have := h.d.symm.trans (show A.heap[D]? = _ from h.r)
  cases this
/-- a step of the count -/
theorem cnt_step (q : ByteArray → Bool) (L : List ByteArray) (t : Nat) (x : ByteArray) (h : L[t]? = some x) : (L.take (t + 1)).countP q = (L.take t).countP q + if q x then 1 else 0 := by
  obtain ⟨h1, h2⟩ := List.getElem?_eq_some_iff.1 h
  rw [List.take_add_one, h, List.countP_append]
  cases hq : q x <;> simp [hq]
theorem keeps_row {B0 g : Nat} {A B : World} {t : TypeId} {cs : Array Value} (hr : RowAt A g t cs) (hg : A.grownBy B (some g)) : KeepsFrom B0 A B :=
  ⟨hg.size, fun j o hB hj ho => (hg.block j (Array.getElem?_eq_some_iff.1 hj).1 (fun e => by
    have := Option.some.inj e
    subst this
    have := hr.symm.trans hj
    cases this
    cases ho)).trans hj⟩
theorem KpF.row {g : Nat} {A B : World} {t : TypeId} {cs : Array Value} (hr : RowAt A g t cs) (ht : t ≠ 112) (hg : A.grownBy B (some g)) : KpF A B :=
  ⟨hg.size, fun j cs' r => (hg.block j r.lt (fun e => row_neX r hr ht.symm (Option.some.inj e))).trans r⟩
theorem KpF.below {A B : World} (hb : Below A.heap.size A B) : KpF A B := ⟨hb.size, fun j cs' r => r.below hb r.lt⟩
theorem KpF.obj {A : World} {l : Nat} {o o' : Obj} (h : A.heap[l]? = some o) (ho : o.isCells = false) : KpF A (A.putObj l o') := by
  have g := grownBy_putObj' A l o'
  refine ⟨g.size, fun j cs r => (g.block j r.lt (fun e => ?_)).trans r⟩
  cases e
  have := r.symm.trans h
  cases this
  cases ho
theorem keeps_below {B0 : Nat} {A B : World} (hb : Below A.heap.size A B) : KeepsFrom B0 A B := KeepsFrom.of_grownBy (below_grown hb none) (fun j hj => by cases hj)
/-- a step of the reading -/
theorem ord_at {d : ByteArray} {NK : List ByteArray} {P : List (Fr × Nat)} (hA : P.map Prod.fst = allR d) (hK : FlK d NK P) {k : Nat} (hk : k < (ordP P).length) :
    ∃ (i j : Nat) (f : Fr), (ordP P).getD k or0 = (i, (f, j)) ∧ (grA d)[k]? = some (i, f) ∧ P[i]? = some (f, j) ∧ NK[j]? = some (rcK d (some f)) := by
  have e0 : (ordP P)[k]? = some ((ordP P).getD k or0) := by rw [List.getD_eq_getElem?_getD, List.getElem?_eq_getElem hk]; rfl
  obtain ⟨x, hx⟩ : ∃ x, x = (ordP P).getD k or0 := ⟨_, rfl⟩
  rw [← hx] at e0 ⊢
  obtain ⟨i, f, j⟩ := x
  have hi := grp_idx P 0 0 (i, (f, j)) (List.mem_of_getElem? e0)
  have hP : P[i]? = some (f, j) := by simpa using hi.2
  refine ⟨i, j, f, rfl, ?_, hP, hK (f, j) (List.mem_of_getElem? hP)⟩
  have := congrArg (·[k]?) (grp_gri P 0 0)
  simp only [List.getElem?_map] at this
  rw [hA] at this
  unfold grA
  rw [← this]
  show Option.map _ (ordP P)[k]? = _
  rw [e0]
  rfl
theorem ord_len {d : ByteArray} {P : List (Fr × Nat)} (hA : P.map Prod.fst = allR d) : (ordP P).length = (grA d).length := by
  have := congrArg List.length (grp_gri P 0 0)
  rw [List.length_map, hA] at this
  exact this
/-- what settle leaves -/
def StlQ (X mb : Nat) (d : ByteArray) (hv pv sy rv : Value) (NK : List ByteArray) (w : World) (e : Ending) (w' : World) : Prop :=
  (∃ v lv, e = .returned v ∧ RowAt w' X 72 #[.string d, hv, pv, sy, rv, .map (some mb), lv, .int .i64 (hldN d : Nat)] ∧ OwnNums w' (X + 1) 3 .i64 lv (NK.map (lxA d))) ∧ TG [72, 3] false X w w'
theorem settle_ret {R : Ending → World → Prop} {W' : World} {D : Nat} {tm : Array Value} (hK : W'.heap[D]? = some (.deferred (some []))) (h : R (.returned (.tuple #[])) (W'.putObj D (.deferred none))) :
    bodyPostM Fence.wide 5 Tryz.prog Tryz.f70 R Exit.ret { tmps := tm, defers := [{ target := .collected D, args := #[] }] } W' := by
  refine ⟨by simp, .inl ⟨_, _, rfl, run_takeDeferred hK, ?_⟩⟩
  exact ⟨_, results_none rfl _ _ _, h⟩
set_option maxRecDepth 100000 in
set_option maxHeartbeats 4000000 in
theorem iSettle (X mb : Nat) (d : ByteArray) (hd : d.size ≤ 300000) (hv pv sy rv lv0 hl0 : Value) (NK : List ByteArray) (hNK : NK.length ≤ 1000000000) (P : List (Fr × Nat)) (w : World)
    (hX : RowAt w X 72 #[.string d, hv, pv, sy, rv, .map (some mb), lv0, hl0]) (hM : NumsAt w mb NK) (hmb : X ≤ mb + 1) (hP : OwnFl w (X + 1) rv P) (hA : P.map Prod.fst = allR d) (hK : FlK d NK P) :
    Calls Tryz.prog 70 #[.pointer (some ⟨X, 0, none⟩)] w fun e w' => StlQ X mb d hv pv sy rv NK w e w' := by
  refine (callsIn_wide (n := 5)).1 ?_
  have HX := hid hX
  have HM := hid hM
  have HP := hid hP
  have HA := hid hA
  have HK := hid hK
  have HNK := hid hNK
  have XW : Hid (X + 1 ≤ w.heap.size) := hX.lt
  have KR := fun x W h => hid (iRepI x NK.length (by omega) W h)
  clear hX hM hP hA hK hNK
  obtain ⟨W0, hW0⟩ : ∃ W, W = w.alloc (.cells #[.pointer (some ⟨X, 0, none⟩)] 60) := ⟨_, rfl⟩
  have b0 : Below w.heap.size w W0 := by rw [hW0]; exact (Below.refl _ _).alloc (Nat.le_refl _) _
  have S0 : Hid (RowAt W0 w.heap.size 60 #[.pointer (some ⟨X, 0, none⟩)]) := by rw [hW0]; exact RowAt.new _ _ _
  have X0 := hid (HX.out.below b0 HX.out.lt)
  have B0 := hid b0
  have M0 := hid (HM.out.below b0)
  refine callsIn_of_wp_marks Tryz.func70 rfl trivial ?_ rfl
  simp only [Tryz.ntmps70, List.size_toArray, List.length_cons, List.length_nil, Nat.reduceAdd, Nat.reduceSub, Array.replicate_succ, Array.replicate_zero, List.push_toArray, List.append_toArray, List.nil_append, List.cons_append]
  refine wpIn_wide.2 ?_
  go_upto_region 1 with fail
  rw [← hW0]
  clear hW0 b0
  have c0 : W0.cell? ⟨w.heap.size, 0, none⟩ = some (.pointer (some ⟨X, 0, none⟩)) := S0.out.cell 0
  have c5 : W0.cell? ⟨X, 5, none⟩ = some (.map (some mb)) := X0.out.cell 5
  have N1 := M0.out.below (show Below W0.heap.size W0 ((W0.alloc (.cells #[.int .i64 (-1)] 3)).drew) from ((Below.refl _ _).alloc (Nat.le_refl _) _).drew)
  have N0 := M0.out.below (show Below W0.heap.size W0 W0.drew from (Below.refl _ _).drew)
  have L0 := N0.len
  have L1 := N1.len
  have SS : Hid (∀ wx, Below W0.heap.size W0 wx → wx.cell? ⟨w.heap.size, 0, none⟩ = some (.pointer (some ⟨X, 0, none⟩)) ∧ wx.cell? ⟨X, 5, none⟩ = some (.map (some mb)) ∧ ∀ ty, (Builtin.len_ #[69] ty #[.map (some mb)]).run Tryz.prog wx = .ok (.int .i64 (NK.length : Int)) wx) := fun wx hb => ⟨(S0.out.below hb S0.out.lt).cell 0, (X0.out.below hb X0.out.lt).cell 5, (M0.out.below hb).len⟩
  go_cut [] from 6 to 15 (fun wx => ∃ lv, StI X w.heap.size w d hv pv sy rv hl0 mb NK 0 wx lv)
  case first =>
    go_region_held3 (fun wx => wx.cell? ⟨w.heap.size, 0, none⟩ = some (.pointer (some ⟨X, 0, none⟩)) ∧ wx.cell? ⟨X, 5, none⟩ = some (.map (some mb)) ∧ ∀ ty, (Builtin.len_ #[69] ty #[.map (some mb)]).run Tryz.prog wx = .ok (.int .i64 (NK.length : Int)) wx) (first | exact SS.out _ (Below.refl _ _) | exact SS.out _ (Below.refl _ _).drew | exact SS.out _ b5.out | exact s6.out | exact SS.out _ (((Below.refl _ _).alloc (Nat.le_refl _) _).drew) | (go_keep; done))
      (first
        | (refine step_len (by rfl) _ 69 (by rfl) (.map (some mb)) (by rfl) (by first | exact L0 _ | exact L1 _) ?_; dsimp only)
        | (go_at_call 89; refine (KR W0.heap.size ((W0.alloc (.cells #[.int .i64 (-1)] 3)).drew) (RowAt.new W0 _ _).drew).out.mono ?_; rintro e5 w5 ⟨lv, rfl, hO5, hb5⟩; obtain ⟨aL, cL, hlv⟩ := orSlice hO5; rw [List.length_replicate] at hlv; subst hlv; have b5 : Hid (Below W0.heap.size W0 w5) := (((Below.refl _ _).alloc (Nat.le_refl _) _).drew).trans (hb5.mono (by simp)); have O5 := hid hO5; have S5 := hid (S0.out.below b5.out S0.out.lt); have X5 := hid (X0.out.below b5.out X0.out.lt); have k6 : w5.cell? ⟨X, 6, none⟩ = some lv0 := X5.out.cell 6; have f6 := X5.out.free 6; have s6 : Hid ((w5.setCell ⟨X, 6, none⟩ (.slice aL NK.length cL)).cell? ⟨w.heap.size, 0, none⟩ = some (.pointer (some ⟨X, 0, none⟩)) ∧ (w5.setCell ⟨X, 6, none⟩ (.slice aL NK.length cL)).cell? ⟨X, 5, none⟩ = some (.map (some mb)) ∧ ∀ ty, (Builtin.len_ #[69] ty #[.map (some mb)]).run Tryz.prog (w5.setCell ⟨X, 6, none⟩ (.slice aL NK.length cL)) = .ok (.int .i64 (NK.length : Int)) (w5.setCell ⟨X, 6, none⟩ (.slice aL NK.length cL))) := ⟨(S5.out.other _ _ (row_neX S5.out X5.out (by decide))).cell 0, (X5.out.set 6 (.slice aL NK.length cL)).cell 5, ((M0.out.below b5.out).keep (grown_set.block mb (M0.out.below b5.out).lt (fun e => (M0.out.below b5.out).ne X5.out (Option.some.inj e).symm))).len⟩; clear hO5 hb5))
    all_goals
      go_wp2
      go_meet
      have G5 : Hid (w5.grownBy (w5.setCell ⟨X, 6, none⟩ (.slice aL NK.length cL)) (some X)) := grown_set
      refine ⟨_, S5.out.other _ _ (row_neX S5.out X5.out (by decide)), X5.out.set 6 _, ?_, ((TG.of_below _ _ (B0.out.trans (b5.out.mono B0.out.size)) (by have := XW.out; omega)).trans (TG.grown false G5.out (by have := XW.out; have := b5.out.size; have := B0.out.size; omega) fun g e => by
        obtain rfl := Option.some.inj e
        exact ⟨Nat.le_refl _, _, _, X5.out, by simp⟩))⟩
      rw [lx_zero]
      exact orBase (orKeep O5.out fun g cs _ q => q.other _ _ (row_neX q X5.out (by decide))) (by have := B0.out.size; simp; omega)
  case rest =>
    obtain ⟨lv, hI⟩ := hcut
    clear c0 c5 N1 N0 L0 L1 SS S0 X0 M0 B0 KR
    have XS : Hid (X ≤ w.heap.size) := by have := XW.out; show _ ≤ _; omega
    have c0 : wc.cell? ⟨w.heap.size, 0, none⟩ = some (.pointer (some ⟨X, 0, none⟩)) := hI.s.cell 0
    have I0 := hid hI
    clear hI
    go_wp2_with fail
    refine (iOrder X wc).mono ?_
    rintro e wL ⟨rfl, hwL⟩
    have bL : Below wc.heap.size wc wL := by rw [hwL]; exact (Below.refl _ _).alloc (Nat.le_refl _) _
    have RB : Hid (RowAt wL wc.heap.size 60 #[.pointer (some ⟨X, 0, none⟩)]) := by rw [hwL]; exact RowAt.new _ _ _
    have IL := hid (I0.out.below XS.out bL)
    have PL : Hid (OwnFl wL (X + 1) rv P) := IL.out.t.own HP.out (by decide)
    have PN : Hid (P.length ≤ 300000) := by
      have := congrArg List.length HA.out
      rw [List.length_map] at this
      have h2 := rg_len d 300000 0
      unfold allR at this
      show _ ≤ _
      omega
    have hsq := iOrd1 (5 - 1) X wc.heap.size (X + 1) rv #[.string d, hv, pv, sy, rv, .map (some mb), lv, hl0] P (by have := PN.out; omega) wL RB.out IL.out.r rfl PL.out
    have LC : Hid (w.heap.size ≤ wL.heap.size) := IL.out.t.size
    obtain ⟨bo, hbo⟩ : ∃ b, b = wc.heap.size := ⟨_, rfl⟩
    rw [← hbo] at hsq ⊢
    clear hwL bL c0 I0 RB hbo
    go_wp2_with fail
    have OL := hid (ord_len HA.out)
    have LI : Hid (∀ k, k < (ordP P).length → 0 < NK.length) := fun k hk => by
      obtain ⟨i, j, f, _, _, _, hj⟩ := ord_at HA.out HK.out hk
      have := (List.getElem?_eq_some_iff.1 hj).1
      omega
    refine (wpIn_wide (n := 5)).1 ?_
    refine wpIn_rangeR rfl (by decide) (gf := 93) (lb := #[.pointer (some ⟨bo, 0, none⟩)]) rfl trivial (enters_of Tryz.func93 (by kernel_rfl) rfl)
      hsq (Below.refl _ _) (fun h k => h.trans k) ?kb ?rk (fun _ => rfl) (fun k W => StI X w.heap.size w d hv pv sy rv hl0 mb NK k W lv) (fun _ _ _ => False) ?oI ?oX ?iR ?xR IL.out
      (fun k a' W => ∃ y, a' = { tmps := #[.pointer (some ⟨X, 0, none⟩), .pointer (some ⟨w.heap.size, 0, none⟩), .int .i64 (((ordP P).getD k or0).1 : Nat), .pointer (some ⟨y, 0, none⟩), undef, undef, u6, u7, u8, u9, u10, u11, u12, u13, u14, u15, .pointer (some ⟨X, 0, none⟩), .func (.func 93) #[] #[.pointer (some ⟨bo, 0, none⟩)], .int .i64 (((ordP P).getD k or0).1 : Nat), flV ((ordP P).getD k or0).2, undef, undef, undef, undef, undef, undef, undef, undef, undef, undef, undef, undef, undef, undef, undef, undef, undef, undef, undef, undef, undef, undef, undef, undef, undef, undef, undef, undef, undef, undef, undef, undef, undef, undef, undef, undef, undef, undef, undef, undef, undef, undef, undef], defers := [] } ∧ RowAt W y 112 (flC ((ordP P).getD k or0).2).toArray)
      ?hAx ?assign ?body ?done ?stop
    case kb =>
      intro W l o o' hl h ho _
      exact KpF.obj h ho
    case rk =>
      intro A B h
      exact keeps_below h
    case oI =>
      rintro k A B row h hg hr
      exact h.obj XS.out hg fun r e => ⟨by have := (hr r e).1; have := LC.out; omega, (hr r e).2⟩
    case oX =>
      rintro c k A B row h hg hr
      exact h
    case iR =>
      rintro k A B h hg
      exact h.below XS.out hg
    case xR =>
      rintro c k A B h hg
      exact h
    case hAx =>
      rintro k a' u A B row ⟨y, he, hy⟩ hg hr
      refine ⟨y, he, (hg.block y hy.lt (fun e => ?_)).trans hy⟩
      obtain ⟨_, o, ho, hc⟩ := hr y e.symm
      have := hy.symm.trans ho
      cases this
      cases hc
    case assign =>
      rintro l k W K0 hk hI hK
      have b9 : Below W.heap.size W (W.alloc (.cells (flC ((ordP P).getD k or0).2).toArray 112)) := (Below.refl _ _).alloc (Nat.le_refl _) _
      have hK' := hK _ _ (keeps_below b9) (KpF.below b9) (hI.below XS.out b9) ⟨W.heap.size, rfl, RowAt.new _ _ _⟩
      clear hK b9 hk hsq
      unfold flV
      gi_wp2
      exact hK'
    case body =>
      rintro l k a' W hl hr hk hI ⟨y, rfl, hy⟩
      obtain ⟨i, j, f, he, hgk, hPi, hj⟩ := ord_at HA.out HK.out hk
      rw [he] at hy ⊢
      have hjl := (List.getElem?_eq_some_iff.1 hj).1
      have hil := (List.getElem?_eq_some_iff.1 hPi).1
      have ID := hid (hI.below XS.out (Below.refl _ _).drew)
      have hol : (NK.map fun key => lx d key k).length = NK.length := List.length_map _
      obtain ⟨g, cL, hlv, hgs⟩ : ∃ g cL, lv = .slice (some ⟨g, 0, none⟩) NK.length cL ∧ ∃ cs, RowAt W.drew g 3 cs := by
        rcases ID.out.l.2 with ⟨_, h0⟩ | ⟨g, cap, cur, h, _, hr', _⟩
        · rw [hol] at h0; omega
        · rw [hol] at h; exact ⟨g, cap, h, cur, hr'⟩
      obtain ⟨cg, hcg⟩ := hgs
      have HLV := hid hlv
      have RG := hid hcg
      have OL2 : OwnNums W.drew w.heap.size 3 .i64 (.slice (some ⟨g, 0, none⟩) NK.length cL) (NK.map fun key => lx d key k) := by rw [← hlv]; exact ID.out.l
      have kc := OL2.at j (by rw [hol]; exact hjl)
      have kf : W.drew.frozen? ⟨g, j, none⟩ = false := hcg.free j
      have c0 : W.drew.cell? ⟨w.heap.size, 0, none⟩ = some (.pointer (some ⟨X, 0, none⟩)) := ID.out.s.cell 0
      have c6 : W.drew.cell? ⟨X, 6, none⟩ = some (.slice (some ⟨g, 0, none⟩) NK.length cL) := by rw [← hlv]; exact ID.out.r.cell 6
      have y7 : W.drew.cell? ⟨y, 7, none⟩ = some (.int .i64 (j : Nat)) := hy.drew.cell 7
      have NX : Hid (OwnNums (W.drew.setCell ⟨g, j, none⟩ (.int .i64 (i : Nat))) w.heap.size 3 .i64 lv (NK.map fun key => lx d key (k + 1))) := by
        show OwnNums _ _ _ _ _ _
        rw [hlv, ← lx_set d NK HM.out.1 hgk hj]
        exact OL2.setAt (by rw [hol]; exact hjl) _
      have G5 : Hid (W.drew.grownBy (W.drew.setCell ⟨g, j, none⟩ (.int .i64 (i : Nat))) (some g)) := grown_set
      have d0 : (0 : Int) ≤ (j : Int) := by omega
      have d1 : (j : Int) < (NK.length : Int) := by omega
      have SN : Hid ((W.drew.setCell ⟨g, j, none⟩ (.int .i64 (i : Nat))).cell? ⟨w.heap.size, 0, none⟩ = some (.pointer (some ⟨X, 0, none⟩)) ∧ (W.drew.setCell ⟨g, j, none⟩ (.int .i64 (i : Nat))).cell? ⟨X, 6, none⟩ = some (.slice (some ⟨g, 0, none⟩) NK.length cL) ∧ (W.drew.setCell ⟨g, j, none⟩ (.int .i64 (i : Nat))).cell? ⟨y, 7, none⟩ = some (.int .i64 (j : Nat))) :=
        ⟨(ID.out.s.other _ _ (row_neX ID.out.s hcg (by decide))).cell 0, by rw [← hlv]; exact (ID.out.r.other _ _ (row_neX ID.out.r hcg (by decide))).cell 6, (hy.drew.other _ _ (row_neX hy.drew hcg (by decide))).cell 7⟩
      have FINB : Hid (KeepsFrom wL.heap.size W (W.drew.setCell ⟨g, j, none⟩ (.int .i64 (i : Nat))) ∧ KpF W (W.drew.setCell ⟨g, j, none⟩ (.int .i64 (i : Nat))) ∧ StI X w.heap.size w d hv pv sy rv hl0 mb NK (k + 1) (W.drew.setCell ⟨g, j, none⟩ (.int .i64 (i : Nat))) lv) := by
        have gx : X ≤ g := by
          have q1 : w.heap.size ≤ g := (orRow (g := g) OL2 rfl).1
          have := XS.out
          omega
        have b1 : Below W.heap.size W W.drew := (Below.refl _ _).drew
        refine ⟨(keeps_below b1).trans (keeps_row hcg G5.out), (KpF.below b1).trans (KpF.row hcg (by decide) G5.out), ID.out.s.other _ _ (row_neX ID.out.s hcg (by decide)), ID.out.r.other _ _ (row_neX ID.out.r hcg (by decide)), NX.out, ID.out.t.trans (TG.grown false G5.out (Nat.le_trans XS.out ID.out.t.size) fun g' e => by
          obtain rfl := Option.some.inj e
          exact ⟨gx, _, _, hcg, by simp⟩)⟩
      clear hlv hcg OL2 hgk hPi hj he hy hI hk hsq hr hl
      gi_wp2_with fail
      refine wpIn_region_of (S := fun wx => wx.cell? ⟨w.heap.size, 0, none⟩ = some (.pointer (some ⟨X, 0, none⟩)) ∧ wx.cell? ⟨X, 6, none⟩ = some (.slice (some ⟨g, 0, none⟩) NK.length cL) ∧ wx.cell? ⟨y, 7, none⟩ = some (.int .i64 (j : Nat))) (by kernel_rfl) (noDefer_spec (by kernel_rfl)) (fun ⟨a, w, h⟩ => h) ⟨c0, c6, y7⟩ (fun hHeld => ?_)
      refine wpAnyH_take (i := 0) (oi := { dst := some 20, op := Op.load 60 (Operand.tmp 1), type := 60, pos := "l07_extent.go:344", after := #[], guard := none }) (v := .pointer (some ⟨X, 0, none⟩)) rfl (by kernel_rfl) (by kernel_rfl) (by kernel_rfl) (fun _ _ _ h => h) (Or.inl ⟨by rfl, ?_⟩) (by assumption) ?_
      · intro wx hSx; (try dsimp only at hSx); go_simp
      simp only [Act.put, List.setIfInBounds_toArray, List.set_cons_zero, List.set_cons_succ]
      refine wpAnyH_take (i := 1) (oi := { dst := some 21, op := Op.nilCheck (Operand.tmp 20), type := 0, pos := "l07_extent.go:344", after := #[{ on := 0, ground := Ground.data }], guard := none }) (v := .pointer (some ⟨X, 0, none⟩)) rfl (by kernel_rfl) (by kernel_rfl) (by kernel_rfl) (fun _ _ _ h => h) (Or.inl ⟨by rfl, ?_⟩) (by assumption) ?_
      · intro wx hSx; (try dsimp only at hSx); go_simp
      simp only [Act.put, List.setIfInBounds_toArray, List.set_cons_zero, List.set_cons_succ]
      refine wpAnyH_take (i := 2) (oi := { dst := some 22, op := Op.fieldAddr 72 (Operand.tmp 21) 4, type := 0, pos := "l07_extent.go:344", after := #[{ on := 1, ground := Ground.data }], guard := none }) (v := .pointer (some ⟨X, 6, none⟩)) rfl (by kernel_rfl) (by kernel_rfl) (by kernel_rfl) (fun _ _ _ h => h) (Or.inl ⟨by rfl, ?_⟩) (by assumption) ?_
      · intro wx hSx; (try dsimp only at hSx); go_simp
      simp only [Act.put, List.setIfInBounds_toArray, List.set_cons_zero, List.set_cons_succ]
      refine wpAnyH_take (i := 3) (oi := { dst := some 23, op := Op.load 70 (Operand.tmp 22), type := 70, pos := "l07_extent.go:344", after := #[{ on := 2, ground := Ground.data }], guard := none }) (v := .slice (some ⟨g, 0, none⟩) NK.length cL) rfl (by kernel_rfl) (by kernel_rfl) (by kernel_rfl) (fun _ _ _ h => h) (Or.inl ⟨by rfl, ?_⟩) (by assumption) ?_
      · intro wx hSx; (try dsimp only at hSx); go_simp
      simp only [Act.put, List.setIfInBounds_toArray, List.set_cons_zero, List.set_cons_succ]
      refine wpAnyH_take (i := 4) (oi := { dst := some 24, op := Op.fieldAddr 112 (Operand.tmp 3) 1, type := 0, pos := "l07_extent.go:344", after := #[], guard := none }) (v := .pointer (some ⟨y, 7, none⟩)) rfl (by kernel_rfl) (by kernel_rfl) (by kernel_rfl) (fun _ _ _ h => h) (Or.inl ⟨by rfl, ?_⟩) (by assumption) ?_
      · intro wx hSx; (try dsimp only at hSx); go_simp
      simp only [Act.put, List.setIfInBounds_toArray, List.set_cons_zero, List.set_cons_succ]
      refine wpAnyH_take (i := 5) (oi := { dst := some 25, op := Op.load 3 (Operand.tmp 24), type := 3, pos := "l07_extent.go:344", after := #[{ on := 4, ground := Ground.data }], guard := none }) (v := .int .i64 (j : Nat)) rfl (by kernel_rfl) (by kernel_rfl) (by kernel_rfl) (fun _ _ _ h => h) (Or.inl ⟨by rfl, ?_⟩) (by assumption) ?_
      · intro wx hSx; (try dsimp only at hSx); go_simp
      simp only [Act.put, List.setIfInBounds_toArray, List.set_cons_zero, List.set_cons_succ]
      refine wpAnyH_take (i := 6) (oi := { dst := some 26, op := Op.move (Operand.tmp 2), type := 3, pos := "l07_extent.go:344", after := #[], guard := none }) (v := .int .i64 (i : Nat)) rfl (by kernel_rfl) (by kernel_rfl) (by kernel_rfl) (fun _ _ _ h => h) (Or.inl ⟨by rfl, ?_⟩) (by assumption) ?_
      · intro wx hSx; (try dsimp only at hSx); go_simp
      simp only [Act.put, List.setIfInBounds_toArray, List.set_cons_zero, List.set_cons_succ]
      refine wpAnyH_take (i := 7) (oi := { dst := some 27, op := Op.indexAddr 70 (Operand.tmp 23) (Operand.tmp 25), type := 0, pos := "l07_extent.go:344", after := #[{ on := 3, ground := Ground.data }, { on := 5, ground := Ground.data }, { on := 0, ground := Ground.phase }, { on := 1, ground := Ground.phase }, { on := 2, ground := Ground.phase }, { on := 3, ground := Ground.phase }, { on := 4, ground := Ground.phase }, { on := 5, ground := Ground.phase }, { on := 6, ground := Ground.phase }], guard := none }) (v := .pointer (some ⟨g, j, none⟩)) rfl (by kernel_rfl) (by kernel_rfl) (by kernel_rfl) (fun _ _ _ h => h) (Or.inl ⟨by rfl, ?_⟩) (by assumption) ?_
      · intro wx hSx; (try dsimp only at hSx); go_simp
      simp only [Act.put, List.setIfInBounds_toArray, List.set_cons_zero, List.set_cons_succ]
      refine wpAnyH_ready (rs := [8]) (by kernel_rfl) (by simp) ?_
      refine AllReadyH.cons (o := { dst := none, op := Op.store 3 (Operand.tmp 27) (Operand.tmp 26), type := 0, pos := "l07_extent.go:344", after := #[{ on := 7, ground := Ground.data }, { on := 6, ground := Ground.data }, { on := 0, ground := Ground.phase }, { on := 1, ground := Ground.phase }, { on := 2, ground := Ground.phase }, { on := 3, ground := Ground.phase }, { on := 4, ground := Ground.phase }, { on := 5, ground := Ground.phase }, { on := 6, ground := Ground.phase }], guard := none }) rfl (fun K hK => ?_) AllReadyH.nil
      go_simp
      refine hK.out _ _ ⟨SN.out.1, SN.out.2.1, SN.out.2.2⟩ (fun hHeld => ?_)
      clear hK K
      try simp only [Act.put, List.setIfInBounds_toArray, List.set_cons_zero, List.set_cons_succ]
      refine wpAnyH_done (by kernel_rfl) ?_ _
      exact FINB.out
    case done =>
      rintro D W hD hI hK
      clear IL hsq PL
      have c0 : W.cell? ⟨w.heap.size, 0, none⟩ = some (.pointer (some ⟨X, 0, none⟩)) := hI.s.cell 0
      have f7 := hI.r.free 7
      have c7 : W.cell? ⟨X, 7, none⟩ = some hl0 := hI.r.cell 7
      have J0 : Hid (StJ X w.heap.size w d hv pv sy rv mb NK P lv D 0 (W.setCell ⟨X, 7, none⟩ (.int .i64 ((0 : Nat) : Int)))) := by
        have h7 : StJ X w.heap.size w d hv pv sy rv mb NK P lv D 0 (W.setCell ⟨X, 7, none⟩ (.int .i64 ((0 : Nat) : Int))) := by
          have g : W.grownBy (W.setCell ⟨X, 7, none⟩ (.int .i64 ((0 : Nat) : Int))) (some X) := grown_set
          have e : (NK.map fun key => lx d key (ordP P).length) = NK.map (lxA d) := by rw [OL.out]; rfl
          refine ⟨hI.s.other _ _ (row_neX hI.s hI.r (by decide)), hI.r.set 7 _, by rw [← e]; exact orKeep hI.l fun g cs _ q => q.other _ _ (row_neX q hI.r (by decide)), orKeep (hI.t.own HP.out (by decide)) fun g cs _ q => q.other _ _ (row_neX q hI.r (by decide)), hI.t.trans (TG.grown false g (Nat.le_trans XS.out hI.t.size) fun k e => by
            obtain rfl := Option.some.inj e
            exact ⟨Nat.le_refl _, _, _, hI.r, by simp⟩), (g.block D (Array.getElem?_eq_some_iff.1 hK).1 (fun e => ?_)).trans hK⟩
          have := Option.some.inj e
          subst this
          have := hK.symm.trans (show W.heap[D]? = _ from hI.r)
          cases this
        exact h7
      obtain ⟨W1, hW1⟩ : ∃ W1, W1 = W.setCell ⟨X, 7, none⟩ (.int .i64 ((0 : Nat) : Int)) := ⟨_, rfl⟩
      rw [← hW1] at J0
      rw [show ((0 : Nat) : Int) = 0 from rfl] at hW1
      have HD : Hid (w.heap.size ≤ D) := by have := LC.out; show _ ≤ _; omega
      clear hI hK hD
      go_upto_region 7 with fail
      rw [← hW1]
      clear hW1 c0 f7 c7
      have c0 : W1.cell? ⟨w.heap.size, 0, none⟩ = some (.pointer (some ⟨X, 0, none⟩)) := J0.out.s.cell 0
      obtain ⟨aL, cL, hlv⟩ := orSlice J0.out.l
      rw [List.length_map] at hlv
      have c6 : W1.cell? ⟨X, 6, none⟩ = some (.slice aL NK.length cL) := by rw [← hlv]; exact J0.out.r.cell 6
      have HLV := hid hlv
      obtain ⟨N, hN⟩ : ∃ N, N = NK.length := ⟨_, rfl⟩
      have HN := hid hN
      rw [← hN] at c6 HLV
      clear hlv hN
      go_upto_region 8 with fail
      clear c0 c6
      go_loopw [36] (fun q wr => ∃ t c : Nat, q = .int .i64 (t : Int) ∧ t ≤ N ∧ c = (NK.take t).countP (thrB d) ∧ StJ X w.heap.size w d hv pv sy rv mb NK P lv D c wr) (fun q _ => N - (intOf q).toNat)
      case atStart => exact ⟨0, 0, rfl, Nat.zero_le _, rfl, J0.out⟩
      case round =>
        obtain ⟨t, c, rfl, ht, hc, hJ⟩ := hrel
        have JJ := hid hJ
        have HC := hid hc
        clear hJ hc J0
        have w1 : IntKind.i64.wrap ((t : Int) + 1) = (t : Int) + 1 := by rw [IntKind.wrap_i64]; have := HNK.out; have := HN.out; omega
        by_cases hlt : t < N
        · have d0 : (t : Int) < (N : Int) := by omega
          have d1 : (0 : Int) ≤ (t : Int) := by omega
          obtain ⟨key, hkey⟩ : ∃ key, NK[t]? = some key := ⟨_, List.getElem?_eq_getElem (by have := HN.out; omega)⟩
          have hol : (NK.map (lxA d)).length = N := by rw [List.length_map, HN.out]
          have CS := hid (cnt_step (thrB d) NK t key hkey)
          obtain ⟨g, hg⟩ : ∃ g, aL = some ⟨g, 0, none⟩ := by
            rcases JJ.out.l.2 with ⟨_, h0⟩ | ⟨g, cap, cur, h, _⟩
            · rw [hol] at h0; omega
            · rw [HLV.out] at h; injection h with h; exact ⟨g, h⟩
          subst hg
          have OL2 : OwnNums wr w.heap.size 3 .i64 (.slice (some ⟨g, 0, none⟩) N cL) (NK.map (lxA d)) := by rw [← HLV.out]; exact JJ.out.l
          have kt : wr.cell? ⟨g, t, none⟩ = some (.int .i64 (lxA d key)) := by
            have := OL2.at t (by rw [hol]; exact hlt)
            rw [List.getD_eq_getElem?_getD, List.getElem?_map, hkey] at this
            exact this
          have CN : Hid (c + 1 ≤ 1000000001) := by
            have h1 := HC.out
            have h2 := List.countP_le_length (p := thrB d) (l := NK.take t)
            rw [List.length_take] at h2
            have := HNK.out
            show _ ≤ _
            omega
          by_cases hm : lxA d key = -1
          · have e0 : ((lxA d key) != -1) = false := by rw [hm]; rfl
            have C2 : Hid (c = (NK.take (t + 1)).countP (thrB d)) := by
              show _ = _
              rw [CS.out, (lxA_no d key hd hm).2, ← HC.out]; rfl
            rw [hm] at kt
            clear hkey hol OL2 hm e0
            go_wp2
            go_roundw
            case rel => exact ⟨t + 1, c, by go_num, by omega, C2.out, JJ.out⟩
            case measure => simp [intOf]; omega
          · obtain ⟨k, i, f, _, _, hx, hAi, _, hth⟩ := lxA_yes d key hd hm
            have hPi : P[i]? = some (P.getD i fr0) := by
              have := congrArg (·[i]?) HA.out
              simp only [List.getElem?_map] at this
              rw [hAi] at this
              cases hp : P[i]? with
              | none => rw [hp] at this; cases this
              | some p => rw [List.getD_eq_getElem?_getD, hp]; rfl
            have hgo : (P.getD i fr0).1 = f := by
              have := congrArg (·[i]?) HA.out
              simp only [List.getElem?_map] at this
              rw [hAi, hPi] at this
              exact Option.some.inj this
            obtain ⟨gr, cr, hrv, _, _, _, _, x2, _⟩ := JJ.out.p.cells hPi
            have hil := (List.getElem?_eq_some_iff.1 hPi).1
            rw [hgo] at x2
            rw [hx] at kt hm
            have c0 : wr.cell? ⟨w.heap.size, 0, none⟩ = some (.pointer (some ⟨X, 0, none⟩)) := JJ.out.s.cell 0
            have c4 : wr.cell? ⟨X, 4, none⟩ = some (.slice (some ⟨gr, 0, none⟩) P.length cr) := by rw [← hrv]; exact JJ.out.r.cell 4
            have c7 : wr.cell? ⟨X, 7, none⟩ = some (.int .i64 (c : Nat)) := JJ.out.r.cell 7
            have f7 := JJ.out.r.free 7
            have e0 : ((i : Int) != -1) = true := by simp
            have i0 : (0 : Int) ≤ (i : Int) := by omega
            have i1 : (i : Int) < (P.length : Int) := by omega
            have w2 : IntKind.i64.wrap ((c : Int) + 1) = (c : Int) + 1 := by rw [IntKind.wrap_i64]; have := CN.out; omega
            obtain ⟨G, hG⟩ : ∃ G, G = f.gone := ⟨_, rfl⟩
            rw [← hG] at x2 hth
            have HT := hid hth
            clear hkey hol OL2 hm hx hAi hPi hgo hrv hil hG hth
            cases G with
            | true =>
              have C2 : Hid (c = (NK.take (t + 1)).countP (thrB d)) := by
                show _ = _
                rw [CS.out, HT.out, ← HC.out]; rfl
              go_wp2
              go_roundw
              case rel => exact ⟨t + 1, c, by go_num, by omega, C2.out, JJ.out⟩
              case measure => simp [intOf]; omega
            | false =>
              have C2 : Hid (c + 1 = (NK.take (t + 1)).countP (thrB d)) := by
                show _ = _
                rw [CS.out, HT.out, ← HC.out]; rfl
              have J2 := hid (JJ.out.put (c' := c + 1) XS.out)
              rw [show (((c + 1 : Nat)) : Int) = (c : Int) + 1 by omega] at J2
              go_wp2
              go_roundw
              case rel => exact ⟨t + 1, c + 1, by go_num, by omega, C2.out, J2.out⟩
              case measure => simp [intOf]; omega
        · have hin : t = N := by omega
          have d0 : ¬ (t : Int) < (N : Int) := by omega
          have CE : Hid (c = hldN d) := by
            show _ = _
            rw [HC.out, List.take_of_length_le (by have := HN.out; omega)]
            refine held_count d NK HM.out.1 fun k hk => ?_
            have hk2 : k < (ordP P).length := by rw [OL.out, grA_len d hd]; exact hk
            obtain ⟨i, j, f, _, hgk, _, hj⟩ := ord_at HA.out HK.out hk2
            have e := (grA_at d hd hgk).2
            have e2 : keyAt d (sc d 0) k = rcK d (some f) := by unfold keyAt; rw [e]
            rw [e2]
            exact List.mem_of_getElem? hj
          have FIN : Hid (StlQ X mb d hv pv sy rv NK w (.returned (.tuple #[])) (wr.putObj D (.deferred none))) := by
            have J := JJ.out
            have g := grownBy_putObj' wr D (.deferred none)
            have kp : ∀ {b t cs}, RowAt wr b t cs → RowAt (wr.putObj D (.deferred none)) b t cs := fun {b t cs} q => (g.block b q.lt (fun e => by
              cases e
              have := q.symm.trans J.d
              cases this)).trans q
            have hr := kp J.r
            rw [CE.out] at hr
            exact ⟨⟨_, lv, rfl, hr, orBase (orKeep J.l fun g cs _ q => kp q) XW.out⟩, J.t.fresh XS.out g fun k e => by have := HD.out; have := Option.some.inj e; omega⟩
          have DK := hid JJ.out.d
          clear CE JJ HC
          go_wp2
          exact settle_ret DK.out FIN.out
    case stop =>
      rintro D c k W hD hk h
      exact h.elim
end Go.Proofs.YtngkiokibldfjaaGreatDoor
