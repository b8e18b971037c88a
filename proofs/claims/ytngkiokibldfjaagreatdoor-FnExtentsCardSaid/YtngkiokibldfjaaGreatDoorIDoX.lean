import Derived.Test.YtngkiokibldfjaaGreatDoorICmX
import Derived.Test.YtngkiokibldfjaaGreatDoorPX
import Derived.Test.YtngkiokibldfjaaGreatDoorPY
import Derived.Test.YtngkiokibldfjaaGreatDoorPZ
import Derived.Test.YtngkiokibldfjaaGreatDoorPK
namespace Go.Proofs.YtngkiokibldfjaaGreatDoor
open Go.RowKit Go.Shelf
set_option linter.unusedVariables false
/-! One operation on a shelf: the program's do. -/
theorem ShAt.tg {ea eb : Addr} {X B0 : Nat} {d : ByteArray} {sy : Nat} {NK : List ByteArray} {A B : World} {ts : List TypeId} (h : ShAt ea eb X d sy NK A) (t : TG ts false B0 A B) (hB : X ≤ B0) (hA : B0 ≤ A.heap.size) (h1 : 72 ∉ ts) (h2 : 2 ∉ ts) (h3 : 3 ∉ ts) (h4 : 112 ∉ ts) : ShAt ea eb X d sy NK B := by
  obtain ⟨hv, pv, rv, lv, n, m, mb, P, S⟩ := h
  exact ⟨hv, pv, rv, lv, n, m, mb, P, S.tb.tg t h1 h2, t.errs S.er (S.lo.up (by omega)) hA, S.lo, t.nums S.nm, S.mx, t.own S.fl h4, S.al, S.fk, t.own S.ls h3, S.bd⟩
theorem ShQ.turn {ea eb : Addr} {X : Nat} {d' : ByteArray} {sy' : Nat} {NK : List ByteArray} {w A B : World} {g : Nat} {cs : Array Value} (h : ShQ ea eb X d' sy' NK w A) (hg : A.grownBy B (some g)) (hr : RowAt A g 36 cs) (hw : w.heap.size ≤ g) (hX : X ≤ w.heap.size) : ShQ ea eb X d' sy' NK w B := by
  obtain ⟨⟨NK', a1, a2, a3⟩, t⟩ := h
  have t2 : TG [36] false X A B := TG.grown false hg (Nat.le_trans hX t.size) fun k e => by
    obtain rfl := Option.some.inj e
    exact ⟨by omega, _, _, hr, by simp⟩
  exact ⟨⟨NK', a1.tg t2 (Nat.le_refl _) (Nat.le_trans hX t.size) (by decide) (by decide) (by decide) (by decide), a2, a3⟩, t.fresh hX hg fun k e => by obtain rfl := Option.some.inj e; exact hw⟩
theorem ownStr_turn {A B : World} {base g : Nat} {cs : Array Value} {v : Value} {L : List ByteArray} (h : OwnStrs A base v L) (hg : A.grownBy B (some g)) (hr : RowAt A g 36 cs) : OwnStrs B base v L :=
  orKeep h fun k c _ r => (hg.block k r.lt (fun e => row_neX r hr (by decide) (Option.some.inj e))).trans r
/-- what an operation answers -/
def DoQ (ea eb : Addr) (X : Nat) (d : ByteArray) (sy : Nat) (NK : List ByteArray) (o : Op) (w : World) (e : Ending) (w' : World) : Prop :=
  ∃ a n c, e = .returned (.agg #[.int .i64 (xDo d sy o).2.cd, .string (xDo d sy o).2.dt, .slice a n c, .int .i64 (xDo d sy o).2.hl]) ∧ OwnStrs w' w.heap.size (.slice a n c) (xDo d sy o).2.ks ∧ ShQ ea eb X (xDo d sy o).1.1 (xDo d sy o).1.2 NK w w'
/-- the three boxes of a call -/
def doW (w : World) (o : Op) : World := ((w.alloc (.cells o.row 27)).alloc (.cells #[.int .i64 0, .string ⟨#[]⟩, .slice none 0 0, .int .i64 0] 36)).alloc (.cells #[.int .i64 0, .string ⟨#[]⟩, .slice none 0 0, .int .i64 0] 36)
structure DoI (w W : World) (o : Op) : Prop where
  p : RowAt W w.heap.size 27 o.row
  r : RowAt W (w.heap.size + 1) 36 #[.int .i64 0, .string ⟨#[]⟩, .slice none 0 0, .int .i64 0]
  t : RowAt W (w.heap.size + 2) 36 #[.int .i64 0, .string ⟨#[]⟩, .slice none 0 0, .int .i64 0]
theorem doW_i (w : World) (o : Op) : DoI w (doW w o) o := by
  refine ⟨((RowAt.new _ _ _).alloc _).alloc _, (RowAt.next _ _ _ (by rw [World.size_alloc])).alloc _, RowAt.next _ _ _ (by simp only [World.size_alloc])⟩
theorem doW_below (w : World) (o : Op) : Below w.heap.size w (doW w o) := (((Below.refl _ w).alloc (Nat.le_refl _) _).alloc (by simp) _).alloc (by simp; omega) _
theorem doW_size (w : World) (o : Op) : (doW w o).heap.size = w.heap.size + 3 := by unfold doW; simp only [World.size_alloc]
theorem DoI.tg {w A B : World} {o : Op} {X : Nat} (h : DoI w A o) (t : TG tgA true X A B) : DoI w B o := ⟨t.row _ _ _ h.p (by decide), t.row _ _ _ h.r (by decide), t.row _ _ _ h.t (by decide)⟩
/-- the answer's box, its code and its count written -/
theorem do_end {ea eb : Addr} {X : Nat} {d' : ByteArray} {sy' : Nat} {NK : List ByteArray} {w A : World} {c1 c2 : Array Value} (h : ShQ ea eb X d' sy' NK w A) (ht : RowAt A (w.heap.size + 2) 36 c1) (hr : RowAt A (w.heap.size + 1) 36 c2) (hX : X ≤ w.heap.size) (i : Nat) (v : Value) :
    ShQ ea eb X d' sy' NK w (A.setCell ⟨w.heap.size + 2, i, none⟩ v) ∧ RowAt (A.setCell ⟨w.heap.size + 2, i, none⟩ v) (w.heap.size + 2) 36 (c1.setIfInBounds i v) ∧ RowAt (A.setCell ⟨w.heap.size + 2, i, none⟩ v) (w.heap.size + 1) 36 c2 ∧ ∀ {b L vv}, OwnStrs A b vv L → OwnStrs (A.setCell ⟨w.heap.size + 2, i, none⟩ v) b vv L :=
  ⟨h.turn grown_set ht (by omega) hX, ht.set i v, hr.other _ _ (by show w.heap.size + 1 ≠ w.heap.size + 2; omega), fun h => ownStr_turn h grown_set ht⟩
theorem do_out {ea eb : Addr} {X : Nat} {d' : ByteArray} {sy' : Nat} {NK : List ByteArray} {w A : World} {c2 : Array Value} (h : ShQ ea eb X d' sy' NK w A) (hr : RowAt A (w.heap.size + 1) 36 c2) (hX : X ≤ w.heap.size) (i : Nat) (v : Value) :
    ShQ ea eb X d' sy' NK w (A.setCell ⟨w.heap.size + 1, i, none⟩ v) ∧ RowAt (A.setCell ⟨w.heap.size + 1, i, none⟩ v) (w.heap.size + 1) 36 (c2.setIfInBounds i v) ∧ ∀ {b L vv}, OwnStrs A b vv L → OwnStrs (A.setCell ⟨w.heap.size + 1, i, none⟩ v) b vv L :=
  ⟨h.turn grown_set hr (by omega) hX, hr.set i v, fun h => ownStr_turn h grown_set hr⟩
/-- the answer in the result's box -/
theorem do_all {ea eb : Addr} {X : Nat} {d' : ByteArray} {sy' : Nat} {NK : List ByteArray} {w A : World} {a b c d : Value} {L : List ByteArray} {vv : Value} (h : ShQ ea eb X d' sy' NK w A) (hr : RowAt A (w.heap.size + 1) 36 #[.int .i64 0, .string ⟨#[]⟩, .slice none 0 0, .int .i64 0]) (hX : X ≤ w.heap.size) (hO : OwnStrs A w.heap.size vv L) :
    ShQ ea eb X d' sy' NK w ((((A.setCell ⟨w.heap.size + 1, 0, none⟩ a).setCell ⟨w.heap.size + 1, 1, none⟩ b).setCell ⟨w.heap.size + 1, 2, none⟩ c).setCell ⟨w.heap.size + 1, 3, none⟩ d) ∧
    RowAt ((((A.setCell ⟨w.heap.size + 1, 0, none⟩ a).setCell ⟨w.heap.size + 1, 1, none⟩ b).setCell ⟨w.heap.size + 1, 2, none⟩ c).setCell ⟨w.heap.size + 1, 3, none⟩ d) (w.heap.size + 1) 36 #[a, b, c, d] ∧
    OwnStrs ((((A.setCell ⟨w.heap.size + 1, 0, none⟩ a).setCell ⟨w.heap.size + 1, 1, none⟩ b).setCell ⟨w.heap.size + 1, 2, none⟩ c).setCell ⟨w.heap.size + 1, 3, none⟩ d) w.heap.size vv L := by
  obtain ⟨h1, r1, o1⟩ := do_out h hr hX 0 a
  obtain ⟨h2, r2, o2⟩ := do_out h1 r1 hX 1 b
  obtain ⟨h3, r3, o3⟩ := do_out h2 r2 hX 2 c
  obtain ⟨h4, r4, o4⟩ := do_out h3 r3 hX 3 d
  exact ⟨h4, by simpa using r4, o4 (o3 (o2 (o1 hO)))⟩
theorem do_ret {W' : World} {X : Nat} {a b c d : Value} {P : Ending → World → Prop} {tm : Array Value} (sa : RowAt W' X 36 #[a, b, c, d]) (so : P (.returned (.agg #[a, b, c, d])) W') (h2 : tm.getD 4 undef = .pointer (some ⟨X, 0, none⟩)) :
    bodyPost Tryz.prog Tryz.f26 P Exit.ret { tmps := tm, defers := [] } W' := by
  refine bodyPost_ret (v := .agg #[a, b, c, d]) ?_ rfl so
  exact results_cell_row Tryz.results26 _ _ X _ _ _ _ h2 sa Tryz.underlying36 rfl (by kernel_rfl)
set_option maxRecDepth 20000 in
set_option maxHeartbeats 4000000 in
theorem iDo1 (ea eb : Addr) (X : Nat) (d : ByteArray) (sy : Nat) (hok : XOk d sy) (NK : List ByteArray) (hNK : NK.length ≤ 900000000) (o : Op) (hk : o.ky.size ≤ 1048576) (hdt : o.dt.size ≤ 1048576) (hkd : o.kd = 1) (w : World) (h : ShAt ea eb X d sy NK w) :
    Calls Tryz.prog 26 #[.pointer (some ⟨X, 0, none⟩), .agg o.row] w fun e w' => DoQ ea eb X d sy NK o w e w' := by
  obtain ⟨kd, ky, dt, kp, at_, tn⟩ := o
  obtain rfl := (show kd = _ from hkd)
  clear hkd
  have H3 := hid (h.below (doW_below w ⟨1, ky, dt, kp, at_, tn⟩))
  have I3 := hid (doW_i w ⟨1, ky, dt, kp, at_, tn⟩)
  have XW : Hid (X ≤ w.heap.size) := by have := h.size; show _ ≤ _; omega
  have B3 := hid (doW_below w ⟨1, ky, dt, kp, at_, tn⟩)
  obtain ⟨W3, hW3⟩ : ∃ W, W = doW w ⟨1, ky, dt, kp, at_, tn⟩ := ⟨_, rfl⟩
  rw [← hW3] at H3 I3 B3
  have KP := hid (iPut ea eb X d sy NK hNK ky dt hk hdt W3 H3.out)
  have EX := hid (x1 d sy ky dt kp at_ tn)
  obtain ⟨T, hT⟩ : ∃ T, T = putX d sy (recV ky false dt) false := ⟨_, rfl⟩
  have T2 : T.2.1 = sy := by rw [hT]; unfold putX; (repeat' split) <;> rfl
  rw [← hT, T2] at EX
  rw [← hT] at KP
  clear hT T2
  obtain ⟨T1, T2, T3⟩ := T
  dsimp only at EX KP
  have H0 := hid h
  clear h hok hNK hk hdt
  show Calls _ _ #[_, .agg #[.int .i64 1, .string ky, .string dt, .int .i64 kp, .int .i64 at_, .int .i64 tn]] _ _
  go_enter Tryz.func26, Tryz.ntmps26
  go_upto_region 2 with fail
  rw [← (show W3 = ((w.alloc (.cells #[.int .i64 1, .string ky, .string dt, .int .i64 kp, .int .i64 at_, .int .i64 tn] 27)).alloc (.cells #[.int .i64 0, .string ⟨#[]⟩, .slice none 0 0, .int .i64 0] 36)).alloc (.cells #[.int .i64 0, .string ⟨#[]⟩, .slice none 0 0, .int .i64 0] 36) from hW3)]
  clear hW3
  have o0 : W3.cell? ⟨w.heap.size, 0, none⟩ = some (.int .i64 1) := I3.out.p.cell 0
  have o1 : W3.cell? ⟨w.heap.size, 1, none⟩ = some (.string ky) := I3.out.p.cell 1
  have o2 : W3.cell? ⟨w.heap.size, 2, none⟩ = some (.string dt) := I3.out.p.cell 2
  have o3 : W3.cell? ⟨w.heap.size, 3, none⟩ = some (.int .i64 kp) := I3.out.p.cell 3
  have o4 : W3.cell? ⟨w.heap.size, 4, none⟩ = some (.int .i64 at_) := I3.out.p.cell 4
  have o5 : W3.cell? ⟨w.heap.size, 5, none⟩ = some (.int .i64 tn) := I3.out.p.cell 5
  go_wp2_with fail
  refine KP.out.mono ?_
  rintro e w4 ⟨rfl, hQ⟩
  have I4 := I3.out.tg hQ.2
  have Q4 : ShQ ea eb X T1 sy NK w w4 := hQ.after B3.out XW.out
  have OS : OwnStrs w4 w.heap.size (.slice none 0 0) [] := ⟨rfl, .inl ⟨rfl, rfl⟩⟩
  have r0 := I4.r
  have t0 := I4.t
  have hb1 := hid (show w.heap.size + 1 < w4.heap.size from I4.r.lt)
  have c1 : w4.cell? ⟨w.heap.size + 2, 0, none⟩ = some (.int .i64 0) := t0.cell 0
  have f1 := t0.free 0
  obtain ⟨q1, s1, u1, k1⟩ := do_end Q4 t0 r0 XW.out 0 (.int .i64 T3)
  have os1 := k1 OS
  clear t0 r0
  have t0 := s1
  have r0 := u1
  simp only [List.setIfInBounds_toArray, List.set_cons_zero] at t0
  obtain ⟨V, hV⟩ : ∃ V, V = (w4.setCell ⟨w.heap.size + 2, 0, none⟩ (.int .i64 T3)) := ⟨_, rfl⟩
  rw [← hV] at q1 os1 t0 r0
  have QV := hid q1
  have OV := hid os1
  have TV := hid t0
  have RV := hid r0
  have HV := hid hV
  go_upto_region 20 with fail
  rw [← HV.out]
  clear q1 s1 u1 k1 os1 hV HV t0 r0 Q4 I4 OS c1 f1 o0 o1 o2 o3 o4 o5
  obtain ⟨NKV, HVs⟩ := QV.out.at
  have x7 := HVs.synced.2.2
  clear HVs
  have c3 : V.cell? ⟨w.heap.size + 2, 3, none⟩ = some (.int .i64 0) := TV.out.cell 3
  have f3 := TV.out.free 3
  obtain ⟨qE, sE, uE, kE⟩ := do_end QV.out TV.out RV.out XW.out 3 (.int .i64 (hldN T1 : Nat))
  have osE := kE OV.out
  simp only [List.setIfInBounds_toArray, List.set_cons_zero, List.set_cons_succ] at sE
  obtain ⟨V2, hV2⟩ : ∃ U, U = V.setCell ⟨w.heap.size + 2, 3, none⟩ (.int .i64 (hldN T1 : Nat)) := ⟨_, rfl⟩
  rw [← hV2] at qE osE sE uE
  have Q2 := hid qE
  have O2 := hid osE
  have S2 := hid sE
  have U2 := hid uE
  have HV2 := hid hV2
  clear qE osE sE uE kE hV2
  go_upto_region 21 with fail
  rw [← HV2.out]
  clear HV2 x7 c3 f3
  have e0 : V2.cell? ⟨w.heap.size + 2, 0, none⟩ = some (.int .i64 T3) := S2.out.cell 0
  have e1 : V2.cell? ⟨w.heap.size + 2, 1, none⟩ = some (.string ⟨#[]⟩) := S2.out.cell 1
  have e2 : V2.cell? ⟨w.heap.size + 2, 2, none⟩ = some (.slice none 0 0) := S2.out.cell 2
  have e3 : V2.cell? ⟨w.heap.size + 2, 3, none⟩ = some (.int .i64 (hldN T1 : Nat)) := S2.out.cell 3
  have g0 : V2.cell? ⟨w.heap.size + 1, 0, none⟩ = some (.int .i64 0) := U2.out.cell 0
  have h0 := U2.out.free 0
  have g1 : V2.cell? ⟨w.heap.size + 1, 1, none⟩ = some (.string ⟨#[]⟩) := U2.out.cell 1
  have h1 := U2.out.free 1
  have g2 : V2.cell? ⟨w.heap.size + 1, 2, none⟩ = some (.slice none 0 0) := U2.out.cell 2
  have h2 := U2.out.free 2
  have g3 : V2.cell? ⟨w.heap.size + 1, 3, none⟩ = some (.int .i64 0) := U2.out.cell 3
  have h3 := U2.out.free 3
  obtain ⟨QF, RF, OF⟩ := do_all (a := .int .i64 T3) (b := .string ⟨#[]⟩) (c := .slice none 0 0) (d := .int .i64 (hldN T1 : Nat)) Q2.out U2.out XW.out O2.out
  have QF := hid QF
  have RF := hid RF
  have OF := hid OF
  obtain ⟨V6, hV6⟩ : ∃ U, U = ((((V2.setCell ⟨w.heap.size + 1, 0, none⟩ (.int .i64 T3)).setCell ⟨w.heap.size + 1, 1, none⟩ (.string ⟨#[]⟩)).setCell ⟨w.heap.size + 1, 2, none⟩ (.slice none 0 0)).setCell ⟨w.heap.size + 1, 3, none⟩ (.int .i64 (hldN T1 : Nat))) := ⟨_, rfl⟩
  rw [← hV6] at QF RF OF
  go_wp2
  rw [← hV6]
  clear hV6 e0 e1 e2 e3 g0 g1 g2 g3 h0 h1 h2 h3
  refine do_ret RF.out ?_ rfl
  show DoQ ea eb X d sy NK _ w _ V6
  refine ⟨none, 0, 0, ?_, ?_, ?_⟩
  · first | (rw [EX.out]; done) | (rw [EX.out]; rfl)
  · rw [EX.out]; exact OF.out
  · rw [EX.out]; exact QF.out
set_option maxRecDepth 20000 in
set_option maxHeartbeats 4000000 in
theorem iDo2 (ea eb : Addr) (X : Nat) (d : ByteArray) (sy : Nat) (hok : XOk d sy) (NK : List ByteArray) (hNK : NK.length ≤ 900000000) (o : Op) (hk : o.ky.size ≤ 1048576) (hdt : o.dt.size ≤ 1048576) (hkd : o.kd = 2) (w : World) (h : ShAt ea eb X d sy NK w) :
    Calls Tryz.prog 26 #[.pointer (some ⟨X, 0, none⟩), .agg o.row] w fun e w' => DoQ ea eb X d sy NK o w e w' := by
  obtain ⟨kd, ky, dt, kp, at_, tn⟩ := o
  obtain rfl := (show kd = _ from hkd)
  clear hkd
  have H3 := hid (h.below (doW_below w ⟨2, ky, dt, kp, at_, tn⟩))
  have I3 := hid (doW_i w ⟨2, ky, dt, kp, at_, tn⟩)
  have XW : Hid (X ≤ w.heap.size) := by have := h.size; show _ ≤ _; omega
  have B3 := hid (doW_below w ⟨2, ky, dt, kp, at_, tn⟩)
  obtain ⟨W3, hW3⟩ : ∃ W, W = doW w ⟨2, ky, dt, kp, at_, tn⟩ := ⟨_, rfl⟩
  rw [← hW3] at H3 I3 B3
  have KP := hid (iDrop ea eb X d sy NK hNK ky hk W3 H3.out)
  have EX := hid (x2 d sy ky dt kp at_ tn)
  obtain ⟨T, hT⟩ : ∃ T, T = putX d sy (recV ky true ⟨#[]⟩) (!thrB d ky) := ⟨_, rfl⟩
  have T2 : T.2.1 = sy := by rw [hT]; unfold putX; (repeat' split) <;> rfl
  rw [← hT, T2] at EX
  rw [← hT] at KP
  clear hT T2
  obtain ⟨T1, T2, T3⟩ := T
  dsimp only at EX KP
  have H0 := hid h
  clear h hok hNK hk hdt
  show Calls _ _ #[_, .agg #[.int .i64 2, .string ky, .string dt, .int .i64 kp, .int .i64 at_, .int .i64 tn]] _ _
  go_enter Tryz.func26, Tryz.ntmps26
  go_upto_region 2 with fail
  rw [← (show W3 = ((w.alloc (.cells #[.int .i64 2, .string ky, .string dt, .int .i64 kp, .int .i64 at_, .int .i64 tn] 27)).alloc (.cells #[.int .i64 0, .string ⟨#[]⟩, .slice none 0 0, .int .i64 0] 36)).alloc (.cells #[.int .i64 0, .string ⟨#[]⟩, .slice none 0 0, .int .i64 0] 36) from hW3)]
  clear hW3
  have o0 : W3.cell? ⟨w.heap.size, 0, none⟩ = some (.int .i64 2) := I3.out.p.cell 0
  have o1 : W3.cell? ⟨w.heap.size, 1, none⟩ = some (.string ky) := I3.out.p.cell 1
  have o2 : W3.cell? ⟨w.heap.size, 2, none⟩ = some (.string dt) := I3.out.p.cell 2
  have o3 : W3.cell? ⟨w.heap.size, 3, none⟩ = some (.int .i64 kp) := I3.out.p.cell 3
  have o4 : W3.cell? ⟨w.heap.size, 4, none⟩ = some (.int .i64 at_) := I3.out.p.cell 4
  have o5 : W3.cell? ⟨w.heap.size, 5, none⟩ = some (.int .i64 tn) := I3.out.p.cell 5
  go_wp2_with fail
  refine KP.out.mono ?_
  rintro e w4 ⟨rfl, hQ⟩
  have I4 := I3.out.tg hQ.2
  have Q4 : ShQ ea eb X T1 sy NK w w4 := hQ.after B3.out XW.out
  have OS : OwnStrs w4 w.heap.size (.slice none 0 0) [] := ⟨rfl, .inl ⟨rfl, rfl⟩⟩
  have r0 := I4.r
  have t0 := I4.t
  have hb1 := hid (show w.heap.size + 1 < w4.heap.size from I4.r.lt)
  have c1 : w4.cell? ⟨w.heap.size + 2, 0, none⟩ = some (.int .i64 0) := t0.cell 0
  have f1 := t0.free 0
  obtain ⟨q1, s1, u1, k1⟩ := do_end Q4 t0 r0 XW.out 0 (.int .i64 T3)
  have os1 := k1 OS
  clear t0 r0
  have t0 := s1
  have r0 := u1
  simp only [List.setIfInBounds_toArray, List.set_cons_zero] at t0
  obtain ⟨V, hV⟩ : ∃ V, V = (w4.setCell ⟨w.heap.size + 2, 0, none⟩ (.int .i64 T3)) := ⟨_, rfl⟩
  rw [← hV] at q1 os1 t0 r0
  have QV := hid q1
  have OV := hid os1
  have TV := hid t0
  have RV := hid r0
  have HV := hid hV
  go_upto_region 20 with fail
  rw [← HV.out]
  clear q1 s1 u1 k1 os1 hV HV t0 r0 Q4 I4 OS c1 f1 o0 o1 o2 o3 o4 o5
  obtain ⟨NKV, HVs⟩ := QV.out.at
  have x7 := HVs.synced.2.2
  clear HVs
  have c3 : V.cell? ⟨w.heap.size + 2, 3, none⟩ = some (.int .i64 0) := TV.out.cell 3
  have f3 := TV.out.free 3
  obtain ⟨qE, sE, uE, kE⟩ := do_end QV.out TV.out RV.out XW.out 3 (.int .i64 (hldN T1 : Nat))
  have osE := kE OV.out
  simp only [List.setIfInBounds_toArray, List.set_cons_zero, List.set_cons_succ] at sE
  obtain ⟨V2, hV2⟩ : ∃ U, U = V.setCell ⟨w.heap.size + 2, 3, none⟩ (.int .i64 (hldN T1 : Nat)) := ⟨_, rfl⟩
  rw [← hV2] at qE osE sE uE
  have Q2 := hid qE
  have O2 := hid osE
  have S2 := hid sE
  have U2 := hid uE
  have HV2 := hid hV2
  clear qE osE sE uE kE hV2
  go_upto_region 21 with fail
  rw [← HV2.out]
  clear HV2 x7 c3 f3
  have e0 : V2.cell? ⟨w.heap.size + 2, 0, none⟩ = some (.int .i64 T3) := S2.out.cell 0
  have e1 : V2.cell? ⟨w.heap.size + 2, 1, none⟩ = some (.string ⟨#[]⟩) := S2.out.cell 1
  have e2 : V2.cell? ⟨w.heap.size + 2, 2, none⟩ = some (.slice none 0 0) := S2.out.cell 2
  have e3 : V2.cell? ⟨w.heap.size + 2, 3, none⟩ = some (.int .i64 (hldN T1 : Nat)) := S2.out.cell 3
  have g0 : V2.cell? ⟨w.heap.size + 1, 0, none⟩ = some (.int .i64 0) := U2.out.cell 0
  have h0 := U2.out.free 0
  have g1 : V2.cell? ⟨w.heap.size + 1, 1, none⟩ = some (.string ⟨#[]⟩) := U2.out.cell 1
  have h1 := U2.out.free 1
  have g2 : V2.cell? ⟨w.heap.size + 1, 2, none⟩ = some (.slice none 0 0) := U2.out.cell 2
  have h2 := U2.out.free 2
  have g3 : V2.cell? ⟨w.heap.size + 1, 3, none⟩ = some (.int .i64 0) := U2.out.cell 3
  have h3 := U2.out.free 3
  obtain ⟨QF, RF, OF⟩ := do_all (a := .int .i64 T3) (b := .string ⟨#[]⟩) (c := .slice none 0 0) (d := .int .i64 (hldN T1 : Nat)) Q2.out U2.out XW.out O2.out
  have QF := hid QF
  have RF := hid RF
  have OF := hid OF
  obtain ⟨V6, hV6⟩ : ∃ U, U = ((((V2.setCell ⟨w.heap.size + 1, 0, none⟩ (.int .i64 T3)).setCell ⟨w.heap.size + 1, 1, none⟩ (.string ⟨#[]⟩)).setCell ⟨w.heap.size + 1, 2, none⟩ (.slice none 0 0)).setCell ⟨w.heap.size + 1, 3, none⟩ (.int .i64 (hldN T1 : Nat))) := ⟨_, rfl⟩
  rw [← hV6] at QF RF OF
  go_wp2
  rw [← hV6]
  clear hV6 e0 e1 e2 e3 g0 g1 g2 g3 h0 h1 h2 h3
  refine do_ret RF.out ?_ rfl
  show DoQ ea eb X d sy NK _ w _ V6
  refine ⟨none, 0, 0, ?_, ?_, ?_⟩
  · first | (rw [EX.out]; done) | (rw [EX.out]; rfl)
  · rw [EX.out]; exact OF.out
  · rw [EX.out]; exact QF.out
set_option maxRecDepth 20000 in
set_option maxHeartbeats 4000000 in
theorem iDo3 (ea eb : Addr) (X : Nat) (d : ByteArray) (sy : Nat) (hok : XOk d sy) (NK : List ByteArray) (hNK : NK.length ≤ 900000000) (o : Op) (hk : o.ky.size ≤ 1048576) (hdt : o.dt.size ≤ 1048576) (hkd : o.kd = 3) (w : World) (h : ShAt ea eb X d sy NK w) :
    Calls Tryz.prog 26 #[.pointer (some ⟨X, 0, none⟩), .agg o.row] w fun e w' => DoQ ea eb X d sy NK o w e w' := by
  obtain ⟨kd, ky, dt, kp, at_, tn⟩ := o
  obtain rfl := (show kd = _ from hkd)
  clear hkd
  have H3 := hid (h.below (doW_below w ⟨3, ky, dt, kp, at_, tn⟩))
  have I3 := hid (doW_i w ⟨3, ky, dt, kp, at_, tn⟩)
  have XW : Hid (X ≤ w.heap.size) := by have := h.size; show _ ≤ _; omega
  have B3 := hid (doW_below w ⟨3, ky, dt, kp, at_, tn⟩)
  obtain ⟨W3, hW3⟩ : ∃ W, W = doW w ⟨3, ky, dt, kp, at_, tn⟩ := ⟨_, rfl⟩
  rw [← hW3] at H3 I3 B3
  have KP := hid (iSync ea eb X d sy NK W3 H3.out)
  have EX := hid (x3 d sy ky dt kp at_ tn)
  have H0 := hid h
  clear h hok hNK hk hdt
  show Calls _ _ #[_, .agg #[.int .i64 3, .string ky, .string dt, .int .i64 kp, .int .i64 at_, .int .i64 tn]] _ _
  go_enter Tryz.func26, Tryz.ntmps26
  go_upto_region 2 with fail
  rw [← (show W3 = ((w.alloc (.cells #[.int .i64 3, .string ky, .string dt, .int .i64 kp, .int .i64 at_, .int .i64 tn] 27)).alloc (.cells #[.int .i64 0, .string ⟨#[]⟩, .slice none 0 0, .int .i64 0] 36)).alloc (.cells #[.int .i64 0, .string ⟨#[]⟩, .slice none 0 0, .int .i64 0] 36) from hW3)]
  clear hW3
  have o0 : W3.cell? ⟨w.heap.size, 0, none⟩ = some (.int .i64 3) := I3.out.p.cell 0
  have o1 : W3.cell? ⟨w.heap.size, 1, none⟩ = some (.string ky) := I3.out.p.cell 1
  have o2 : W3.cell? ⟨w.heap.size, 2, none⟩ = some (.string dt) := I3.out.p.cell 2
  have o3 : W3.cell? ⟨w.heap.size, 3, none⟩ = some (.int .i64 kp) := I3.out.p.cell 3
  have o4 : W3.cell? ⟨w.heap.size, 4, none⟩ = some (.int .i64 at_) := I3.out.p.cell 4
  have o5 : W3.cell? ⟨w.heap.size, 5, none⟩ = some (.int .i64 tn) := I3.out.p.cell 5
  go_wp2_with fail
  refine KP.out.mono ?_
  rintro e w4 ⟨⟨v4, rfl⟩, hw4⟩
  have Q4 : ShQ ea eb X d d.size NK w w4 := by rw [hw4]; exact (ShQ.id H0.out B3.out).sync d.size
  have I4 : DoI w w4 _ := I3.out.tg (by rw [hw4]; exact (H3.out.sync d.size).2)
  clear hw4
  have OS : OwnStrs w4 w.heap.size (.slice none 0 0) [] := ⟨rfl, .inl ⟨rfl, rfl⟩⟩
  have r0 := I4.r
  have t0 := I4.t
  have hb1 := hid (show w.heap.size + 1 < w4.heap.size from I4.r.lt)
  obtain ⟨V, hV⟩ : ∃ V, V = w4 := ⟨_, rfl⟩
  rw [← hV] at Q4 OS t0 r0
  have QV := hid Q4
  have OV := hid OS
  have TV := hid t0
  have RV := hid r0
  have HV := hid hV
  go_upto_region 20 with fail
  rw [← HV.out]
  clear  hV HV t0 r0 Q4 I4 OS o0 o1 o2 o3 o4 o5
  obtain ⟨NKV, HVs⟩ := QV.out.at
  have x7 := HVs.synced.2.2
  clear HVs
  have c3 : V.cell? ⟨w.heap.size + 2, 3, none⟩ = some (.int .i64 0) := TV.out.cell 3
  have f3 := TV.out.free 3
  obtain ⟨qE, sE, uE, kE⟩ := do_end QV.out TV.out RV.out XW.out 3 (.int .i64 (hldN d : Nat))
  have osE := kE OV.out
  simp only [List.setIfInBounds_toArray, List.set_cons_zero, List.set_cons_succ] at sE
  obtain ⟨V2, hV2⟩ : ∃ U, U = V.setCell ⟨w.heap.size + 2, 3, none⟩ (.int .i64 (hldN d : Nat)) := ⟨_, rfl⟩
  rw [← hV2] at qE osE sE uE
  have Q2 := hid qE
  have O2 := hid osE
  have S2 := hid sE
  have U2 := hid uE
  have HV2 := hid hV2
  clear qE osE sE uE kE hV2
  go_upto_region 21 with fail
  rw [← HV2.out]
  clear HV2 x7 c3 f3
  have e0 : V2.cell? ⟨w.heap.size + 2, 0, none⟩ = some (.int .i64 0) := S2.out.cell 0
  have e1 : V2.cell? ⟨w.heap.size + 2, 1, none⟩ = some (.string ⟨#[]⟩) := S2.out.cell 1
  have e2 : V2.cell? ⟨w.heap.size + 2, 2, none⟩ = some (.slice none 0 0) := S2.out.cell 2
  have e3 : V2.cell? ⟨w.heap.size + 2, 3, none⟩ = some (.int .i64 (hldN d : Nat)) := S2.out.cell 3
  have g0 : V2.cell? ⟨w.heap.size + 1, 0, none⟩ = some (.int .i64 0) := U2.out.cell 0
  have h0 := U2.out.free 0
  have g1 : V2.cell? ⟨w.heap.size + 1, 1, none⟩ = some (.string ⟨#[]⟩) := U2.out.cell 1
  have h1 := U2.out.free 1
  have g2 : V2.cell? ⟨w.heap.size + 1, 2, none⟩ = some (.slice none 0 0) := U2.out.cell 2
  have h2 := U2.out.free 2
  have g3 : V2.cell? ⟨w.heap.size + 1, 3, none⟩ = some (.int .i64 0) := U2.out.cell 3
  have h3 := U2.out.free 3
  obtain ⟨QF, RF, OF⟩ := do_all (a := .int .i64 0) (b := .string ⟨#[]⟩) (c := .slice none 0 0) (d := .int .i64 (hldN d : Nat)) Q2.out U2.out XW.out O2.out
  have QF := hid QF
  have RF := hid RF
  have OF := hid OF
  obtain ⟨V6, hV6⟩ : ∃ U, U = ((((V2.setCell ⟨w.heap.size + 1, 0, none⟩ (.int .i64 0)).setCell ⟨w.heap.size + 1, 1, none⟩ (.string ⟨#[]⟩)).setCell ⟨w.heap.size + 1, 2, none⟩ (.slice none 0 0)).setCell ⟨w.heap.size + 1, 3, none⟩ (.int .i64 (hldN d : Nat))) := ⟨_, rfl⟩
  rw [← hV6] at QF RF OF
  go_wp2
  rw [← hV6]
  clear hV6 e0 e1 e2 e3 g0 g1 g2 g3 h0 h1 h2 h3
  refine do_ret RF.out ?_ rfl
  show DoQ ea eb X d sy NK _ w _ V6
  refine ⟨none, 0, 0, ?_, ?_, ?_⟩
  · first | (rw [EX.out]; done) | (rw [EX.out]; rfl)
  · rw [EX.out]; exact OF.out
  · rw [EX.out]; exact QF.out
set_option maxRecDepth 20000 in
set_option maxHeartbeats 4000000 in
theorem iDo4 (ea eb : Addr) (X : Nat) (d : ByteArray) (sy : Nat) (hok : XOk d sy) (NK : List ByteArray) (hNK : NK.length ≤ 900000000) (o : Op) (hk : o.ky.size ≤ 1048576) (hdt : o.dt.size ≤ 1048576) (hkd : o.kd = 4) (w : World) (h : ShAt ea eb X d sy NK w) :
    Calls Tryz.prog 26 #[.pointer (some ⟨X, 0, none⟩), .agg o.row] w fun e w' => DoQ ea eb X d sy NK o w e w' := by
  obtain ⟨kd, ky, dt, kp, at_, tn⟩ := o
  obtain rfl := (show kd = _ from hkd)
  clear hkd
  have H3 := hid (h.below (doW_below w ⟨4, ky, dt, kp, at_, tn⟩))
  have I3 := hid (doW_i w ⟨4, ky, dt, kp, at_, tn⟩)
  have XW : Hid (X ≤ w.heap.size) := by have := h.size; show _ ≤ _; omega
  have B3 := hid (doW_below w ⟨4, ky, dt, kp, at_, tn⟩)
  obtain ⟨W3, hW3⟩ : ∃ W, W = doW w ⟨4, ky, dt, kp, at_, tn⟩ := ⟨_, rfl⟩
  rw [← hW3] at H3 I3 B3
  have KP := hid (iCrash ea eb X d sy hok.bs NK hNK kp W3 H3.out)
  have EX := hid (x4 d sy ky dt kp at_ tn)
  obtain ⟨T1, hT1⟩ : ∃ T, T = d.extract 0 (sy + (crsK d sy kp).toNat) := ⟨_, rfl⟩
  obtain ⟨T2, hT2⟩ : ∃ T, T = sy + (crsK d sy kp).toNat := ⟨_, rfl⟩
  rw [← hT1, ← hT2] at EX KP
  clear hT1 hT2
  have H0 := hid h
  clear h hok hNK hk hdt
  show Calls _ _ #[_, .agg #[.int .i64 4, .string ky, .string dt, .int .i64 kp, .int .i64 at_, .int .i64 tn]] _ _
  go_enter Tryz.func26, Tryz.ntmps26
  go_upto_region 2 with fail
  rw [← (show W3 = ((w.alloc (.cells #[.int .i64 4, .string ky, .string dt, .int .i64 kp, .int .i64 at_, .int .i64 tn] 27)).alloc (.cells #[.int .i64 0, .string ⟨#[]⟩, .slice none 0 0, .int .i64 0] 36)).alloc (.cells #[.int .i64 0, .string ⟨#[]⟩, .slice none 0 0, .int .i64 0] 36) from hW3)]
  clear hW3
  have o0 : W3.cell? ⟨w.heap.size, 0, none⟩ = some (.int .i64 4) := I3.out.p.cell 0
  have o1 : W3.cell? ⟨w.heap.size, 1, none⟩ = some (.string ky) := I3.out.p.cell 1
  have o2 : W3.cell? ⟨w.heap.size, 2, none⟩ = some (.string dt) := I3.out.p.cell 2
  have o3 : W3.cell? ⟨w.heap.size, 3, none⟩ = some (.int .i64 kp) := I3.out.p.cell 3
  have o4 : W3.cell? ⟨w.heap.size, 4, none⟩ = some (.int .i64 at_) := I3.out.p.cell 4
  have o5 : W3.cell? ⟨w.heap.size, 5, none⟩ = some (.int .i64 tn) := I3.out.p.cell 5
  go_wp2_with fail
  refine KP.out.mono ?_
  rintro e w4 ⟨⟨v4, rfl⟩, hQ⟩
  have I4 := I3.out.tg hQ.2
  have Q4 : ShQ ea eb X T1 T2 NK w w4 := hQ.after B3.out XW.out
  have OS : OwnStrs w4 w.heap.size (.slice none 0 0) [] := ⟨rfl, .inl ⟨rfl, rfl⟩⟩
  have r0 := I4.r
  have t0 := I4.t
  have hb1 := hid (show w.heap.size + 1 < w4.heap.size from I4.r.lt)
  obtain ⟨V, hV⟩ : ∃ V, V = w4 := ⟨_, rfl⟩
  rw [← hV] at Q4 OS t0 r0
  have QV := hid Q4
  have OV := hid OS
  have TV := hid t0
  have RV := hid r0
  have HV := hid hV
  go_upto_region 20 with fail
  rw [← HV.out]
  clear  hV HV t0 r0 Q4 I4 OS o0 o1 o2 o3 o4 o5
  obtain ⟨NKV, HVs⟩ := QV.out.at
  have x7 := HVs.synced.2.2
  clear HVs
  have c3 : V.cell? ⟨w.heap.size + 2, 3, none⟩ = some (.int .i64 0) := TV.out.cell 3
  have f3 := TV.out.free 3
  obtain ⟨qE, sE, uE, kE⟩ := do_end QV.out TV.out RV.out XW.out 3 (.int .i64 (hldN T1 : Nat))
  have osE := kE OV.out
  simp only [List.setIfInBounds_toArray, List.set_cons_zero, List.set_cons_succ] at sE
  obtain ⟨V2, hV2⟩ : ∃ U, U = V.setCell ⟨w.heap.size + 2, 3, none⟩ (.int .i64 (hldN T1 : Nat)) := ⟨_, rfl⟩
  rw [← hV2] at qE osE sE uE
  have Q2 := hid qE
  have O2 := hid osE
  have S2 := hid sE
  have U2 := hid uE
  have HV2 := hid hV2
  clear qE osE sE uE kE hV2
  go_upto_region 21 with fail
  rw [← HV2.out]
  clear HV2 x7 c3 f3
  have e0 : V2.cell? ⟨w.heap.size + 2, 0, none⟩ = some (.int .i64 0) := S2.out.cell 0
  have e1 : V2.cell? ⟨w.heap.size + 2, 1, none⟩ = some (.string ⟨#[]⟩) := S2.out.cell 1
  have e2 : V2.cell? ⟨w.heap.size + 2, 2, none⟩ = some (.slice none 0 0) := S2.out.cell 2
  have e3 : V2.cell? ⟨w.heap.size + 2, 3, none⟩ = some (.int .i64 (hldN T1 : Nat)) := S2.out.cell 3
  have g0 : V2.cell? ⟨w.heap.size + 1, 0, none⟩ = some (.int .i64 0) := U2.out.cell 0
  have h0 := U2.out.free 0
  have g1 : V2.cell? ⟨w.heap.size + 1, 1, none⟩ = some (.string ⟨#[]⟩) := U2.out.cell 1
  have h1 := U2.out.free 1
  have g2 : V2.cell? ⟨w.heap.size + 1, 2, none⟩ = some (.slice none 0 0) := U2.out.cell 2
  have h2 := U2.out.free 2
  have g3 : V2.cell? ⟨w.heap.size + 1, 3, none⟩ = some (.int .i64 0) := U2.out.cell 3
  have h3 := U2.out.free 3
  obtain ⟨QF, RF, OF⟩ := do_all (a := .int .i64 0) (b := .string ⟨#[]⟩) (c := .slice none 0 0) (d := .int .i64 (hldN T1 : Nat)) Q2.out U2.out XW.out O2.out
  have QF := hid QF
  have RF := hid RF
  have OF := hid OF
  obtain ⟨V6, hV6⟩ : ∃ U, U = ((((V2.setCell ⟨w.heap.size + 1, 0, none⟩ (.int .i64 0)).setCell ⟨w.heap.size + 1, 1, none⟩ (.string ⟨#[]⟩)).setCell ⟨w.heap.size + 1, 2, none⟩ (.slice none 0 0)).setCell ⟨w.heap.size + 1, 3, none⟩ (.int .i64 (hldN T1 : Nat))) := ⟨_, rfl⟩
  rw [← hV6] at QF RF OF
  go_wp2
  rw [← hV6]
  clear hV6 e0 e1 e2 e3 g0 g1 g2 g3 h0 h1 h2 h3
  refine do_ret RF.out ?_ rfl
  show DoQ ea eb X d sy NK _ w _ V6
  refine ⟨none, 0, 0, ?_, ?_, ?_⟩
  · first | (rw [EX.out]; done) | (rw [EX.out]; rfl)
  · rw [EX.out]; exact OF.out
  · rw [EX.out]; exact QF.out
set_option maxRecDepth 20000 in
set_option maxHeartbeats 4000000 in
theorem iDo5n (ea eb : Addr) (X : Nat) (d : ByteArray) (sy : Nat) (hok : XOk d sy) (NK : List ByteArray) (hNK : NK.length ≤ 900000000) (o : Op) (hk : o.ky.size ≤ 1048576) (hdt : o.dt.size ≤ 1048576) (hkd : o.kd = 5) (hr : rotP d o.at_ o.tn) (w : World) (h : ShAt ea eb X d sy NK w) :
    Calls Tryz.prog 26 #[.pointer (some ⟨X, 0, none⟩), .agg o.row] w fun e w' => DoQ ea eb X d sy NK o w e w' := by
  obtain ⟨kd, ky, dt, kp, at_, tn⟩ := o
  obtain rfl := (show kd = _ from hkd)
  clear hkd
  have H3 := hid (h.below (doW_below w ⟨5, ky, dt, kp, at_, tn⟩))
  have I3 := hid (doW_i w ⟨5, ky, dt, kp, at_, tn⟩)
  have XW : Hid (X ≤ w.heap.size) := by have := h.size; show _ ≤ _; omega
  have B3 := hid (doW_below w ⟨5, ky, dt, kp, at_, tn⟩)
  obtain ⟨W3, hW3⟩ : ∃ W, W = doW w ⟨5, ky, dt, kp, at_, tn⟩ := ⟨_, rfl⟩
  rw [← hW3] at H3 I3 B3
  have KP := hid (iRotNo ea eb X d sy NK at_ tn hr W3 H3.out)
  have EX := hid (x5n d sy ky dt kp at_ tn hr)
  have H0 := hid h
  clear h hok hNK hk hdt hr
  show Calls _ _ #[_, .agg #[.int .i64 5, .string ky, .string dt, .int .i64 kp, .int .i64 at_, .int .i64 tn]] _ _
  go_enter Tryz.func26, Tryz.ntmps26
  go_upto_region 2 with fail
  rw [← (show W3 = ((w.alloc (.cells #[.int .i64 5, .string ky, .string dt, .int .i64 kp, .int .i64 at_, .int .i64 tn] 27)).alloc (.cells #[.int .i64 0, .string ⟨#[]⟩, .slice none 0 0, .int .i64 0] 36)).alloc (.cells #[.int .i64 0, .string ⟨#[]⟩, .slice none 0 0, .int .i64 0] 36) from hW3)]
  clear hW3
  have o0 : W3.cell? ⟨w.heap.size, 0, none⟩ = some (.int .i64 5) := I3.out.p.cell 0
  have o1 : W3.cell? ⟨w.heap.size, 1, none⟩ = some (.string ky) := I3.out.p.cell 1
  have o2 : W3.cell? ⟨w.heap.size, 2, none⟩ = some (.string dt) := I3.out.p.cell 2
  have o3 : W3.cell? ⟨w.heap.size, 3, none⟩ = some (.int .i64 kp) := I3.out.p.cell 3
  have o4 : W3.cell? ⟨w.heap.size, 4, none⟩ = some (.int .i64 at_) := I3.out.p.cell 4
  have o5 : W3.cell? ⟨w.heap.size, 5, none⟩ = some (.int .i64 tn) := I3.out.p.cell 5
  go_wp2_with fail
  refine KP.out.mono ?_
  rintro e w4 ⟨rfl, hw4⟩
  obtain rfl := hw4.symm
  have Q4 : ShQ ea eb X d sy NK w W3 := ShQ.id H0.out B3.out
  have I4 := I3.out
  have OS : OwnStrs W3 w.heap.size (.slice none 0 0) [] := ⟨rfl, .inl ⟨rfl, rfl⟩⟩
  have r0 := I4.r
  have t0 := I4.t
  have hb1 := hid (show w.heap.size + 1 < W3.heap.size from I4.r.lt)
  have c1 : W3.cell? ⟨w.heap.size + 2, 0, none⟩ = some (.int .i64 0) := t0.cell 0
  have f1 := t0.free 0
  obtain ⟨q1, s1, u1, k1⟩ := do_end Q4 t0 r0 XW.out 0 (.int .i64 1)
  have os1 := k1 OS
  clear t0 r0
  have t0 := s1
  have r0 := u1
  simp only [List.setIfInBounds_toArray, List.set_cons_zero] at t0
  obtain ⟨V, hV⟩ : ∃ V, V = (W3.setCell ⟨w.heap.size + 2, 0, none⟩ (.int .i64 1)) := ⟨_, rfl⟩
  rw [← hV] at q1 os1 t0 r0
  have QV := hid q1
  have OV := hid os1
  have TV := hid t0
  have RV := hid r0
  have HV := hid hV
  go_upto_region 20 with fail
  rw [← HV.out]
  clear q1 s1 u1 k1 os1 hV HV t0 r0 Q4 I4 OS c1 f1 o0 o1 o2 o3 o4 o5
  obtain ⟨NKV, HVs⟩ := QV.out.at
  have x7 := HVs.synced.2.2
  clear HVs
  have c3 : V.cell? ⟨w.heap.size + 2, 3, none⟩ = some (.int .i64 0) := TV.out.cell 3
  have f3 := TV.out.free 3
  obtain ⟨qE, sE, uE, kE⟩ := do_end QV.out TV.out RV.out XW.out 3 (.int .i64 (hldN d : Nat))
  have osE := kE OV.out
  simp only [List.setIfInBounds_toArray, List.set_cons_zero, List.set_cons_succ] at sE
  obtain ⟨V2, hV2⟩ : ∃ U, U = V.setCell ⟨w.heap.size + 2, 3, none⟩ (.int .i64 (hldN d : Nat)) := ⟨_, rfl⟩
  rw [← hV2] at qE osE sE uE
  have Q2 := hid qE
  have O2 := hid osE
  have S2 := hid sE
  have U2 := hid uE
  have HV2 := hid hV2
  clear qE osE sE uE kE hV2
  go_upto_region 21 with fail
  rw [← HV2.out]
  clear HV2 x7 c3 f3
  have e0 : V2.cell? ⟨w.heap.size + 2, 0, none⟩ = some (.int .i64 1) := S2.out.cell 0
  have e1 : V2.cell? ⟨w.heap.size + 2, 1, none⟩ = some (.string ⟨#[]⟩) := S2.out.cell 1
  have e2 : V2.cell? ⟨w.heap.size + 2, 2, none⟩ = some (.slice none 0 0) := S2.out.cell 2
  have e3 : V2.cell? ⟨w.heap.size + 2, 3, none⟩ = some (.int .i64 (hldN d : Nat)) := S2.out.cell 3
  have g0 : V2.cell? ⟨w.heap.size + 1, 0, none⟩ = some (.int .i64 0) := U2.out.cell 0
  have h0 := U2.out.free 0
  have g1 : V2.cell? ⟨w.heap.size + 1, 1, none⟩ = some (.string ⟨#[]⟩) := U2.out.cell 1
  have h1 := U2.out.free 1
  have g2 : V2.cell? ⟨w.heap.size + 1, 2, none⟩ = some (.slice none 0 0) := U2.out.cell 2
  have h2 := U2.out.free 2
  have g3 : V2.cell? ⟨w.heap.size + 1, 3, none⟩ = some (.int .i64 0) := U2.out.cell 3
  have h3 := U2.out.free 3
  obtain ⟨QF, RF, OF⟩ := do_all (a := .int .i64 1) (b := .string ⟨#[]⟩) (c := .slice none 0 0) (d := .int .i64 (hldN d : Nat)) Q2.out U2.out XW.out O2.out
  have QF := hid QF
  have RF := hid RF
  have OF := hid OF
  obtain ⟨V6, hV6⟩ : ∃ U, U = ((((V2.setCell ⟨w.heap.size + 1, 0, none⟩ (.int .i64 1)).setCell ⟨w.heap.size + 1, 1, none⟩ (.string ⟨#[]⟩)).setCell ⟨w.heap.size + 1, 2, none⟩ (.slice none 0 0)).setCell ⟨w.heap.size + 1, 3, none⟩ (.int .i64 (hldN d : Nat))) := ⟨_, rfl⟩
  rw [← hV6] at QF RF OF
  go_wp2
  rw [← hV6]
  clear hV6 e0 e1 e2 e3 g0 g1 g2 g3 h0 h1 h2 h3
  refine do_ret RF.out ?_ rfl
  show DoQ ea eb X d sy NK _ w _ V6
  refine ⟨none, 0, 0, ?_, ?_, ?_⟩
  · first | (rw [EX.out]; done) | (rw [EX.out]; rfl)
  · rw [EX.out]; exact OF.out
  · rw [EX.out]; exact QF.out
set_option maxRecDepth 20000 in
set_option maxHeartbeats 4000000 in
theorem iDo5y (ea eb : Addr) (X : Nat) (d : ByteArray) (sy : Nat) (hok : XOk d sy) (NK : List ByteArray) (hNK : NK.length ≤ 900000000) (o : Op) (hk : o.ky.size ≤ 1048576) (hdt : o.dt.size ≤ 1048576) (hkd : o.kd = 5) (hr : ¬ rotP d o.at_ o.tn) (w : World) (h : ShAt ea eb X d sy NK w) :
    Calls Tryz.prog 26 #[.pointer (some ⟨X, 0, none⟩), .agg o.row] w fun e w' => DoQ ea eb X d sy NK o w e w' := by
  obtain ⟨kd, ky, dt, kp, at_, tn⟩ := o
  obtain rfl := (show kd = _ from hkd)
  clear hkd
  have H3 := hid (h.below (doW_below w ⟨5, ky, dt, kp, at_, tn⟩))
  have I3 := hid (doW_i w ⟨5, ky, dt, kp, at_, tn⟩)
  have XW : Hid (X ≤ w.heap.size) := by have := h.size; show _ ≤ _; omega
  have B3 := hid (doW_below w ⟨5, ky, dt, kp, at_, tn⟩)
  obtain ⟨W3, hW3⟩ : ∃ W, W = doW w ⟨5, ky, dt, kp, at_, tn⟩ := ⟨_, rfl⟩
  rw [← hW3] at H3 I3 B3
  have KP := hid (iRotYes ea eb X d sy NK hNK at_ tn hr W3 H3.out)
  have EX := hid (x5y d sy ky dt kp at_ tn hr)
  obtain ⟨T1, hT1⟩ : ∃ T, T = rotN d at_.toNat tn := ⟨_, rfl⟩
  rw [← hT1] at EX KP
  clear hT1
  have H0 := hid h
  clear h hok hNK hk hdt hr
  show Calls _ _ #[_, .agg #[.int .i64 5, .string ky, .string dt, .int .i64 kp, .int .i64 at_, .int .i64 tn]] _ _
  go_enter Tryz.func26, Tryz.ntmps26
  go_upto_region 2 with fail
  rw [← (show W3 = ((w.alloc (.cells #[.int .i64 5, .string ky, .string dt, .int .i64 kp, .int .i64 at_, .int .i64 tn] 27)).alloc (.cells #[.int .i64 0, .string ⟨#[]⟩, .slice none 0 0, .int .i64 0] 36)).alloc (.cells #[.int .i64 0, .string ⟨#[]⟩, .slice none 0 0, .int .i64 0] 36) from hW3)]
  clear hW3
  have o0 : W3.cell? ⟨w.heap.size, 0, none⟩ = some (.int .i64 5) := I3.out.p.cell 0
  have o1 : W3.cell? ⟨w.heap.size, 1, none⟩ = some (.string ky) := I3.out.p.cell 1
  have o2 : W3.cell? ⟨w.heap.size, 2, none⟩ = some (.string dt) := I3.out.p.cell 2
  have o3 : W3.cell? ⟨w.heap.size, 3, none⟩ = some (.int .i64 kp) := I3.out.p.cell 3
  have o4 : W3.cell? ⟨w.heap.size, 4, none⟩ = some (.int .i64 at_) := I3.out.p.cell 4
  have o5 : W3.cell? ⟨w.heap.size, 5, none⟩ = some (.int .i64 tn) := I3.out.p.cell 5
  go_wp2_with fail
  refine KP.out.mono ?_
  rintro e w4 ⟨rfl, hQ⟩
  have I4 := I3.out.tg hQ.2
  have Q4 : ShQ ea eb X T1 sy NK w w4 := hQ.after B3.out XW.out
  have OS : OwnStrs w4 w.heap.size (.slice none 0 0) [] := ⟨rfl, .inl ⟨rfl, rfl⟩⟩
  have r0 := I4.r
  have t0 := I4.t
  have hb1 := hid (show w.heap.size + 1 < w4.heap.size from I4.r.lt)
  have c1 : w4.cell? ⟨w.heap.size + 2, 0, none⟩ = some (.int .i64 0) := t0.cell 0
  have f1 := t0.free 0
  obtain ⟨q1, s1, u1, k1⟩ := do_end Q4 t0 r0 XW.out 0 (.int .i64 0)
  have os1 := k1 OS
  clear t0 r0
  have t0 := s1
  have r0 := u1
  simp only [List.setIfInBounds_toArray, List.set_cons_zero] at t0
  obtain ⟨V, hV⟩ : ∃ V, V = (w4.setCell ⟨w.heap.size + 2, 0, none⟩ (.int .i64 0)) := ⟨_, rfl⟩
  rw [← hV] at q1 os1 t0 r0
  have QV := hid q1
  have OV := hid os1
  have TV := hid t0
  have RV := hid r0
  have HV := hid hV
  go_upto_region 20 with fail
  rw [← HV.out]
  clear q1 s1 u1 k1 os1 hV HV t0 r0 Q4 I4 OS c1 f1 o0 o1 o2 o3 o4 o5
  obtain ⟨NKV, HVs⟩ := QV.out.at
  have x7 := HVs.synced.2.2
  clear HVs
  have c3 : V.cell? ⟨w.heap.size + 2, 3, none⟩ = some (.int .i64 0) := TV.out.cell 3
  have f3 := TV.out.free 3
  obtain ⟨qE, sE, uE, kE⟩ := do_end QV.out TV.out RV.out XW.out 3 (.int .i64 (hldN T1 : Nat))
  have osE := kE OV.out
  simp only [List.setIfInBounds_toArray, List.set_cons_zero, List.set_cons_succ] at sE
  obtain ⟨V2, hV2⟩ : ∃ U, U = V.setCell ⟨w.heap.size + 2, 3, none⟩ (.int .i64 (hldN T1 : Nat)) := ⟨_, rfl⟩
  rw [← hV2] at qE osE sE uE
  have Q2 := hid qE
  have O2 := hid osE
  have S2 := hid sE
  have U2 := hid uE
  have HV2 := hid hV2
  clear qE osE sE uE kE hV2
  go_upto_region 21 with fail
  rw [← HV2.out]
  clear HV2 x7 c3 f3
  have e0 : V2.cell? ⟨w.heap.size + 2, 0, none⟩ = some (.int .i64 0) := S2.out.cell 0
  have e1 : V2.cell? ⟨w.heap.size + 2, 1, none⟩ = some (.string ⟨#[]⟩) := S2.out.cell 1
  have e2 : V2.cell? ⟨w.heap.size + 2, 2, none⟩ = some (.slice none 0 0) := S2.out.cell 2
  have e3 : V2.cell? ⟨w.heap.size + 2, 3, none⟩ = some (.int .i64 (hldN T1 : Nat)) := S2.out.cell 3
  have g0 : V2.cell? ⟨w.heap.size + 1, 0, none⟩ = some (.int .i64 0) := U2.out.cell 0
  have h0 := U2.out.free 0
  have g1 : V2.cell? ⟨w.heap.size + 1, 1, none⟩ = some (.string ⟨#[]⟩) := U2.out.cell 1
  have h1 := U2.out.free 1
  have g2 : V2.cell? ⟨w.heap.size + 1, 2, none⟩ = some (.slice none 0 0) := U2.out.cell 2
  have h2 := U2.out.free 2
  have g3 : V2.cell? ⟨w.heap.size + 1, 3, none⟩ = some (.int .i64 0) := U2.out.cell 3
  have h3 := U2.out.free 3
  obtain ⟨QF, RF, OF⟩ := do_all (a := .int .i64 0) (b := .string ⟨#[]⟩) (c := .slice none 0 0) (d := .int .i64 (hldN T1 : Nat)) Q2.out U2.out XW.out O2.out
  have QF := hid QF
  have RF := hid RF
  have OF := hid OF
  obtain ⟨V6, hV6⟩ : ∃ U, U = ((((V2.setCell ⟨w.heap.size + 1, 0, none⟩ (.int .i64 0)).setCell ⟨w.heap.size + 1, 1, none⟩ (.string ⟨#[]⟩)).setCell ⟨w.heap.size + 1, 2, none⟩ (.slice none 0 0)).setCell ⟨w.heap.size + 1, 3, none⟩ (.int .i64 (hldN T1 : Nat))) := ⟨_, rfl⟩
  rw [← hV6] at QF RF OF
  go_wp2
  rw [← hV6]
  clear hV6 e0 e1 e2 e3 g0 g1 g2 g3 h0 h1 h2 h3
  refine do_ret RF.out ?_ rfl
  show DoQ ea eb X d sy NK _ w _ V6
  refine ⟨none, 0, 0, ?_, ?_, ?_⟩
  · first | (rw [EX.out]; done) | (rw [EX.out]; rfl)
  · rw [EX.out]; exact OF.out
  · rw [EX.out]; exact QF.out
set_option maxRecDepth 20000 in
set_option maxHeartbeats 4000000 in
theorem iDo6 (ea eb : Addr) (X : Nat) (d : ByteArray) (sy : Nat) (hok : XOk d sy) (NK : List ByteArray) (hNK : NK.length ≤ 900000000) (o : Op) (hk : o.ky.size ≤ 1048576) (hdt : o.dt.size ≤ 1048576) (hkd : o.kd = 6) (w : World) (h : ShAt ea eb X d sy NK w) :
    Calls Tryz.prog 26 #[.pointer (some ⟨X, 0, none⟩), .agg o.row] w fun e w' => DoQ ea eb X d sy NK o w e w' := by
  obtain ⟨kd, ky, dt, kp, at_, tn⟩ := o
  obtain rfl := (show kd = _ from hkd)
  clear hkd
  have H3 := hid (h.below (doW_below w ⟨6, ky, dt, kp, at_, tn⟩))
  have I3 := hid (doW_i w ⟨6, ky, dt, kp, at_, tn⟩)
  have XW : Hid (X ≤ w.heap.size) := by have := h.size; show _ ≤ _; omega
  have B3 := hid (doW_below w ⟨6, ky, dt, kp, at_, tn⟩)
  obtain ⟨W3, hW3⟩ : ∃ W, W = doW w ⟨6, ky, dt, kp, at_, tn⟩ := ⟨_, rfl⟩
  rw [← hW3] at H3 I3 B3
  have KP := hid (iReadKey ea eb X d sy NK ky hk W3 H3.out)
  obtain ⟨R, hR⟩ : ∃ R, R = (if thrB d ky then datN d ky else ⟨#[]⟩) := ⟨_, rfl⟩
  obtain ⟨cd, hcd⟩ : ∃ cd : Int, cd = (if thrB d ky then 0 else 5) := ⟨_, rfl⟩
  rw [← hR, ← hcd] at KP
  have EX : Hid (xDo d sy ⟨6, ky, dt, kp, at_, tn⟩ = ((d, sy), ⟨cd, R, [], (hldN d : Int)⟩)) := by
    cases ht : thrB d ky with
    | true => rw [ht] at hR hcd; rw [hR, hcd]; exact x6y d sy ky dt kp at_ tn ht
    | false => rw [ht] at hR hcd; rw [hR, hcd]; exact x6n d sy ky dt kp at_ tn ht
  clear hR hcd
  have H0 := hid h
  clear h hok hNK hk hdt
  show Calls _ _ #[_, .agg #[.int .i64 6, .string ky, .string dt, .int .i64 kp, .int .i64 at_, .int .i64 tn]] _ _
  go_enter Tryz.func26, Tryz.ntmps26
  go_upto_region 2 with fail
  rw [← (show W3 = ((w.alloc (.cells #[.int .i64 6, .string ky, .string dt, .int .i64 kp, .int .i64 at_, .int .i64 tn] 27)).alloc (.cells #[.int .i64 0, .string ⟨#[]⟩, .slice none 0 0, .int .i64 0] 36)).alloc (.cells #[.int .i64 0, .string ⟨#[]⟩, .slice none 0 0, .int .i64 0] 36) from hW3)]
  clear hW3
  have o0 : W3.cell? ⟨w.heap.size, 0, none⟩ = some (.int .i64 6) := I3.out.p.cell 0
  have o1 : W3.cell? ⟨w.heap.size, 1, none⟩ = some (.string ky) := I3.out.p.cell 1
  have o2 : W3.cell? ⟨w.heap.size, 2, none⟩ = some (.string dt) := I3.out.p.cell 2
  have o3 : W3.cell? ⟨w.heap.size, 3, none⟩ = some (.int .i64 kp) := I3.out.p.cell 3
  have o4 : W3.cell? ⟨w.heap.size, 4, none⟩ = some (.int .i64 at_) := I3.out.p.cell 4
  have o5 : W3.cell? ⟨w.heap.size, 5, none⟩ = some (.int .i64 tn) := I3.out.p.cell 5
  go_wp2_with fail
  refine KP.out.mono ?_
  rintro e w4 ⟨rfl, hb4⟩
  have Q4 : ShQ ea eb X d sy NK w w4 := ShQ.id H0.out (B3.out.trans (hb4.mono B3.out.size))
  have I4 := I3.out.tg (TG.of_below tgA true hb4 (Nat.le_trans XW.out B3.out.size))
  have OS : OwnStrs w4 w.heap.size (.slice none 0 0) [] := ⟨rfl, .inl ⟨rfl, rfl⟩⟩
  have r0 := I4.r
  have t0 := I4.t
  have hb1 := hid (show w.heap.size + 1 < w4.heap.size from I4.r.lt)
  have c1 : w4.cell? ⟨w.heap.size + 2, 1, none⟩ = some (.string ⟨#[]⟩) := t0.cell 1
  have f1 := t0.free 1
  obtain ⟨q1, s1, u1, k1⟩ := do_end Q4 t0 r0 XW.out 1 (.string R)
  have os1 := k1 OS
  clear t0 r0
  have t0 := s1
  have r0 := u1
  simp only [List.setIfInBounds_toArray, List.set_cons_zero, List.set_cons_succ] at t0
  have c2 : (w4.setCell ⟨w.heap.size + 2, 1, none⟩ (.string R)).cell? ⟨w.heap.size + 2, 0, none⟩ = some (.int .i64 0) := t0.cell 0
  have f2 := t0.free 0
  obtain ⟨q2, s2, u2, k2⟩ := do_end q1 t0 r0 XW.out 0 (.int .i64 cd)
  have os2 := k2 os1
  clear t0 r0
  have t0 := s2
  have r0 := u2
  simp only [List.setIfInBounds_toArray, List.set_cons_zero] at t0
  obtain ⟨V, hV⟩ : ∃ V, V = ((w4.setCell ⟨w.heap.size + 2, 1, none⟩ (.string R)).setCell ⟨w.heap.size + 2, 0, none⟩ (.int .i64 cd)) := ⟨_, rfl⟩
  rw [← hV] at q2 os2 t0 r0
  have QV := hid q2
  have OV := hid os2
  have TV := hid t0
  have RV := hid r0
  have HV := hid hV
  go_upto_region 20 with fail
  rw [← HV.out]
  clear q1 s1 u1 k1 os1 q2 s2 u2 k2 os2 hV HV t0 r0 Q4 I4 OS c1 f1 c2 f2 o0 o1 o2 o3 o4 o5
  obtain ⟨NKV, HVs⟩ := QV.out.at
  have x7 := HVs.synced.2.2
  clear HVs
  have c3 : V.cell? ⟨w.heap.size + 2, 3, none⟩ = some (.int .i64 0) := TV.out.cell 3
  have f3 := TV.out.free 3
  obtain ⟨qE, sE, uE, kE⟩ := do_end QV.out TV.out RV.out XW.out 3 (.int .i64 (hldN d : Nat))
  have osE := kE OV.out
  simp only [List.setIfInBounds_toArray, List.set_cons_zero, List.set_cons_succ] at sE
  obtain ⟨V2, hV2⟩ : ∃ U, U = V.setCell ⟨w.heap.size + 2, 3, none⟩ (.int .i64 (hldN d : Nat)) := ⟨_, rfl⟩
  rw [← hV2] at qE osE sE uE
  have Q2 := hid qE
  have O2 := hid osE
  have S2 := hid sE
  have U2 := hid uE
  have HV2 := hid hV2
  clear qE osE sE uE kE hV2
  go_upto_region 21 with fail
  rw [← HV2.out]
  clear HV2 x7 c3 f3
  have e0 : V2.cell? ⟨w.heap.size + 2, 0, none⟩ = some (.int .i64 cd) := S2.out.cell 0
  have e1 : V2.cell? ⟨w.heap.size + 2, 1, none⟩ = some (.string R) := S2.out.cell 1
  have e2 : V2.cell? ⟨w.heap.size + 2, 2, none⟩ = some (.slice none 0 0) := S2.out.cell 2
  have e3 : V2.cell? ⟨w.heap.size + 2, 3, none⟩ = some (.int .i64 (hldN d : Nat)) := S2.out.cell 3
  have g0 : V2.cell? ⟨w.heap.size + 1, 0, none⟩ = some (.int .i64 0) := U2.out.cell 0
  have h0 := U2.out.free 0
  have g1 : V2.cell? ⟨w.heap.size + 1, 1, none⟩ = some (.string ⟨#[]⟩) := U2.out.cell 1
  have h1 := U2.out.free 1
  have g2 : V2.cell? ⟨w.heap.size + 1, 2, none⟩ = some (.slice none 0 0) := U2.out.cell 2
  have h2 := U2.out.free 2
  have g3 : V2.cell? ⟨w.heap.size + 1, 3, none⟩ = some (.int .i64 0) := U2.out.cell 3
  have h3 := U2.out.free 3
  obtain ⟨QF, RF, OF⟩ := do_all (a := .int .i64 cd) (b := .string R) (c := .slice none 0 0) (d := .int .i64 (hldN d : Nat)) Q2.out U2.out XW.out O2.out
  have QF := hid QF
  have RF := hid RF
  have OF := hid OF
  obtain ⟨V6, hV6⟩ : ∃ U, U = ((((V2.setCell ⟨w.heap.size + 1, 0, none⟩ (.int .i64 cd)).setCell ⟨w.heap.size + 1, 1, none⟩ (.string R)).setCell ⟨w.heap.size + 1, 2, none⟩ (.slice none 0 0)).setCell ⟨w.heap.size + 1, 3, none⟩ (.int .i64 (hldN d : Nat))) := ⟨_, rfl⟩
  rw [← hV6] at QF RF OF
  go_wp2
  rw [← hV6]
  clear hV6 e0 e1 e2 e3 g0 g1 g2 g3 h0 h1 h2 h3
  refine do_ret RF.out ?_ rfl
  show DoQ ea eb X d sy NK _ w _ V6
  refine ⟨none, 0, 0, ?_, ?_, ?_⟩
  · first | (rw [EX.out]; done) | (rw [EX.out]; rfl)
  · rw [EX.out]; exact OF.out
  · rw [EX.out]; exact QF.out
set_option maxRecDepth 20000 in
set_option maxHeartbeats 4000000 in
theorem iDo7 (ea eb : Addr) (X : Nat) (d : ByteArray) (sy : Nat) (hok : XOk d sy) (NK : List ByteArray) (hNK : NK.length ≤ 900000000) (o : Op) (hk : o.ky.size ≤ 1048576) (hdt : o.dt.size ≤ 1048576) (hkd : o.kd = 7) (w : World) (hT : TB w) (h : ShAt ea eb X d sy NK w) :
    Calls Tryz.prog 26 #[.pointer (some ⟨X, 0, none⟩), .agg o.row] w fun e w' => DoQ ea eb X d sy NK o w e w' := by
  obtain ⟨kd, ky, dt, kp, at_, tn⟩ := o
  obtain rfl := (show kd = _ from hkd)
  clear hkd
  have H3 := hid (h.below (doW_below w ⟨7, ky, dt, kp, at_, tn⟩))
  have I3 := hid (doW_i w ⟨7, ky, dt, kp, at_, tn⟩)
  have XW : Hid (X ≤ w.heap.size) := by have := h.size; show _ ≤ _; omega
  have B3 := hid (doW_below w ⟨7, ky, dt, kp, at_, tn⟩)
  obtain ⟨W3, hW3⟩ : ∃ W, W = doW w ⟨7, ky, dt, kp, at_, tn⟩ := ⟨_, rfl⟩
  rw [← hW3] at H3 I3 B3
  have T3 := hid (hT.below B3.out)
  have KP := hid (iScrub ea eb X d sy NK W3 T3.out H3.out)
  have EX := hid (x7 d sy ky dt kp at_ tn)
  have H0 := hid h
  clear h hok hNK hk hdt hT
  show Calls _ _ #[_, .agg #[.int .i64 7, .string ky, .string dt, .int .i64 kp, .int .i64 at_, .int .i64 tn]] _ _
  go_enter Tryz.func26, Tryz.ntmps26
  go_upto_region 2 with fail
  rw [← (show W3 = ((w.alloc (.cells #[.int .i64 7, .string ky, .string dt, .int .i64 kp, .int .i64 at_, .int .i64 tn] 27)).alloc (.cells #[.int .i64 0, .string ⟨#[]⟩, .slice none 0 0, .int .i64 0] 36)).alloc (.cells #[.int .i64 0, .string ⟨#[]⟩, .slice none 0 0, .int .i64 0] 36) from hW3)]
  clear hW3
  have o0 : W3.cell? ⟨w.heap.size, 0, none⟩ = some (.int .i64 7) := I3.out.p.cell 0
  have o1 : W3.cell? ⟨w.heap.size, 1, none⟩ = some (.string ky) := I3.out.p.cell 1
  have o2 : W3.cell? ⟨w.heap.size, 2, none⟩ = some (.string dt) := I3.out.p.cell 2
  have o3 : W3.cell? ⟨w.heap.size, 3, none⟩ = some (.int .i64 kp) := I3.out.p.cell 3
  have o4 : W3.cell? ⟨w.heap.size, 4, none⟩ = some (.int .i64 at_) := I3.out.p.cell 4
  have o5 : W3.cell? ⟨w.heap.size, 5, none⟩ = some (.int .i64 tn) := I3.out.p.cell 5
  go_wp2_with fail
  refine KP.out.mono ?_
  rintro e w4 ⟨⟨v4, rfl, hO4⟩, hb4⟩
  have Q4 : ShQ ea eb X d sy NK w w4 := ShQ.id H0.out (B3.out.trans (hb4.mono B3.out.size))
  have I4 := I3.out.tg (TG.of_below tgA true hb4 (Nat.le_trans XW.out B3.out.size))
  obtain ⟨a4, c4, hv4⟩ := hO4.slice
  obtain ⟨n4, hn4⟩ : ∃ n, n = (scrN d).length := ⟨_, rfl⟩
  rw [← hn4] at hv4
  subst hv4
  have OS := orBase hO4 B3.out.size
  clear hO4 hn4
  have r0 := I4.r
  have t0 := I4.t
  have hb1 := hid (show w.heap.size + 1 < w4.heap.size from I4.r.lt)
  have c1 : w4.cell? ⟨w.heap.size + 2, 2, none⟩ = some (.slice none 0 0) := t0.cell 2
  have f1 := t0.free 2
  obtain ⟨q1, s1, u1, k1⟩ := do_end Q4 t0 r0 XW.out 2 (.slice a4 n4 c4)
  have os1 := k1 OS
  clear t0 r0
  have t0 := s1
  have r0 := u1
  simp only [List.setIfInBounds_toArray, List.set_cons_zero, List.set_cons_succ] at t0
  obtain ⟨V, hV⟩ : ∃ V, V = (w4.setCell ⟨w.heap.size + 2, 2, none⟩ (.slice a4 n4 c4)) := ⟨_, rfl⟩
  rw [← hV] at q1 os1 t0 r0
  have QV := hid q1
  have OV := hid os1
  have TV := hid t0
  have RV := hid r0
  have HV := hid hV
  go_upto_region 20 with fail
  rw [← HV.out]
  clear q1 s1 u1 k1 os1 hV HV t0 r0 Q4 I4 OS c1 f1 o0 o1 o2 o3 o4 o5
  obtain ⟨NKV, HVs⟩ := QV.out.at
  have x7 := HVs.synced.2.2
  clear HVs
  have c3 : V.cell? ⟨w.heap.size + 2, 3, none⟩ = some (.int .i64 0) := TV.out.cell 3
  have f3 := TV.out.free 3
  obtain ⟨qE, sE, uE, kE⟩ := do_end QV.out TV.out RV.out XW.out 3 (.int .i64 (hldN d : Nat))
  have osE := kE OV.out
  simp only [List.setIfInBounds_toArray, List.set_cons_zero, List.set_cons_succ] at sE
  obtain ⟨V2, hV2⟩ : ∃ U, U = V.setCell ⟨w.heap.size + 2, 3, none⟩ (.int .i64 (hldN d : Nat)) := ⟨_, rfl⟩
  rw [← hV2] at qE osE sE uE
  have Q2 := hid qE
  have O2 := hid osE
  have S2 := hid sE
  have U2 := hid uE
  have HV2 := hid hV2
  clear qE osE sE uE kE hV2
  go_upto_region 21 with fail
  rw [← HV2.out]
  clear HV2 x7 c3 f3
  have e0 : V2.cell? ⟨w.heap.size + 2, 0, none⟩ = some (.int .i64 0) := S2.out.cell 0
  have e1 : V2.cell? ⟨w.heap.size + 2, 1, none⟩ = some (.string ⟨#[]⟩) := S2.out.cell 1
  have e2 : V2.cell? ⟨w.heap.size + 2, 2, none⟩ = some (.slice a4 n4 c4) := S2.out.cell 2
  have e3 : V2.cell? ⟨w.heap.size + 2, 3, none⟩ = some (.int .i64 (hldN d : Nat)) := S2.out.cell 3
  have g0 : V2.cell? ⟨w.heap.size + 1, 0, none⟩ = some (.int .i64 0) := U2.out.cell 0
  have h0 := U2.out.free 0
  have g1 : V2.cell? ⟨w.heap.size + 1, 1, none⟩ = some (.string ⟨#[]⟩) := U2.out.cell 1
  have h1 := U2.out.free 1
  have g2 : V2.cell? ⟨w.heap.size + 1, 2, none⟩ = some (.slice none 0 0) := U2.out.cell 2
  have h2 := U2.out.free 2
  have g3 : V2.cell? ⟨w.heap.size + 1, 3, none⟩ = some (.int .i64 0) := U2.out.cell 3
  have h3 := U2.out.free 3
  obtain ⟨QF, RF, OF⟩ := do_all (a := .int .i64 0) (b := .string ⟨#[]⟩) (c := .slice a4 n4 c4) (d := .int .i64 (hldN d : Nat)) Q2.out U2.out XW.out O2.out
  have QF := hid QF
  have RF := hid RF
  have OF := hid OF
  obtain ⟨V6, hV6⟩ : ∃ U, U = ((((V2.setCell ⟨w.heap.size + 1, 0, none⟩ (.int .i64 0)).setCell ⟨w.heap.size + 1, 1, none⟩ (.string ⟨#[]⟩)).setCell ⟨w.heap.size + 1, 2, none⟩ (.slice a4 n4 c4)).setCell ⟨w.heap.size + 1, 3, none⟩ (.int .i64 (hldN d : Nat))) := ⟨_, rfl⟩
  rw [← hV6] at QF RF OF
  go_wp2
  rw [← hV6]
  clear hV6 e0 e1 e2 e3 g0 g1 g2 g3 h0 h1 h2 h3
  refine do_ret RF.out ?_ rfl
  show DoQ ea eb X d sy NK _ w _ V6
  refine ⟨a4, n4, c4, ?_, ?_, ?_⟩
  · first | (rw [EX.out]; done) | (rw [EX.out]; rfl)
  · rw [EX.out]; exact OF.out
  · rw [EX.out]; exact QF.out
set_option maxRecDepth 20000 in
set_option maxHeartbeats 4000000 in
theorem iDo8 (ea eb : Addr) (X : Nat) (d : ByteArray) (sy : Nat) (hok : XOk d sy) (NK : List ByteArray) (hNK : NK.length ≤ 900000000) (o : Op) (hk : o.ky.size ≤ 1048576) (hdt : o.dt.size ≤ 1048576) (hkd : o.kd = 8) (w : World) (h : ShAt ea eb X d sy NK w) :
    Calls Tryz.prog 26 #[.pointer (some ⟨X, 0, none⟩), .agg o.row] w fun e w' => DoQ ea eb X d sy NK o w e w' := by
  obtain ⟨kd, ky, dt, kp, at_, tn⟩ := o
  obtain rfl := (show kd = _ from hkd)
  clear hkd
  have H3 := hid (h.below (doW_below w ⟨8, ky, dt, kp, at_, tn⟩))
  have I3 := hid (doW_i w ⟨8, ky, dt, kp, at_, tn⟩)
  have XW : Hid (X ≤ w.heap.size) := by have := h.size; show _ ≤ _; omega
  have B3 := hid (doW_below w ⟨8, ky, dt, kp, at_, tn⟩)
  obtain ⟨W3, hW3⟩ : ∃ W, W = doW w ⟨8, ky, dt, kp, at_, tn⟩ := ⟨_, rfl⟩
  rw [← hW3] at H3 I3 B3
  have KP := hid (iCompact ea eb X d sy NK hNK W3 H3.out)
  have EX := hid (x8 d sy ky dt kp at_ tn)
  obtain ⟨T1, hT1⟩ : ∃ T, T = cmpN d (sc d 0).length := ⟨_, rfl⟩
  rw [← hT1] at EX KP
  clear hT1
  have H0 := hid h
  clear h hok hNK hk hdt
  show Calls _ _ #[_, .agg #[.int .i64 8, .string ky, .string dt, .int .i64 kp, .int .i64 at_, .int .i64 tn]] _ _
  go_enter Tryz.func26, Tryz.ntmps26
  go_upto_region 2 with fail
  rw [← (show W3 = ((w.alloc (.cells #[.int .i64 8, .string ky, .string dt, .int .i64 kp, .int .i64 at_, .int .i64 tn] 27)).alloc (.cells #[.int .i64 0, .string ⟨#[]⟩, .slice none 0 0, .int .i64 0] 36)).alloc (.cells #[.int .i64 0, .string ⟨#[]⟩, .slice none 0 0, .int .i64 0] 36) from hW3)]
  clear hW3
  have o0 : W3.cell? ⟨w.heap.size, 0, none⟩ = some (.int .i64 8) := I3.out.p.cell 0
  have o1 : W3.cell? ⟨w.heap.size, 1, none⟩ = some (.string ky) := I3.out.p.cell 1
  have o2 : W3.cell? ⟨w.heap.size, 2, none⟩ = some (.string dt) := I3.out.p.cell 2
  have o3 : W3.cell? ⟨w.heap.size, 3, none⟩ = some (.int .i64 kp) := I3.out.p.cell 3
  have o4 : W3.cell? ⟨w.heap.size, 4, none⟩ = some (.int .i64 at_) := I3.out.p.cell 4
  have o5 : W3.cell? ⟨w.heap.size, 5, none⟩ = some (.int .i64 tn) := I3.out.p.cell 5
  go_wp2_with fail
  refine KP.out.mono ?_
  rintro e w4 ⟨⟨v4, rfl⟩, hQ⟩
  have I4 := I3.out.tg hQ.2
  have Q4 : ShQ ea eb X T1 T1.size NK w w4 := hQ.after B3.out XW.out
  have OS : OwnStrs w4 w.heap.size (.slice none 0 0) [] := ⟨rfl, .inl ⟨rfl, rfl⟩⟩
  have r0 := I4.r
  have t0 := I4.t
  have hb1 := hid (show w.heap.size + 1 < w4.heap.size from I4.r.lt)
  obtain ⟨V, hV⟩ : ∃ V, V = w4 := ⟨_, rfl⟩
  rw [← hV] at Q4 OS t0 r0
  have QV := hid Q4
  have OV := hid OS
  have TV := hid t0
  have RV := hid r0
  have HV := hid hV
  go_upto_region 20 with fail
  rw [← HV.out]
  clear  hV HV t0 r0 Q4 I4 OS o0 o1 o2 o3 o4 o5
  obtain ⟨NKV, HVs⟩ := QV.out.at
  have x7 := HVs.synced.2.2
  clear HVs
  have c3 : V.cell? ⟨w.heap.size + 2, 3, none⟩ = some (.int .i64 0) := TV.out.cell 3
  have f3 := TV.out.free 3
  obtain ⟨qE, sE, uE, kE⟩ := do_end QV.out TV.out RV.out XW.out 3 (.int .i64 (hldN T1 : Nat))
  have osE := kE OV.out
  simp only [List.setIfInBounds_toArray, List.set_cons_zero, List.set_cons_succ] at sE
  obtain ⟨V2, hV2⟩ : ∃ U, U = V.setCell ⟨w.heap.size + 2, 3, none⟩ (.int .i64 (hldN T1 : Nat)) := ⟨_, rfl⟩
  rw [← hV2] at qE osE sE uE
  have Q2 := hid qE
  have O2 := hid osE
  have S2 := hid sE
  have U2 := hid uE
  have HV2 := hid hV2
  clear qE osE sE uE kE hV2
  go_upto_region 21 with fail
  rw [← HV2.out]
  clear HV2 x7 c3 f3
  have e0 : V2.cell? ⟨w.heap.size + 2, 0, none⟩ = some (.int .i64 0) := S2.out.cell 0
  have e1 : V2.cell? ⟨w.heap.size + 2, 1, none⟩ = some (.string ⟨#[]⟩) := S2.out.cell 1
  have e2 : V2.cell? ⟨w.heap.size + 2, 2, none⟩ = some (.slice none 0 0) := S2.out.cell 2
  have e3 : V2.cell? ⟨w.heap.size + 2, 3, none⟩ = some (.int .i64 (hldN T1 : Nat)) := S2.out.cell 3
  have g0 : V2.cell? ⟨w.heap.size + 1, 0, none⟩ = some (.int .i64 0) := U2.out.cell 0
  have h0 := U2.out.free 0
  have g1 : V2.cell? ⟨w.heap.size + 1, 1, none⟩ = some (.string ⟨#[]⟩) := U2.out.cell 1
  have h1 := U2.out.free 1
  have g2 : V2.cell? ⟨w.heap.size + 1, 2, none⟩ = some (.slice none 0 0) := U2.out.cell 2
  have h2 := U2.out.free 2
  have g3 : V2.cell? ⟨w.heap.size + 1, 3, none⟩ = some (.int .i64 0) := U2.out.cell 3
  have h3 := U2.out.free 3
  obtain ⟨QF, RF, OF⟩ := do_all (a := .int .i64 0) (b := .string ⟨#[]⟩) (c := .slice none 0 0) (d := .int .i64 (hldN T1 : Nat)) Q2.out U2.out XW.out O2.out
  have QF := hid QF
  have RF := hid RF
  have OF := hid OF
  obtain ⟨V6, hV6⟩ : ∃ U, U = ((((V2.setCell ⟨w.heap.size + 1, 0, none⟩ (.int .i64 0)).setCell ⟨w.heap.size + 1, 1, none⟩ (.string ⟨#[]⟩)).setCell ⟨w.heap.size + 1, 2, none⟩ (.slice none 0 0)).setCell ⟨w.heap.size + 1, 3, none⟩ (.int .i64 (hldN T1 : Nat))) := ⟨_, rfl⟩
  rw [← hV6] at QF RF OF
  go_wp2
  rw [← hV6]
  clear hV6 e0 e1 e2 e3 g0 g1 g2 g3 h0 h1 h2 h3
  refine do_ret RF.out ?_ rfl
  show DoQ ea eb X d sy NK _ w _ V6
  refine ⟨none, 0, 0, ?_, ?_, ?_⟩
  · first | (rw [EX.out]; done) | (rw [EX.out]; rfl)
  · rw [EX.out]; exact OF.out
  · rw [EX.out]; exact QF.out
set_option maxRecDepth 20000 in
set_option maxHeartbeats 4000000 in
theorem iDo0 (ea eb : Addr) (X : Nat) (d : ByteArray) (sy : Nat) (hok : XOk d sy) (NK : List ByteArray) (hNK : NK.length ≤ 900000000) (o : Op) (hk : o.ky.size ≤ 1048576) (hdt : o.dt.size ≤ 1048576) (h1 : o.kd ≠ 1) (h2 : o.kd ≠ 2) (h3 : o.kd ≠ 3) (h4 : o.kd ≠ 4) (h5 : o.kd ≠ 5) (h6 : o.kd ≠ 6) (h7 : o.kd ≠ 7) (h8 : o.kd ≠ 8) (w : World) (h : ShAt ea eb X d sy NK w) :
    Calls Tryz.prog 26 #[.pointer (some ⟨X, 0, none⟩), .agg o.row] w fun e w' => DoQ ea eb X d sy NK o w e w' := by
  obtain ⟨kd, ky, dt, kp, at_, tn⟩ := o
  have H3 := hid (h.below (doW_below w ⟨kd, ky, dt, kp, at_, tn⟩))
  have I3 := hid (doW_i w ⟨kd, ky, dt, kp, at_, tn⟩)
  have XW : Hid (X ≤ w.heap.size) := by have := h.size; show _ ≤ _; omega
  have B3 := hid (doW_below w ⟨kd, ky, dt, kp, at_, tn⟩)
  obtain ⟨W3, hW3⟩ : ∃ W, W = doW w ⟨kd, ky, dt, kp, at_, tn⟩ := ⟨_, rfl⟩
  rw [← hW3] at H3 I3 B3
  have EX := hid (x0 d sy kd ky dt kp at_ tn h1 h2 h3 h4 h5 h6 h7 h8)
  have z1 : (kd == 1) = false := by simpa using h1
  have z2 : (kd == 2) = false := by simpa using h2
  have z3 : (kd == 3) = false := by simpa using h3
  have z4 : (kd == 4) = false := by simpa using h4
  have z5 : (kd == 5) = false := by simpa using h5
  have z6 : (kd == 6) = false := by simpa using h6
  have z7 : (kd == 7) = false := by simpa using h7
  have z8 : (kd == 8) = false := by simpa using h8
  have H0 := hid h
  clear h hok hNK hk hdt h1 h2 h3 h4 h5 h6 h7 h8
  show Calls _ _ #[_, .agg #[.int .i64 kd, .string ky, .string dt, .int .i64 kp, .int .i64 at_, .int .i64 tn]] _ _
  go_enter Tryz.func26, Tryz.ntmps26
  go_upto_region 2 with fail
  rw [← (show W3 = ((w.alloc (.cells #[.int .i64 kd, .string ky, .string dt, .int .i64 kp, .int .i64 at_, .int .i64 tn] 27)).alloc (.cells #[.int .i64 0, .string ⟨#[]⟩, .slice none 0 0, .int .i64 0] 36)).alloc (.cells #[.int .i64 0, .string ⟨#[]⟩, .slice none 0 0, .int .i64 0] 36) from hW3)]
  clear hW3
  have o0 : W3.cell? ⟨w.heap.size, 0, none⟩ = some (.int .i64 kd) := I3.out.p.cell 0
  have o1 : W3.cell? ⟨w.heap.size, 1, none⟩ = some (.string ky) := I3.out.p.cell 1
  have o2 : W3.cell? ⟨w.heap.size, 2, none⟩ = some (.string dt) := I3.out.p.cell 2
  have o3 : W3.cell? ⟨w.heap.size, 3, none⟩ = some (.int .i64 kp) := I3.out.p.cell 3
  have o4 : W3.cell? ⟨w.heap.size, 4, none⟩ = some (.int .i64 at_) := I3.out.p.cell 4
  have o5 : W3.cell? ⟨w.heap.size, 5, none⟩ = some (.int .i64 tn) := I3.out.p.cell 5
  have Q4 : ShQ ea eb X d sy NK w W3 := ShQ.id H0.out B3.out
  have I4 := I3.out
  have OS : OwnStrs W3 w.heap.size (.slice none 0 0) [] := ⟨rfl, .inl ⟨rfl, rfl⟩⟩
  have r0 := I4.r
  have t0 := I4.t
  have hb1 := hid (show w.heap.size + 1 < W3.heap.size from I4.r.lt)
  have c1 : W3.cell? ⟨w.heap.size + 2, 0, none⟩ = some (.int .i64 0) := t0.cell 0
  have f1 := t0.free 0
  obtain ⟨q1, s1, u1, k1⟩ := do_end Q4 t0 r0 XW.out 0 (.int .i64 1)
  have os1 := k1 OS
  clear t0 r0
  have t0 := s1
  have r0 := u1
  simp only [List.setIfInBounds_toArray, List.set_cons_zero] at t0
  obtain ⟨V, hV⟩ : ∃ V, V = (W3.setCell ⟨w.heap.size + 2, 0, none⟩ (.int .i64 1)) := ⟨_, rfl⟩
  rw [← hV] at q1 os1 t0 r0
  have QV := hid q1
  have OV := hid os1
  have TV := hid t0
  have RV := hid r0
  have HV := hid hV
  go_upto_region 20 with fail
  rw [← HV.out]
  clear q1 s1 u1 k1 os1 hV HV t0 r0 Q4 I4 OS c1 f1 o0 o1 o2 o3 o4 o5
  obtain ⟨NKV, HVs⟩ := QV.out.at
  have x7 := HVs.synced.2.2
  clear HVs
  have c3 : V.cell? ⟨w.heap.size + 2, 3, none⟩ = some (.int .i64 0) := TV.out.cell 3
  have f3 := TV.out.free 3
  obtain ⟨qE, sE, uE, kE⟩ := do_end QV.out TV.out RV.out XW.out 3 (.int .i64 (hldN d : Nat))
  have osE := kE OV.out
  simp only [List.setIfInBounds_toArray, List.set_cons_zero, List.set_cons_succ] at sE
  obtain ⟨V2, hV2⟩ : ∃ U, U = V.setCell ⟨w.heap.size + 2, 3, none⟩ (.int .i64 (hldN d : Nat)) := ⟨_, rfl⟩
  rw [← hV2] at qE osE sE uE
  have Q2 := hid qE
  have O2 := hid osE
  have S2 := hid sE
  have U2 := hid uE
  have HV2 := hid hV2
  clear qE osE sE uE kE hV2
  go_upto_region 21 with fail
  rw [← HV2.out]
  clear HV2 x7 c3 f3
  have e0 : V2.cell? ⟨w.heap.size + 2, 0, none⟩ = some (.int .i64 1) := S2.out.cell 0
  have e1 : V2.cell? ⟨w.heap.size + 2, 1, none⟩ = some (.string ⟨#[]⟩) := S2.out.cell 1
  have e2 : V2.cell? ⟨w.heap.size + 2, 2, none⟩ = some (.slice none 0 0) := S2.out.cell 2
  have e3 : V2.cell? ⟨w.heap.size + 2, 3, none⟩ = some (.int .i64 (hldN d : Nat)) := S2.out.cell 3
  have g0 : V2.cell? ⟨w.heap.size + 1, 0, none⟩ = some (.int .i64 0) := U2.out.cell 0
  have h0 := U2.out.free 0
  have g1 : V2.cell? ⟨w.heap.size + 1, 1, none⟩ = some (.string ⟨#[]⟩) := U2.out.cell 1
  have h1 := U2.out.free 1
  have g2 : V2.cell? ⟨w.heap.size + 1, 2, none⟩ = some (.slice none 0 0) := U2.out.cell 2
  have h2 := U2.out.free 2
  have g3 : V2.cell? ⟨w.heap.size + 1, 3, none⟩ = some (.int .i64 0) := U2.out.cell 3
  have h3 := U2.out.free 3
  obtain ⟨QF, RF, OF⟩ := do_all (a := .int .i64 1) (b := .string ⟨#[]⟩) (c := .slice none 0 0) (d := .int .i64 (hldN d : Nat)) Q2.out U2.out XW.out O2.out
  have QF := hid QF
  have RF := hid RF
  have OF := hid OF
  obtain ⟨V6, hV6⟩ : ∃ U, U = ((((V2.setCell ⟨w.heap.size + 1, 0, none⟩ (.int .i64 1)).setCell ⟨w.heap.size + 1, 1, none⟩ (.string ⟨#[]⟩)).setCell ⟨w.heap.size + 1, 2, none⟩ (.slice none 0 0)).setCell ⟨w.heap.size + 1, 3, none⟩ (.int .i64 (hldN d : Nat))) := ⟨_, rfl⟩
  rw [← hV6] at QF RF OF
  go_wp2
  rw [← hV6]
  clear hV6 e0 e1 e2 e3 g0 g1 g2 g3 h0 h1 h2 h3
  refine do_ret RF.out ?_ rfl
  show DoQ ea eb X d sy NK _ w _ V6
  refine ⟨none, 0, 0, ?_, ?_, ?_⟩
  · first | (rw [EX.out]; done) | (rw [EX.out]; rfl)
  · rw [EX.out]; exact OF.out
  · rw [EX.out]; exact QF.out
theorem iDo (ea eb : Addr) (X : Nat) (d : ByteArray) (sy : Nat) (hok : XOk d sy) (NK : List ByteArray) (hNK : NK.length ≤ 900000000) (o : Op) (hk : o.ky.size ≤ 1048576) (hdt : o.dt.size ≤ 1048576) (w : World) (hT : TB w) (h : ShAt ea eb X d sy NK w) :
    Calls Tryz.prog 26 #[.pointer (some ⟨X, 0, none⟩), .agg o.row] w fun e w' => DoQ ea eb X d sy NK o w e w' := by
  by_cases h1 : o.kd = 1
  · exact iDo1 ea eb X d sy hok NK hNK o hk hdt h1 w h
  by_cases h2 : o.kd = 2
  · exact iDo2 ea eb X d sy hok NK hNK o hk hdt h2 w h
  by_cases h3 : o.kd = 3
  · exact iDo3 ea eb X d sy hok NK hNK o hk hdt h3 w h
  by_cases h4 : o.kd = 4
  · exact iDo4 ea eb X d sy hok NK hNK o hk hdt h4 w h
  by_cases h5 : o.kd = 5
  · by_cases hr : rotP d o.at_ o.tn
    · exact iDo5n ea eb X d sy hok NK hNK o hk hdt h5 hr w h
    · exact iDo5y ea eb X d sy hok NK hNK o hk hdt h5 hr w h
  by_cases h6 : o.kd = 6
  · exact iDo6 ea eb X d sy hok NK hNK o hk hdt h6 w h
  by_cases h7 : o.kd = 7
  · exact iDo7 ea eb X d sy hok NK hNK o hk hdt h7 w hT h
  by_cases h8 : o.kd = 8
  · exact iDo8 ea eb X d sy hok NK hNK o hk hdt h8 w h
  exact iDo0 ea eb X d sy hok NK hNK o hk hdt h1 h2 h3 h4 h5 h6 h7 h8 w h
end Go.Proofs.YtngkiokibldfjaaGreatDoor
