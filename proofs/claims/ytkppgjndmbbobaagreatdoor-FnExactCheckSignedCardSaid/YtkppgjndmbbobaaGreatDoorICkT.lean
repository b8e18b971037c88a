import Derived.Test.YtkppgjndmbbobaaGreatDoorG15
import Derived.Test.YtkppgjndmbbobaaGreatDoorICkP2
namespace Go.Proofs.YtkppgjndmbbobaaGreatDoor
open Go.RowKit
set_option linter.unusedVariables false
/-! partSigned's region 7 (by genckq7.py). -/
def qao0 : Oper := { dst := some 42, op := Op.load 72 (Operand.tmp 3), type := 72, pos := "l10_request.go:475", after := #[], guard := none }
def qao1 : Oper := { dst := some 43, op := Op.call { callee := Callee.value (Operand.func 43), args := #[Operand.tmp 42], argTypes := #[72] }, type := 23, pos := "l10_request.go:475", after := #[{ on := 0, ground := Ground.data }], guard := none }
def qao2 : Oper := { dst := some 44, op := Op.move (Operand.tmp 7), type := 23, pos := "l10_request.go:475", after := #[], guard := none }
def qao3 : Oper := { dst := some 45, op := Op.slice 23 (Operand.tmp 44) none (some (Operand.const (Value.int IntKind.i64 4))) none, type := 23, pos := "l10_request.go:475", after := #[{ on := 2, ground := Ground.data }], guard := none }
def qao4 : Oper := { dst := some 46, op := Op.call { callee := Callee.value (Operand.func 94), args := #[Operand.tmp 43, Operand.tmp 45], argTypes := #[23, 23] }, type := 4, pos := "l10_request.go:475", after := #[{ on := 1, ground := Ground.data }, { on := 3, ground := Ground.data }, { on := 1, ground := Ground.chain }], guard := none }
def qao5 : Oper := { dst := some 47, op := Op.unOp UnOp.not 4 (Operand.tmp 46), type := 4, pos := "l10_request.go:475", after := #[{ on := 4, ground := Ground.data }], guard := none }
def qao6 : Oper := { dst := some 48, op := Op.move (Operand.tmp 47), type := 4, pos := "l10_request.go:475", after := #[{ on := 5, ground := Ground.data }, { on := 4, ground := Ground.chain }], guard := none }
def qao7 : Oper := { dst := some 49, op := Op.fieldAddr 66 (Operand.tmp 8) 0, type := 0, pos := "l10_request.go:475", after := #[{ on := 6, ground := Ground.guard }], guard := some (6, false) }
def qao8 : Oper := { dst := some 50, op := Op.load 9 (Operand.tmp 49), type := 9, pos := "l10_request.go:475", after := #[{ on := 7, ground := Ground.data }, { on := 6, ground := Ground.guard }], guard := some (6, false) }
def qao9 : Oper := { dst := some 51, op := Op.binOp BinOp.neq 9 (Operand.tmp 50) (Operand.const (Value.string { data := #[120, 45, 115, 117, 109] })) 9, type := 4, pos := "l10_request.go:475", after := #[{ on := 8, ground := Ground.data }, { on := 6, ground := Ground.guard }], guard := some (6, false) }
def qao10 : Oper := { dst := some 52, op := Op.pick (Operand.tmp 48) (Operand.const (Value.bool true)) (Operand.tmp 51), type := 4, pos := "l10_request.go:475", after := #[{ on := 6, ground := Ground.data }, { on := 9, ground := Ground.data }], guard := none }
def qaO : Array Oper := #[qao0, qao1, qao2, qao3, qao4, qao5, qao6, qao7, qao8, qao9, qao10]
def qaT (w0 : World) (X3 X8 qb tq cp : Nat) (V0 N4 V4 : ByteArray) (z1 z2 : Int) (sA : Option Addr) (mc : Nat) (L : List ByteArray) (o4 : Nat → Hp) (sa sb sc se sf sh sk sm sn so sp sq sr ss su sv sw sx sy sz ta tb tc td te tf tg th ti tj tk tl tm tn tp tr ts tt tu tv tw tx ty tz ua ub uc ud ue uf ug uh ui uj uk ul um un uo up uq ur us ut uu uv uw ux uy uz ya yb yc yd ye yf : Value) (XP : Nat) (b0 b1 b2 b3 b4 b5 b6 b7 b8 b9 b10 : Bool) : Array Value := #[sa, sb, sc, .pointer (some ⟨X3, 0, none⟩), se, sf, sh, .slice (some ⟨qb, tq, none⟩) 5 cp, .pointer (some ⟨X8, 0, none⟩), sk, sm, sn, so, sp, sq, sr, ss, su, sv, sw, sx, sy, sz, ta, tb, tc, td, te, tf, tg, th, ti, tj, tk, tl, tm, tn, tp, tr, ts, tt, tu, selS b0 (.agg #[.string V0, .int .i64 z1, .int .i64 z2, .slice sA L.length mc]) (tv), selS b1 (.slice (some ⟨XP, 0, none⟩) 4 4) (tw), selS b2 (.slice (some ⟨qb, tq, none⟩) 5 cp) (tx), selS b3 (.slice (some ⟨qb, tq, none⟩) 4 cp) (ty), selS b4 (.bool false) (tz), selS b5 (.bool true) (ua), selS b6 (.bool true) (ub), selS b7 (undef) (uc), selS b8 (undef) (ud), selS b9 (undef) (ue), selS b10 (.bool true) (uf), ug, uh, ui, uj, uk, ul, um, un, uo, up, uq, ur, us, ut, uu, uv, uw, ux, uy, uz, ya, yb, yc, yd, ye, yf]
def qaI (w0 : World) (X3 X8 qb tq cp : Nat) (V0 N4 V4 : ByteArray) (z1 z2 : Int) (sA : Option Addr) (mc : Nat) (L : List ByteArray) (o4 : Nat → Hp) (sa sb sc se sf sh sk sm sn so sp sq sr ss su sv sw sx sy sz ta tb tc td te tf tg th ti tj tk tl tm tn tp tr ts tt tu tv tw tx ty tz ua ub uc ud ue uf ug uh ui uj uk ul um un uo up uq ur us ut uu uv uw ux uy uz ya yb yc yd ye yf : Value) (l : Array Bool) (f : Act) (w : World) : Prop :=
  ∃ (b0 b1 b2 b3 b4 b5 b6 b7 b8 b9 b10 : Bool) (XP : Nat), l = #[b0, b1, b2, b3, b4, b5, b6, b7, b8, b9, b10] ∧ f = { tmps := qaT w0 X3 X8 qb tq cp V0 N4 V4 z1 z2 sA mc L o4 sa sb sc se sf sh sk sm sn so sp sq sr ss su sv sw sx sy sz ta tb tc td te tf tg th ti tj tk tl tm tn tp tr ts tt tu tv tw tx ty tz ua ub uc ud ue uf ug uh ui uj uk ul um un uo up uq ur us ut uu uv uw ux uy uz ya yb yc yd ye yf XP b0 b1 b2 b3 b4 b5 b6 b7 b8 b9 b10, defers := [] } ∧ (Below w0.heap.size w0 w) ∧ (RowAt w X3 72 #[.string V0, .int .i64 z1, .int .i64 z2, .slice sA L.length mc]) ∧ (RowAt w X8 66 #[.string N4, .string V4]) ∧ (SgAt w sA mc L) ∧ (b1 = true → Hps w (some ⟨XP, 0, none⟩) 4 4 o4)
section
variable {Q : Exit → Act → World → Prop} (w0 : World) (X3 X8 qb tq cp : Nat) (V0 N4 V4 : ByteArray) (z1 z2 : Int) (sA : Option Addr) (mc : Nat) (L : List ByteArray) (o4 : Nat → Hp) (sa sb sc se sf sh sk sm sn so sp sq sr ss su sv sw sx sy sz ta tb tc td te tf tg th ti tj tk tl tm tn tp tr ts tt tu tv tw tx ty tz ua ub uc ud ue uf ug uh ui uj uk ul um un uo up uq ur us ut uu uv uw ux uy uz ya yb yc yd ye yf : Value)
set_option maxRecDepth 20000 in
set_option maxHeartbeats 1000000 in
theorem qa_s0 (b2 b3 : Bool) (XP : Nat) (w : World) (hc4 : (4 : Int) ≤ (cp : Int)) (hB : Below w0.heap.size w0 w) (hx3 : RowAt w X3 72 #[.string V0, .int .i64 z1, .int .i64 z2, .slice sA L.length mc]) (hx8 : RowAt w X8 66 #[.string N4, .string V4]) (hsg : SgAt w sA mc L) (hhp : false = true → Hps w (some ⟨XP, 0, none⟩) 4 4 o4) :
    wpOp Tryz.prog qaO Q 0 (qaI w0 X3 X8 qb tq cp V0 N4 V4 z1 z2 sA mc L o4 sa sb sc se sf sh sk sm sn so sp sq sr ss su sv sw sx sy sz ta tb tc td te tf tg th ti tj tk tl tm tn tp tr ts tt tu tv tw tx ty tz ua ub uc ud ue uf ug uh ui uj uk ul um un uo up uq ur us ut uu uv uw ux uy uz ya yb yc yd ye yf #[true, false, b2, b3, false, false, false, false, false, false, false]) { tmps := qaT w0 X3 X8 qb tq cp V0 N4 V4 z1 z2 sA mc L o4 sa sb sc se sf sh sk sm sn so sp sq sr ss su sv sw sx sy sz ta tb tc td te tf tg th ti tj tk tl tm tn tp tr ts tt tu tv tw tx ty tz ua ub uc ud ue uf ug uh ui uj uk ul um un uo up uq ur us ut uu uv uw ux uy uz ya yb yc yd ye yf XP false false b2 b3 false false false false false false false, defers := [] } w := by
  have q0 := hx3.cell 0
  have q1 := hx3.cell 1
  have q2 := hx3.cell 2
  have q3 := hx3.cell 3
  refine wpOp_step (o := qao0) rfl (fun K hK => ?_)
  replace hK := hid hK
  simp only [qao0, qaT, selS_f]
  go_simp
  exact hK.out _ _ ⟨true, false, b2, b3, false, false, false, false, false, false, false, XP, rfl, rfl, hB, hx3, hx8, hsg, fun h => Bool.noConfusion h⟩
set_option maxRecDepth 20000 in
set_option maxHeartbeats 1000000 in
theorem qa_s1 (b2 b3 : Bool) (XP : Nat) (w : World) (hkp : ∀ wx, Below w0.heap.size w0 wx → SgAt wx sA mc L → Calls Tryz.prog 43 #[.agg #[.string V0, .int .i64 z1, .int .i64 z2, .slice sA L.length mc]] wx fun e w' => ∃ X, e = .returned (.slice (some ⟨X, 0, none⟩) 4 4) ∧ Hps w' (some ⟨X, 0, none⟩) 4 4 o4 ∧ Below wx.heap.size wx w') (hc4 : (4 : Int) ≤ (cp : Int)) (hB : Below w0.heap.size w0 w) (hx3 : RowAt w X3 72 #[.string V0, .int .i64 z1, .int .i64 z2, .slice sA L.length mc]) (hx8 : RowAt w X8 66 #[.string N4, .string V4]) (hsg : SgAt w sA mc L) (hhp : false = true → Hps w (some ⟨XP, 0, none⟩) 4 4 o4) :
    wpOp Tryz.prog qaO Q 1 (qaI w0 X3 X8 qb tq cp V0 N4 V4 z1 z2 sA mc L o4 sa sb sc se sf sh sk sm sn so sp sq sr ss su sv sw sx sy sz ta tb tc td te tf tg th ti tj tk tl tm tn tp tr ts tt tu tv tw tx ty tz ua ub uc ud ue uf ug uh ui uj uk ul um un uo up uq ur us ut uu uv uw ux uy uz ya yb yc yd ye yf #[true, true, b2, b3, false, false, false, false, false, false, false]) { tmps := qaT w0 X3 X8 qb tq cp V0 N4 V4 z1 z2 sA mc L o4 sa sb sc se sf sh sk sm sn so sp sq sr ss su sv sw sx sy sz ta tb tc td te tf tg th ti tj tk tl tm tn tp tr ts tt tu tv tw tx ty tz ua ub uc ud ue uf ug uh ui uj uk ul um un uo up uq ur us ut uu uv uw ux uy uz ya yb yc yd ye yf XP true false b2 b3 false false false false false false false, defers := [] } w := by
  refine wpOp_step (o := qao1) rfl (fun K hK => ?_)
  replace hK := hid hK
  simp only [qao1, qaT, selS_t, selS_f]
  go_simp
  refine (hkp _ hB hsg).mono ?_
  rintro e w2 ⟨X9, rfl, hh9, hb2⟩
  dsimp only
  exact hK.out _ _ ⟨true, true, b2, b3, false, false, false, false, false, false, false, X9, rfl, rfl, hB.trans (hb2.mono hB.size), RowAt.nxS hb2 hx3, RowAt.nxS hb2 hx8, hsg.below hb2, fun _ => hh9⟩
set_option maxRecDepth 20000 in
set_option maxHeartbeats 1000000 in
theorem qa_s2 (b0 b1 : Bool) (XP : Nat) (w : World) (hc4 : (4 : Int) ≤ (cp : Int)) (hB : Below w0.heap.size w0 w) (hx3 : RowAt w X3 72 #[.string V0, .int .i64 z1, .int .i64 z2, .slice sA L.length mc]) (hx8 : RowAt w X8 66 #[.string N4, .string V4]) (hsg : SgAt w sA mc L) (hhp : b1 = true → Hps w (some ⟨XP, 0, none⟩) 4 4 o4) :
    wpOp Tryz.prog qaO Q 2 (qaI w0 X3 X8 qb tq cp V0 N4 V4 z1 z2 sA mc L o4 sa sb sc se sf sh sk sm sn so sp sq sr ss su sv sw sx sy sz ta tb tc td te tf tg th ti tj tk tl tm tn tp tr ts tt tu tv tw tx ty tz ua ub uc ud ue uf ug uh ui uj uk ul um un uo up uq ur us ut uu uv uw ux uy uz ya yb yc yd ye yf #[b0, b1, true, false, false, false, false, false, false, false, false]) { tmps := qaT w0 X3 X8 qb tq cp V0 N4 V4 z1 z2 sA mc L o4 sa sb sc se sf sh sk sm sn so sp sq sr ss su sv sw sx sy sz ta tb tc td te tf tg th ti tj tk tl tm tn tp tr ts tt tu tv tw tx ty tz ua ub uc ud ue uf ug uh ui uj uk ul um un uo up uq ur us ut uu uv uw ux uy uz ya yb yc yd ye yf XP b0 b1 false false false false false false false false false, defers := [] } w := by
  refine wpOp_step (o := qao2) rfl (fun K hK => ?_)
  replace hK := hid hK
  simp only [qao2, qaT, selS_f]
  go_simp
  exact hK.out _ _ ⟨b0, b1, true, false, false, false, false, false, false, false, false, XP, rfl, rfl, hB, hx3, hx8, hsg, hhp⟩
set_option maxRecDepth 20000 in
set_option maxHeartbeats 1000000 in
theorem qa_s3 (b0 b1 : Bool) (XP : Nat) (w : World) (hc4 : (4 : Int) ≤ (cp : Int)) (hB : Below w0.heap.size w0 w) (hx3 : RowAt w X3 72 #[.string V0, .int .i64 z1, .int .i64 z2, .slice sA L.length mc]) (hx8 : RowAt w X8 66 #[.string N4, .string V4]) (hsg : SgAt w sA mc L) (hhp : b1 = true → Hps w (some ⟨XP, 0, none⟩) 4 4 o4) :
    wpOp Tryz.prog qaO Q 3 (qaI w0 X3 X8 qb tq cp V0 N4 V4 z1 z2 sA mc L o4 sa sb sc se sf sh sk sm sn so sp sq sr ss su sv sw sx sy sz ta tb tc td te tf tg th ti tj tk tl tm tn tp tr ts tt tu tv tw tx ty tz ua ub uc ud ue uf ug uh ui uj uk ul um un uo up uq ur us ut uu uv uw ux uy uz ya yb yc yd ye yf #[b0, b1, true, true, false, false, false, false, false, false, false]) { tmps := qaT w0 X3 X8 qb tq cp V0 N4 V4 z1 z2 sA mc L o4 sa sb sc se sf sh sk sm sn so sp sq sr ss su sv sw sx sy sz ta tb tc td te tf tg th ti tj tk tl tm tn tp tr ts tt tu tv tw tx ty tz ua ub uc ud ue uf ug uh ui uj uk ul um un uo up uq ur us ut uu uv uw ux uy uz ya yb yc yd ye yf XP b0 b1 true false false false false false false false false, defers := [] } w := by
  refine wpOp_step (o := qao3) rfl (fun K hK => ?_)
  replace hK := hid hK
  simp only [qao3, qaT, selS_t, selS_f]
  go_simp
  exact hK.out _ _ ⟨b0, b1, true, true, false, false, false, false, false, false, false, XP, rfl, rfl, hB, hx3, hx8, hsg, hhp⟩
set_option maxRecDepth 20000 in
set_option maxHeartbeats 1000000 in
theorem qa_s4 (XP : Nat) (w : World) (hke : ∀ wx X, Below w0.heap.size w0 wx → Hps wx (some ⟨X, 0, none⟩) 4 4 o4 → Calls Tryz.prog 94 #[.slice (some ⟨X, 0, none⟩) 4 4, .slice (some ⟨qb, tq, none⟩) 4 cp] wx fun e w' => e = .returned (.bool false) ∧ Below wx.heap.size wx w') (hc4 : (4 : Int) ≤ (cp : Int)) (hB : Below w0.heap.size w0 w) (hx3 : RowAt w X3 72 #[.string V0, .int .i64 z1, .int .i64 z2, .slice sA L.length mc]) (hx8 : RowAt w X8 66 #[.string N4, .string V4]) (hsg : SgAt w sA mc L) (hhp : true = true → Hps w (some ⟨XP, 0, none⟩) 4 4 o4) :
    wpOp Tryz.prog qaO Q 4 (qaI w0 X3 X8 qb tq cp V0 N4 V4 z1 z2 sA mc L o4 sa sb sc se sf sh sk sm sn so sp sq sr ss su sv sw sx sy sz ta tb tc td te tf tg th ti tj tk tl tm tn tp tr ts tt tu tv tw tx ty tz ua ub uc ud ue uf ug uh ui uj uk ul um un uo up uq ur us ut uu uv uw ux uy uz ya yb yc yd ye yf #[true, true, true, true, true, false, false, false, false, false, false]) { tmps := qaT w0 X3 X8 qb tq cp V0 N4 V4 z1 z2 sA mc L o4 sa sb sc se sf sh sk sm sn so sp sq sr ss su sv sw sx sy sz ta tb tc td te tf tg th ti tj tk tl tm tn tp tr ts tt tu tv tw tx ty tz ua ub uc ud ue uf ug uh ui uj uk ul um un uo up uq ur us ut uu uv uw ux uy uz ya yb yc yd ye yf XP true true true true false false false false false false false, defers := [] } w := by
  refine wpOp_step (o := qao4) rfl (fun K hK => ?_)
  replace hK := hid hK
  simp only [qao4, qaT, selS_t, selS_f]
  go_simp
  refine (hke _ _ hB (hhp rfl)).mono ?_
  rintro e w2 ⟨rfl, hb2⟩
  dsimp only
  exact hK.out _ _ ⟨true, true, true, true, true, false, false, false, false, false, false, XP, rfl, rfl, hB.trans (hb2.mono hB.size), RowAt.nxS hb2 hx3, RowAt.nxS hb2 hx8, hsg.below hb2, fun h => (hhp h).below hb2⟩
set_option maxRecDepth 20000 in
set_option maxHeartbeats 1000000 in
theorem qa_s5 (XP : Nat) (w : World) (hc4 : (4 : Int) ≤ (cp : Int)) (hB : Below w0.heap.size w0 w) (hx3 : RowAt w X3 72 #[.string V0, .int .i64 z1, .int .i64 z2, .slice sA L.length mc]) (hx8 : RowAt w X8 66 #[.string N4, .string V4]) (hsg : SgAt w sA mc L) (hhp : true = true → Hps w (some ⟨XP, 0, none⟩) 4 4 o4) :
    wpOp Tryz.prog qaO Q 5 (qaI w0 X3 X8 qb tq cp V0 N4 V4 z1 z2 sA mc L o4 sa sb sc se sf sh sk sm sn so sp sq sr ss su sv sw sx sy sz ta tb tc td te tf tg th ti tj tk tl tm tn tp tr ts tt tu tv tw tx ty tz ua ub uc ud ue uf ug uh ui uj uk ul um un uo up uq ur us ut uu uv uw ux uy uz ya yb yc yd ye yf #[true, true, true, true, true, true, false, false, false, false, false]) { tmps := qaT w0 X3 X8 qb tq cp V0 N4 V4 z1 z2 sA mc L o4 sa sb sc se sf sh sk sm sn so sp sq sr ss su sv sw sx sy sz ta tb tc td te tf tg th ti tj tk tl tm tn tp tr ts tt tu tv tw tx ty tz ua ub uc ud ue uf ug uh ui uj uk ul um un uo up uq ur us ut uu uv uw ux uy uz ya yb yc yd ye yf XP true true true true true false false false false false false, defers := [] } w := by
  refine wpOp_step (o := qao5) rfl (fun K hK => ?_)
  replace hK := hid hK
  simp only [qao5, qaT, selS_t, selS_f]
  go_simp
  exact hK.out _ _ ⟨true, true, true, true, true, true, false, false, false, false, false, XP, rfl, rfl, hB, hx3, hx8, hsg, hhp⟩
set_option maxRecDepth 20000 in
set_option maxHeartbeats 1000000 in
theorem qa_s6 (XP : Nat) (w : World) (hc4 : (4 : Int) ≤ (cp : Int)) (hB : Below w0.heap.size w0 w) (hx3 : RowAt w X3 72 #[.string V0, .int .i64 z1, .int .i64 z2, .slice sA L.length mc]) (hx8 : RowAt w X8 66 #[.string N4, .string V4]) (hsg : SgAt w sA mc L) (hhp : true = true → Hps w (some ⟨XP, 0, none⟩) 4 4 o4) :
    wpOp Tryz.prog qaO Q 6 (qaI w0 X3 X8 qb tq cp V0 N4 V4 z1 z2 sA mc L o4 sa sb sc se sf sh sk sm sn so sp sq sr ss su sv sw sx sy sz ta tb tc td te tf tg th ti tj tk tl tm tn tp tr ts tt tu tv tw tx ty tz ua ub uc ud ue uf ug uh ui uj uk ul um un uo up uq ur us ut uu uv uw ux uy uz ya yb yc yd ye yf #[true, true, true, true, true, true, true, false, false, false, false]) { tmps := qaT w0 X3 X8 qb tq cp V0 N4 V4 z1 z2 sA mc L o4 sa sb sc se sf sh sk sm sn so sp sq sr ss su sv sw sx sy sz ta tb tc td te tf tg th ti tj tk tl tm tn tp tr ts tt tu tv tw tx ty tz ua ub uc ud ue uf ug uh ui uj uk ul um un uo up uq ur us ut uu uv uw ux uy uz ya yb yc yd ye yf XP true true true true true true false false false false false, defers := [] } w := by
  refine wpOp_step (o := qao6) rfl (fun K hK => ?_)
  replace hK := hid hK
  simp only [qao6, qaT, selS_t, selS_f]
  go_simp
  exact hK.out _ _ ⟨true, true, true, true, true, true, true, false, false, false, false, XP, rfl, rfl, hB, hx3, hx8, hsg, hhp⟩
set_option maxRecDepth 20000 in
set_option maxHeartbeats 1000000 in
theorem qa_s7 (XP : Nat) (w : World) (hc4 : (4 : Int) ≤ (cp : Int)) (hB : Below w0.heap.size w0 w) (hx3 : RowAt w X3 72 #[.string V0, .int .i64 z1, .int .i64 z2, .slice sA L.length mc]) (hx8 : RowAt w X8 66 #[.string N4, .string V4]) (hsg : SgAt w sA mc L) (hhp : true = true → Hps w (some ⟨XP, 0, none⟩) 4 4 o4) :
    wpOp Tryz.prog qaO Q 7 (qaI w0 X3 X8 qb tq cp V0 N4 V4 z1 z2 sA mc L o4 sa sb sc se sf sh sk sm sn so sp sq sr ss su sv sw sx sy sz ta tb tc td te tf tg th ti tj tk tl tm tn tp tr ts tt tu tv tw tx ty tz ua ub uc ud ue uf ug uh ui uj uk ul um un uo up uq ur us ut uu uv uw ux uy uz ya yb yc yd ye yf #[true, true, true, true, true, true, true, true, false, false, false]) { tmps := qaT w0 X3 X8 qb tq cp V0 N4 V4 z1 z2 sA mc L o4 sa sb sc se sf sh sk sm sn so sp sq sr ss su sv sw sx sy sz ta tb tc td te tf tg th ti tj tk tl tm tn tp tr ts tt tu tv tw tx ty tz ua ub uc ud ue uf ug uh ui uj uk ul um un uo up uq ur us ut uu uv uw ux uy uz ya yb yc yd ye yf XP true true true true true true true false false false false, defers := [] } w := by
  refine wpOp_step (o := qao7) rfl (fun K hK => ?_)
  replace hK := hid hK
  simp only [qao7, qaT, selS_t, selS_f]
  go_simp
  exact hK.out _ _ ⟨true, true, true, true, true, true, true, true, false, false, false, XP, rfl, rfl, hB, hx3, hx8, hsg, hhp⟩
set_option maxRecDepth 20000 in
set_option maxHeartbeats 1000000 in
theorem qa_s8 (XP : Nat) (w : World) (hc4 : (4 : Int) ≤ (cp : Int)) (hB : Below w0.heap.size w0 w) (hx3 : RowAt w X3 72 #[.string V0, .int .i64 z1, .int .i64 z2, .slice sA L.length mc]) (hx8 : RowAt w X8 66 #[.string N4, .string V4]) (hsg : SgAt w sA mc L) (hhp : true = true → Hps w (some ⟨XP, 0, none⟩) 4 4 o4) :
    wpOp Tryz.prog qaO Q 8 (qaI w0 X3 X8 qb tq cp V0 N4 V4 z1 z2 sA mc L o4 sa sb sc se sf sh sk sm sn so sp sq sr ss su sv sw sx sy sz ta tb tc td te tf tg th ti tj tk tl tm tn tp tr ts tt tu tv tw tx ty tz ua ub uc ud ue uf ug uh ui uj uk ul um un uo up uq ur us ut uu uv uw ux uy uz ya yb yc yd ye yf #[true, true, true, true, true, true, true, true, true, false, false]) { tmps := qaT w0 X3 X8 qb tq cp V0 N4 V4 z1 z2 sA mc L o4 sa sb sc se sf sh sk sm sn so sp sq sr ss su sv sw sx sy sz ta tb tc td te tf tg th ti tj tk tl tm tn tp tr ts tt tu tv tw tx ty tz ua ub uc ud ue uf ug uh ui uj uk ul um un uo up uq ur us ut uu uv uw ux uy uz ya yb yc yd ye yf XP true true true true true true true true false false false, defers := [] } w := by
  have q0 := hx8.cell 0
  refine wpOp_step (o := qao8) rfl (fun K hK => ?_)
  replace hK := hid hK
  simp only [qao8, qaT, selS_t, selS_f]
  go_simp
  exact hK.out _ _ ⟨true, true, true, true, true, true, true, true, true, false, false, XP, rfl, rfl, hB, hx3, hx8, hsg, hhp⟩
set_option maxRecDepth 20000 in
set_option maxHeartbeats 1000000 in
theorem qa_s9 (XP : Nat) (w : World) (hc4 : (4 : Int) ≤ (cp : Int)) (hB : Below w0.heap.size w0 w) (hx3 : RowAt w X3 72 #[.string V0, .int .i64 z1, .int .i64 z2, .slice sA L.length mc]) (hx8 : RowAt w X8 66 #[.string N4, .string V4]) (hsg : SgAt w sA mc L) (hhp : true = true → Hps w (some ⟨XP, 0, none⟩) 4 4 o4) :
    wpOp Tryz.prog qaO Q 9 (qaI w0 X3 X8 qb tq cp V0 N4 V4 z1 z2 sA mc L o4 sa sb sc se sf sh sk sm sn so sp sq sr ss su sv sw sx sy sz ta tb tc td te tf tg th ti tj tk tl tm tn tp tr ts tt tu tv tw tx ty tz ua ub uc ud ue uf ug uh ui uj uk ul um un uo up uq ur us ut uu uv uw ux uy uz ya yb yc yd ye yf #[true, true, true, true, true, true, true, true, true, true, false]) { tmps := qaT w0 X3 X8 qb tq cp V0 N4 V4 z1 z2 sA mc L o4 sa sb sc se sf sh sk sm sn so sp sq sr ss su sv sw sx sy sz ta tb tc td te tf tg th ti tj tk tl tm tn tp tr ts tt tu tv tw tx ty tz ua ub uc ud ue uf ug uh ui uj uk ul um un uo up uq ur us ut uu uv uw ux uy uz ya yb yc yd ye yf XP true true true true true true true true true false false, defers := [] } w := by
  refine wpOp_step (o := qao9) rfl (fun K hK => ?_)
  replace hK := hid hK
  simp only [qao9, qaT, selS_t, selS_f]
  go_simp
  exact hK.out _ _ ⟨true, true, true, true, true, true, true, true, true, true, false, XP, rfl, rfl, hB, hx3, hx8, hsg, hhp⟩
set_option maxRecDepth 20000 in
set_option maxHeartbeats 1000000 in
theorem qa_s10 (XP : Nat) (w : World) (hc4 : (4 : Int) ≤ (cp : Int)) (hB : Below w0.heap.size w0 w) (hx3 : RowAt w X3 72 #[.string V0, .int .i64 z1, .int .i64 z2, .slice sA L.length mc]) (hx8 : RowAt w X8 66 #[.string N4, .string V4]) (hsg : SgAt w sA mc L) (hhp : true = true → Hps w (some ⟨XP, 0, none⟩) 4 4 o4) :
    wpOp Tryz.prog qaO Q 10 (qaI w0 X3 X8 qb tq cp V0 N4 V4 z1 z2 sA mc L o4 sa sb sc se sf sh sk sm sn so sp sq sr ss su sv sw sx sy sz ta tb tc td te tf tg th ti tj tk tl tm tn tp tr ts tt tu tv tw tx ty tz ua ub uc ud ue uf ug uh ui uj uk ul um un uo up uq ur us ut uu uv uw ux uy uz ya yb yc yd ye yf #[true, true, true, true, true, true, true, true, true, true, true]) { tmps := qaT w0 X3 X8 qb tq cp V0 N4 V4 z1 z2 sA mc L o4 sa sb sc se sf sh sk sm sn so sp sq sr ss su sv sw sx sy sz ta tb tc td te tf tg th ti tj tk tl tm tn tp tr ts tt tu tv tw tx ty tz ua ub uc ud ue uf ug uh ui uj uk ul um un uo up uq ur us ut uu uv uw ux uy uz ya yb yc yd ye yf XP true true true true true true true true true true false, defers := [] } w := by
  refine wpOp_step (o := qao10) rfl (fun K hK => ?_)
  replace hK := hid hK
  simp only [qao10, qaT, selS_t, selS_f]
  go_simp
  exact hK.out _ _ ⟨true, true, true, true, true, true, true, true, true, true, true, XP, rfl, rfl, hB, hx3, hx8, hsg, hhp⟩
set_option maxRecDepth 20000 in
set_option maxHeartbeats 2000000 in
theorem qa_step (hkp : ∀ wx, Below w0.heap.size w0 wx → SgAt wx sA mc L → Calls Tryz.prog 43 #[.agg #[.string V0, .int .i64 z1, .int .i64 z2, .slice sA L.length mc]] wx fun e w' => ∃ X, e = .returned (.slice (some ⟨X, 0, none⟩) 4 4) ∧ Hps w' (some ⟨X, 0, none⟩) 4 4 o4 ∧ Below wx.heap.size wx w') (hke : ∀ wx X, Below w0.heap.size w0 wx → Hps wx (some ⟨X, 0, none⟩) 4 4 o4 → Calls Tryz.prog 94 #[.slice (some ⟨X, 0, none⟩) 4 4, .slice (some ⟨qb, tq, none⟩) 4 cp] wx fun e w' => e = .returned (.bool false) ∧ Below wx.heap.size wx w') (hc4 : (4 : Int) ≤ (cp : Int)) (l : Array Bool) (f : Act) (w : World) (hC : Closed qaO l) (hI : qaI w0 X3 X8 qb tq cp V0 N4 V4 z1 z2 sA mc L o4 sa sb sc se sf sh sk sm sn so sp sq sr ss su sv sw sx sy sz ta tb tc td te tf tg th ti tj tk tl tm tn tp tr ts tt tu tv tw tx ty tz ua ub uc ud ue uf ug uh ui uj uk ul um un uo up uq ur us ut uu uv uw ux uy uz ya yb yc yd ye yf l f w) (i : Nat) (h0 : l.getD i true = false) (o : Oper) (ho : qaO[i]? = some o) (h1 : ∀ e ∈ o.after, Region.binds .any e = true → l.getD e.on false = true) : wpOp Tryz.prog qaO Q i (qaI w0 X3 X8 qb tq cp V0 N4 V4 z1 z2 sA mc L o4 sa sb sc se sf sh sk sm sn so sp sq sr ss su sv sw sx sy sz ta tb tc td te tf tg th ti tj tk tl tm tn tp tr ts tt tu tv tw tx ty tz ua ub uc ud ue uf ug uh ui uj uk ul um un uo up uq ur us ut uu uv uw ux uy uz ya yb yc yd ye yf (l.setIfInBounds i true)) f w := by
  obtain ⟨b0, b1, b2, b3, b4, b5, b6, b7, b8, b9, b10, XP, rfl, rfl, hB, hx3, hx8, hsg, hhp⟩ := hI
  have hi : i < 11 := by
    rcases Nat.lt_or_ge i 11 with h | h
    · exact h
    · rw [show qaO[i]? = none from Array.getElem?_eq_none h] at ho; cases ho
  rcases (by omega : i = 0 ∨ i = 1 ∨ i = 2 ∨ i = 3 ∨ i = 4 ∨ i = 5 ∨ i = 6 ∨ i = 7 ∨ i = 8 ∨ i = 9 ∨ i = 10) with rfl | rfl | rfl | rfl | rfl | rfl | rfl | rfl | rfl | rfl | rfl
  · obtain rfl : qao0 = o := Option.some.inj ho
    obtain rfl : b0 = false := h0
    obtain rfl : b1 = false := by
      cases b1 with
      | false => rfl
      | true => exact Bool.noConfusion (show false = true from hC 1 qao1 rfl rfl ⟨0, .data⟩ (by simp [qao1]) rfl)
    obtain rfl : b4 = false := by
      cases b4 with
      | false => rfl
      | true => exact Bool.noConfusion (show false = true from hC 4 qao4 rfl rfl ⟨1, .chain⟩ (by simp [qao4]) rfl)
    obtain rfl : b5 = false := by
      cases b5 with
      | false => rfl
      | true => exact Bool.noConfusion (show false = true from hC 5 qao5 rfl rfl ⟨4, .data⟩ (by simp [qao5]) rfl)
    obtain rfl : b6 = false := by
      cases b6 with
      | false => rfl
      | true => exact Bool.noConfusion (show false = true from hC 6 qao6 rfl rfl ⟨4, .chain⟩ (by simp [qao6]) rfl)
    obtain rfl : b7 = false := by
      cases b7 with
      | false => rfl
      | true => exact Bool.noConfusion (show false = true from hC 7 qao7 rfl rfl ⟨6, .guard⟩ (by simp [qao7]) rfl)
    obtain rfl : b8 = false := by
      cases b8 with
      | false => rfl
      | true => exact Bool.noConfusion (show false = true from hC 8 qao8 rfl rfl ⟨6, .guard⟩ (by simp [qao8]) rfl)
    obtain rfl : b9 = false := by
      cases b9 with
      | false => rfl
      | true => exact Bool.noConfusion (show false = true from hC 9 qao9 rfl rfl ⟨6, .guard⟩ (by simp [qao9]) rfl)
    obtain rfl : b10 = false := by
      cases b10 with
      | false => rfl
      | true => exact Bool.noConfusion (show false = true from hC 10 qao10 rfl rfl ⟨6, .data⟩ (by simp [qao10]) rfl)
    exact qa_s0 w0 X3 X8 qb tq cp V0 N4 V4 z1 z2 sA mc L o4 sa sb sc se sf sh sk sm sn so sp sq sr ss su sv sw sx sy sz ta tb tc td te tf tg th ti tj tk tl tm tn tp tr ts tt tu tv tw tx ty tz ua ub uc ud ue uf ug uh ui uj uk ul um un uo up uq ur us ut uu uv uw ux uy uz ya yb yc yd ye yf b2 b3 XP w hc4 hB hx3 hx8 hsg hhp
  · obtain rfl : qao1 = o := Option.some.inj ho
    obtain rfl : b1 = false := h0
    obtain rfl : b0 = true := h1 ⟨0, .data⟩ (by simp [qao1]) rfl
    obtain rfl : b4 = false := by
      cases b4 with
      | false => rfl
      | true => exact Bool.noConfusion (show false = true from hC 4 qao4 rfl rfl ⟨1, .chain⟩ (by simp [qao4]) rfl)
    obtain rfl : b5 = false := by
      cases b5 with
      | false => rfl
      | true => exact Bool.noConfusion (show false = true from hC 5 qao5 rfl rfl ⟨4, .data⟩ (by simp [qao5]) rfl)
    obtain rfl : b6 = false := by
      cases b6 with
      | false => rfl
      | true => exact Bool.noConfusion (show false = true from hC 6 qao6 rfl rfl ⟨4, .chain⟩ (by simp [qao6]) rfl)
    obtain rfl : b7 = false := by
      cases b7 with
      | false => rfl
      | true => exact Bool.noConfusion (show false = true from hC 7 qao7 rfl rfl ⟨6, .guard⟩ (by simp [qao7]) rfl)
    obtain rfl : b8 = false := by
      cases b8 with
      | false => rfl
      | true => exact Bool.noConfusion (show false = true from hC 8 qao8 rfl rfl ⟨6, .guard⟩ (by simp [qao8]) rfl)
    obtain rfl : b9 = false := by
      cases b9 with
      | false => rfl
      | true => exact Bool.noConfusion (show false = true from hC 9 qao9 rfl rfl ⟨6, .guard⟩ (by simp [qao9]) rfl)
    obtain rfl : b10 = false := by
      cases b10 with
      | false => rfl
      | true => exact Bool.noConfusion (show false = true from hC 10 qao10 rfl rfl ⟨6, .data⟩ (by simp [qao10]) rfl)
    exact qa_s1 w0 X3 X8 qb tq cp V0 N4 V4 z1 z2 sA mc L o4 sa sb sc se sf sh sk sm sn so sp sq sr ss su sv sw sx sy sz ta tb tc td te tf tg th ti tj tk tl tm tn tp tr ts tt tu tv tw tx ty tz ua ub uc ud ue uf ug uh ui uj uk ul um un uo up uq ur us ut uu uv uw ux uy uz ya yb yc yd ye yf b2 b3 XP w hkp hc4 hB hx3 hx8 hsg hhp
  · obtain rfl : qao2 = o := Option.some.inj ho
    obtain rfl : b2 = false := h0
    obtain rfl : b3 = false := by
      cases b3 with
      | false => rfl
      | true => exact Bool.noConfusion (show false = true from hC 3 qao3 rfl rfl ⟨2, .data⟩ (by simp [qao3]) rfl)
    obtain rfl : b4 = false := by
      cases b4 with
      | false => rfl
      | true => exact Bool.noConfusion (show false = true from hC 4 qao4 rfl rfl ⟨3, .data⟩ (by simp [qao4]) rfl)
    obtain rfl : b5 = false := by
      cases b5 with
      | false => rfl
      | true => exact Bool.noConfusion (show false = true from hC 5 qao5 rfl rfl ⟨4, .data⟩ (by simp [qao5]) rfl)
    obtain rfl : b6 = false := by
      cases b6 with
      | false => rfl
      | true => exact Bool.noConfusion (show false = true from hC 6 qao6 rfl rfl ⟨4, .chain⟩ (by simp [qao6]) rfl)
    obtain rfl : b7 = false := by
      cases b7 with
      | false => rfl
      | true => exact Bool.noConfusion (show false = true from hC 7 qao7 rfl rfl ⟨6, .guard⟩ (by simp [qao7]) rfl)
    obtain rfl : b8 = false := by
      cases b8 with
      | false => rfl
      | true => exact Bool.noConfusion (show false = true from hC 8 qao8 rfl rfl ⟨6, .guard⟩ (by simp [qao8]) rfl)
    obtain rfl : b9 = false := by
      cases b9 with
      | false => rfl
      | true => exact Bool.noConfusion (show false = true from hC 9 qao9 rfl rfl ⟨6, .guard⟩ (by simp [qao9]) rfl)
    obtain rfl : b10 = false := by
      cases b10 with
      | false => rfl
      | true => exact Bool.noConfusion (show false = true from hC 10 qao10 rfl rfl ⟨6, .data⟩ (by simp [qao10]) rfl)
    exact qa_s2 w0 X3 X8 qb tq cp V0 N4 V4 z1 z2 sA mc L o4 sa sb sc se sf sh sk sm sn so sp sq sr ss su sv sw sx sy sz ta tb tc td te tf tg th ti tj tk tl tm tn tp tr ts tt tu tv tw tx ty tz ua ub uc ud ue uf ug uh ui uj uk ul um un uo up uq ur us ut uu uv uw ux uy uz ya yb yc yd ye yf b0 b1 XP w hc4 hB hx3 hx8 hsg hhp
  · obtain rfl : qao3 = o := Option.some.inj ho
    obtain rfl : b3 = false := h0
    obtain rfl : b2 = true := h1 ⟨2, .data⟩ (by simp [qao3]) rfl
    obtain rfl : b4 = false := by
      cases b4 with
      | false => rfl
      | true => exact Bool.noConfusion (show false = true from hC 4 qao4 rfl rfl ⟨3, .data⟩ (by simp [qao4]) rfl)
    obtain rfl : b5 = false := by
      cases b5 with
      | false => rfl
      | true => exact Bool.noConfusion (show false = true from hC 5 qao5 rfl rfl ⟨4, .data⟩ (by simp [qao5]) rfl)
    obtain rfl : b6 = false := by
      cases b6 with
      | false => rfl
      | true => exact Bool.noConfusion (show false = true from hC 6 qao6 rfl rfl ⟨4, .chain⟩ (by simp [qao6]) rfl)
    obtain rfl : b7 = false := by
      cases b7 with
      | false => rfl
      | true => exact Bool.noConfusion (show false = true from hC 7 qao7 rfl rfl ⟨6, .guard⟩ (by simp [qao7]) rfl)
    obtain rfl : b8 = false := by
      cases b8 with
      | false => rfl
      | true => exact Bool.noConfusion (show false = true from hC 8 qao8 rfl rfl ⟨6, .guard⟩ (by simp [qao8]) rfl)
    obtain rfl : b9 = false := by
      cases b9 with
      | false => rfl
      | true => exact Bool.noConfusion (show false = true from hC 9 qao9 rfl rfl ⟨6, .guard⟩ (by simp [qao9]) rfl)
    obtain rfl : b10 = false := by
      cases b10 with
      | false => rfl
      | true => exact Bool.noConfusion (show false = true from hC 10 qao10 rfl rfl ⟨6, .data⟩ (by simp [qao10]) rfl)
    exact qa_s3 w0 X3 X8 qb tq cp V0 N4 V4 z1 z2 sA mc L o4 sa sb sc se sf sh sk sm sn so sp sq sr ss su sv sw sx sy sz ta tb tc td te tf tg th ti tj tk tl tm tn tp tr ts tt tu tv tw tx ty tz ua ub uc ud ue uf ug uh ui uj uk ul um un uo up uq ur us ut uu uv uw ux uy uz ya yb yc yd ye yf b0 b1 XP w hc4 hB hx3 hx8 hsg hhp
  · obtain rfl : qao4 = o := Option.some.inj ho
    obtain rfl : b4 = false := h0
    obtain rfl : b3 = true := h1 ⟨3, .data⟩ (by simp [qao4]) rfl
    obtain rfl : b1 = true := h1 ⟨1, .chain⟩ (by simp [qao4]) rfl
    obtain rfl : b2 = true := hC 3 qao3 rfl rfl ⟨2, .data⟩ (by simp [qao3]) rfl
    obtain rfl : b0 = true := hC 1 qao1 rfl rfl ⟨0, .data⟩ (by simp [qao1]) rfl
    obtain rfl : b5 = false := by
      cases b5 with
      | false => rfl
      | true => exact Bool.noConfusion (show false = true from hC 5 qao5 rfl rfl ⟨4, .data⟩ (by simp [qao5]) rfl)
    obtain rfl : b6 = false := by
      cases b6 with
      | false => rfl
      | true => exact Bool.noConfusion (show false = true from hC 6 qao6 rfl rfl ⟨4, .chain⟩ (by simp [qao6]) rfl)
    obtain rfl : b7 = false := by
      cases b7 with
      | false => rfl
      | true => exact Bool.noConfusion (show false = true from hC 7 qao7 rfl rfl ⟨6, .guard⟩ (by simp [qao7]) rfl)
    obtain rfl : b8 = false := by
      cases b8 with
      | false => rfl
      | true => exact Bool.noConfusion (show false = true from hC 8 qao8 rfl rfl ⟨6, .guard⟩ (by simp [qao8]) rfl)
    obtain rfl : b9 = false := by
      cases b9 with
      | false => rfl
      | true => exact Bool.noConfusion (show false = true from hC 9 qao9 rfl rfl ⟨6, .guard⟩ (by simp [qao9]) rfl)
    obtain rfl : b10 = false := by
      cases b10 with
      | false => rfl
      | true => exact Bool.noConfusion (show false = true from hC 10 qao10 rfl rfl ⟨6, .data⟩ (by simp [qao10]) rfl)
    exact qa_s4 w0 X3 X8 qb tq cp V0 N4 V4 z1 z2 sA mc L o4 sa sb sc se sf sh sk sm sn so sp sq sr ss su sv sw sx sy sz ta tb tc td te tf tg th ti tj tk tl tm tn tp tr ts tt tu tv tw tx ty tz ua ub uc ud ue uf ug uh ui uj uk ul um un uo up uq ur us ut uu uv uw ux uy uz ya yb yc yd ye yf  XP w hke hc4 hB hx3 hx8 hsg hhp
  · obtain rfl : qao5 = o := Option.some.inj ho
    obtain rfl : b5 = false := h0
    obtain rfl : b4 = true := h1 ⟨4, .data⟩ (by simp [qao5]) rfl
    obtain rfl : b1 = true := hC 4 qao4 rfl rfl ⟨1, .chain⟩ (by simp [qao4]) rfl
    obtain rfl : b3 = true := hC 4 qao4 rfl rfl ⟨3, .data⟩ (by simp [qao4]) rfl
    obtain rfl : b2 = true := hC 3 qao3 rfl rfl ⟨2, .data⟩ (by simp [qao3]) rfl
    obtain rfl : b0 = true := hC 1 qao1 rfl rfl ⟨0, .data⟩ (by simp [qao1]) rfl
    obtain rfl : b6 = false := by
      cases b6 with
      | false => rfl
      | true => exact Bool.noConfusion (show false = true from hC 6 qao6 rfl rfl ⟨5, .data⟩ (by simp [qao6]) rfl)
    obtain rfl : b7 = false := by
      cases b7 with
      | false => rfl
      | true => exact Bool.noConfusion (show false = true from hC 7 qao7 rfl rfl ⟨6, .guard⟩ (by simp [qao7]) rfl)
    obtain rfl : b8 = false := by
      cases b8 with
      | false => rfl
      | true => exact Bool.noConfusion (show false = true from hC 8 qao8 rfl rfl ⟨6, .guard⟩ (by simp [qao8]) rfl)
    obtain rfl : b9 = false := by
      cases b9 with
      | false => rfl
      | true => exact Bool.noConfusion (show false = true from hC 9 qao9 rfl rfl ⟨6, .guard⟩ (by simp [qao9]) rfl)
    obtain rfl : b10 = false := by
      cases b10 with
      | false => rfl
      | true => exact Bool.noConfusion (show false = true from hC 10 qao10 rfl rfl ⟨6, .data⟩ (by simp [qao10]) rfl)
    exact qa_s5 w0 X3 X8 qb tq cp V0 N4 V4 z1 z2 sA mc L o4 sa sb sc se sf sh sk sm sn so sp sq sr ss su sv sw sx sy sz ta tb tc td te tf tg th ti tj tk tl tm tn tp tr ts tt tu tv tw tx ty tz ua ub uc ud ue uf ug uh ui uj uk ul um un uo up uq ur us ut uu uv uw ux uy uz ya yb yc yd ye yf  XP w hc4 hB hx3 hx8 hsg hhp
  · obtain rfl : qao6 = o := Option.some.inj ho
    obtain rfl : b6 = false := h0
    obtain rfl : b5 = true := h1 ⟨5, .data⟩ (by simp [qao6]) rfl
    obtain rfl : b4 = true := h1 ⟨4, .chain⟩ (by simp [qao6]) rfl
    obtain rfl : b1 = true := hC 4 qao4 rfl rfl ⟨1, .chain⟩ (by simp [qao4]) rfl
    obtain rfl : b3 = true := hC 4 qao4 rfl rfl ⟨3, .data⟩ (by simp [qao4]) rfl
    obtain rfl : b2 = true := hC 3 qao3 rfl rfl ⟨2, .data⟩ (by simp [qao3]) rfl
    obtain rfl : b0 = true := hC 1 qao1 rfl rfl ⟨0, .data⟩ (by simp [qao1]) rfl
    obtain rfl : b7 = false := by
      cases b7 with
      | false => rfl
      | true => exact Bool.noConfusion (show false = true from hC 7 qao7 rfl rfl ⟨6, .guard⟩ (by simp [qao7]) rfl)
    obtain rfl : b8 = false := by
      cases b8 with
      | false => rfl
      | true => exact Bool.noConfusion (show false = true from hC 8 qao8 rfl rfl ⟨6, .guard⟩ (by simp [qao8]) rfl)
    obtain rfl : b9 = false := by
      cases b9 with
      | false => rfl
      | true => exact Bool.noConfusion (show false = true from hC 9 qao9 rfl rfl ⟨6, .guard⟩ (by simp [qao9]) rfl)
    obtain rfl : b10 = false := by
      cases b10 with
      | false => rfl
      | true => exact Bool.noConfusion (show false = true from hC 10 qao10 rfl rfl ⟨6, .data⟩ (by simp [qao10]) rfl)
    exact qa_s6 w0 X3 X8 qb tq cp V0 N4 V4 z1 z2 sA mc L o4 sa sb sc se sf sh sk sm sn so sp sq sr ss su sv sw sx sy sz ta tb tc td te tf tg th ti tj tk tl tm tn tp tr ts tt tu tv tw tx ty tz ua ub uc ud ue uf ug uh ui uj uk ul um un uo up uq ur us ut uu uv uw ux uy uz ya yb yc yd ye yf  XP w hc4 hB hx3 hx8 hsg hhp
  · obtain rfl : qao7 = o := Option.some.inj ho
    obtain rfl : b7 = false := h0
    obtain rfl : b6 = true := h1 ⟨6, .guard⟩ (by simp [qao7]) rfl
    obtain rfl : b4 = true := hC 6 qao6 rfl rfl ⟨4, .chain⟩ (by simp [qao6]) rfl
    obtain rfl : b5 = true := hC 6 qao6 rfl rfl ⟨5, .data⟩ (by simp [qao6]) rfl
    obtain rfl : b1 = true := hC 4 qao4 rfl rfl ⟨1, .chain⟩ (by simp [qao4]) rfl
    obtain rfl : b3 = true := hC 4 qao4 rfl rfl ⟨3, .data⟩ (by simp [qao4]) rfl
    obtain rfl : b2 = true := hC 3 qao3 rfl rfl ⟨2, .data⟩ (by simp [qao3]) rfl
    obtain rfl : b0 = true := hC 1 qao1 rfl rfl ⟨0, .data⟩ (by simp [qao1]) rfl
    obtain rfl : b8 = false := by
      cases b8 with
      | false => rfl
      | true => exact Bool.noConfusion (show false = true from hC 8 qao8 rfl rfl ⟨7, .data⟩ (by simp [qao8]) rfl)
    obtain rfl : b9 = false := by
      cases b9 with
      | false => rfl
      | true => exact Bool.noConfusion (show false = true from hC 9 qao9 rfl rfl ⟨8, .data⟩ (by simp [qao9]) rfl)
    obtain rfl : b10 = false := by
      cases b10 with
      | false => rfl
      | true => exact Bool.noConfusion (show false = true from hC 10 qao10 rfl rfl ⟨9, .data⟩ (by simp [qao10]) rfl)
    exact qa_s7 w0 X3 X8 qb tq cp V0 N4 V4 z1 z2 sA mc L o4 sa sb sc se sf sh sk sm sn so sp sq sr ss su sv sw sx sy sz ta tb tc td te tf tg th ti tj tk tl tm tn tp tr ts tt tu tv tw tx ty tz ua ub uc ud ue uf ug uh ui uj uk ul um un uo up uq ur us ut uu uv uw ux uy uz ya yb yc yd ye yf  XP w hc4 hB hx3 hx8 hsg hhp
  · obtain rfl : qao8 = o := Option.some.inj ho
    obtain rfl : b8 = false := h0
    obtain rfl : b7 = true := h1 ⟨7, .data⟩ (by simp [qao8]) rfl
    obtain rfl : b6 = true := h1 ⟨6, .guard⟩ (by simp [qao8]) rfl
    obtain rfl : b4 = true := hC 6 qao6 rfl rfl ⟨4, .chain⟩ (by simp [qao6]) rfl
    obtain rfl : b5 = true := hC 6 qao6 rfl rfl ⟨5, .data⟩ (by simp [qao6]) rfl
    obtain rfl : b1 = true := hC 4 qao4 rfl rfl ⟨1, .chain⟩ (by simp [qao4]) rfl
    obtain rfl : b3 = true := hC 4 qao4 rfl rfl ⟨3, .data⟩ (by simp [qao4]) rfl
    obtain rfl : b2 = true := hC 3 qao3 rfl rfl ⟨2, .data⟩ (by simp [qao3]) rfl
    obtain rfl : b0 = true := hC 1 qao1 rfl rfl ⟨0, .data⟩ (by simp [qao1]) rfl
    obtain rfl : b9 = false := by
      cases b9 with
      | false => rfl
      | true => exact Bool.noConfusion (show false = true from hC 9 qao9 rfl rfl ⟨8, .data⟩ (by simp [qao9]) rfl)
    obtain rfl : b10 = false := by
      cases b10 with
      | false => rfl
      | true => exact Bool.noConfusion (show false = true from hC 10 qao10 rfl rfl ⟨9, .data⟩ (by simp [qao10]) rfl)
    exact qa_s8 w0 X3 X8 qb tq cp V0 N4 V4 z1 z2 sA mc L o4 sa sb sc se sf sh sk sm sn so sp sq sr ss su sv sw sx sy sz ta tb tc td te tf tg th ti tj tk tl tm tn tp tr ts tt tu tv tw tx ty tz ua ub uc ud ue uf ug uh ui uj uk ul um un uo up uq ur us ut uu uv uw ux uy uz ya yb yc yd ye yf  XP w hc4 hB hx3 hx8 hsg hhp
  · obtain rfl : qao9 = o := Option.some.inj ho
    obtain rfl : b9 = false := h0
    obtain rfl : b8 = true := h1 ⟨8, .data⟩ (by simp [qao9]) rfl
    obtain rfl : b6 = true := h1 ⟨6, .guard⟩ (by simp [qao9]) rfl
    obtain rfl : b7 = true := hC 8 qao8 rfl rfl ⟨7, .data⟩ (by simp [qao8]) rfl
    obtain rfl : b4 = true := hC 6 qao6 rfl rfl ⟨4, .chain⟩ (by simp [qao6]) rfl
    obtain rfl : b5 = true := hC 6 qao6 rfl rfl ⟨5, .data⟩ (by simp [qao6]) rfl
    obtain rfl : b1 = true := hC 4 qao4 rfl rfl ⟨1, .chain⟩ (by simp [qao4]) rfl
    obtain rfl : b3 = true := hC 4 qao4 rfl rfl ⟨3, .data⟩ (by simp [qao4]) rfl
    obtain rfl : b2 = true := hC 3 qao3 rfl rfl ⟨2, .data⟩ (by simp [qao3]) rfl
    obtain rfl : b0 = true := hC 1 qao1 rfl rfl ⟨0, .data⟩ (by simp [qao1]) rfl
    obtain rfl : b10 = false := by
      cases b10 with
      | false => rfl
      | true => exact Bool.noConfusion (show false = true from hC 10 qao10 rfl rfl ⟨9, .data⟩ (by simp [qao10]) rfl)
    exact qa_s9 w0 X3 X8 qb tq cp V0 N4 V4 z1 z2 sA mc L o4 sa sb sc se sf sh sk sm sn so sp sq sr ss su sv sw sx sy sz ta tb tc td te tf tg th ti tj tk tl tm tn tp tr ts tt tu tv tw tx ty tz ua ub uc ud ue uf ug uh ui uj uk ul um un uo up uq ur us ut uu uv uw ux uy uz ya yb yc yd ye yf  XP w hc4 hB hx3 hx8 hsg hhp
  · obtain rfl : qao10 = o := Option.some.inj ho
    obtain rfl : b10 = false := h0
    obtain rfl : b9 = true := h1 ⟨9, .data⟩ (by simp [qao10]) rfl
    obtain rfl : b6 = true := h1 ⟨6, .data⟩ (by simp [qao10]) rfl
    obtain rfl : b8 = true := hC 9 qao9 rfl rfl ⟨8, .data⟩ (by simp [qao9]) rfl
    obtain rfl : b7 = true := hC 8 qao8 rfl rfl ⟨7, .data⟩ (by simp [qao8]) rfl
    obtain rfl : b4 = true := hC 6 qao6 rfl rfl ⟨4, .chain⟩ (by simp [qao6]) rfl
    obtain rfl : b5 = true := hC 6 qao6 rfl rfl ⟨5, .data⟩ (by simp [qao6]) rfl
    obtain rfl : b1 = true := hC 4 qao4 rfl rfl ⟨1, .chain⟩ (by simp [qao4]) rfl
    obtain rfl : b3 = true := hC 4 qao4 rfl rfl ⟨3, .data⟩ (by simp [qao4]) rfl
    obtain rfl : b2 = true := hC 3 qao3 rfl rfl ⟨2, .data⟩ (by simp [qao3]) rfl
    obtain rfl : b0 = true := hC 1 qao1 rfl rfl ⟨0, .data⟩ (by simp [qao1]) rfl
    exact qa_s10 w0 X3 X8 qb tq cp V0 N4 V4 z1 z2 sA mc L o4 sa sb sc se sf sh sk sm sn so sp sq sr ss su sv sw sx sy sz ta tb tc td te tf tg th ti tj tk tl tm tn tp tr ts tt tu tv tw tx ty tz ua ub uc ud ue uf ug uh ui uj uk ul um un uo up uq ur us ut uu uv uw ux uy uz ya yb yc yd ye yf  XP w hc4 hB hx3 hx8 hsg hhp
end
set_option maxRecDepth 20000 in
set_option maxHeartbeats 4000000 in
theorem qa_wp {Q : Exit → Act → World → Prop} {rid : Nat} (w0 : World) (X3 X8 qb tq cp : Nat) (V0 N4 V4 : ByteArray) (z1 z2 : Int) (sA : Option Addr) (mc : Nat) (L : List ByteArray) (o4 : Nat → Hp) {sa sb sc se sf sh sk sm sn so sp sq sr ss su sv sw sx sy sz ta tb tc td te tf tg th ti tj tk tl tm tn tp tr ts tt tu tv tw tx ty tz ua ub uc ud ue uf ug uh ui uj uk ul um un uo up uq ur us ut uu uv uw ux uy uz ya yb yc yd ye yf : Value} (w : World) (hB : Below w0.heap.size w0 w) (hx3 : RowAt w X3 72 #[.string V0, .int .i64 z1, .int .i64 z2, .slice sA L.length mc]) (hx8 : RowAt w X8 66 #[.string N4, .string V4]) (hsg : SgAt w sA mc L) (hkp : ∀ wx, Below w0.heap.size w0 wx → SgAt wx sA mc L → Calls Tryz.prog 43 #[.agg #[.string V0, .int .i64 z1, .int .i64 z2, .slice sA L.length mc]] wx fun e w' => ∃ X, e = .returned (.slice (some ⟨X, 0, none⟩) 4 4) ∧ Hps w' (some ⟨X, 0, none⟩) 4 4 o4 ∧ Below wx.heap.size wx w') (hke : ∀ wx X, Below w0.heap.size w0 wx → Hps wx (some ⟨X, 0, none⟩) 4 4 o4 → Calls Tryz.prog 94 #[.slice (some ⟨X, 0, none⟩) 4 4, .slice (some ⟨qb, tq, none⟩) 4 cp] wx fun e w' => e = .returned (.bool false) ∧ Below wx.heap.size wx w') (hc4 : (4 : Int) ≤ (cp : Int))
    (fin : ∀ (XP : Nat) (w' : World), (Below w0.heap.size w0 w') → (RowAt w' X3 72 #[.string V0, .int .i64 z1, .int .i64 z2, .slice sA L.length mc]) → (RowAt w' X8 66 #[.string N4, .string V4]) → (SgAt w' sA mc L) → (∀ wx, Below w0.heap.size w0 wx → SgAt wx sA mc L → Calls Tryz.prog 43 #[.agg #[.string V0, .int .i64 z1, .int .i64 z2, .slice sA L.length mc]] wx fun e w' => ∃ X, e = .returned (.slice (some ⟨X, 0, none⟩) 4 4) ∧ Hps w' (some ⟨X, 0, none⟩) 4 4 o4 ∧ Below wx.heap.size wx w') → (∀ wx X, Below w0.heap.size w0 wx → Hps wx (some ⟨X, 0, none⟩) 4 4 o4 → Calls Tryz.prog 94 #[.slice (some ⟨X, 0, none⟩) 4 4, .slice (some ⟨qb, tq, none⟩) 4 cp] wx fun e w' => e = .returned (.bool false) ∧ Below wx.heap.size wx w') → ((4 : Int) ≤ (cp : Int)) → (Hps w' (some ⟨XP, 0, none⟩) 4 4 o4) → Q .normal { tmps := #[sa, sb, sc, .pointer (some ⟨X3, 0, none⟩), se, sf, sh, .slice (some ⟨qb, tq, none⟩) 5 cp, .pointer (some ⟨X8, 0, none⟩), sk, sm, sn, so, sp, sq, sr, ss, su, sv, sw, sx, sy, sz, ta, tb, tc, td, te, tf, tg, th, ti, tj, tk, tl, tm, tn, tp, tr, ts, tt, tu, .agg #[.string V0, .int .i64 z1, .int .i64 z2, .slice sA L.length mc], .slice (some ⟨XP, 0, none⟩) 4 4, .slice (some ⟨qb, tq, none⟩) 5 cp, .slice (some ⟨qb, tq, none⟩) 4 cp, .bool false, .bool true, .bool true, undef, undef, undef, .bool true, ug, uh, ui, uj, uk, ul, um, un, uo, up, uq, ur, us, ut, uu, uv, uw, ux, uy, uz, ya, yb, yc, yd, ye, yf], defers := [] } w') :
    (Code.region rid qaO true).wp Tryz.prog Q { tmps := #[sa, sb, sc, .pointer (some ⟨X3, 0, none⟩), se, sf, sh, .slice (some ⟨qb, tq, none⟩) 5 cp, .pointer (some ⟨X8, 0, none⟩), sk, sm, sn, so, sp, sq, sr, ss, su, sv, sw, sx, sy, sz, ta, tb, tc, td, te, tf, tg, th, ti, tj, tk, tl, tm, tn, tp, tr, ts, tt, tu, tv, tw, tx, ty, tz, ua, ub, uc, ud, ue, uf, ug, uh, ui, uj, uk, ul, um, un, uo, up, uq, ur, us, ut, uu, uv, uw, ux, uy, uz, ya, yb, yc, yd, ye, yf], defers := [] } w := by
  refine wp_region_inv (ops := qaO) (qaI w0 X3 X8 qb tq cp V0 N4 V4 z1 z2 sA mc L o4 sa sb sc se sf sh sk sm sn so sp sq sr ss su sv sw sx sy sz ta tb tc td te tf tg th ti tj tk tl tm tn tp tr ts tt tu tv tw tx ty tz ua ub uc ud ue uf ug uh ui uj uk ul um un uo up uq ur us ut uu uv uw ux uy uz ya yb yc yd ye yf) (by kernel_rfl) (by kernel_rfl) (fun l f v hI => ?_) (fun l f v hC hI i h0 o ho h1 => qa_step w0 X3 X8 qb tq cp V0 N4 V4 z1 z2 sA mc L o4 sa sb sc se sf sh sk sm sn so sp sq sr ss su sv sw sx sy sz ta tb tc td te tf tg th ti tj tk tl tm tn tp tr ts tt tu tv tw tx ty tz ua ub uc ud ue uf ug uh ui uj uk ul um un uo up uq ur us ut uu uv uw ux uy uz ya yb yc yd ye yf hkp hke hc4 l f v hC hI i h0 o ho h1) (fun l f v hI hall => ?_) ?_
  · obtain ⟨_, _, _, _, _, _, _, _, _, _, _, _, rfl, _⟩ := hI; rfl
  · obtain ⟨b0, b1, b2, b3, b4, b5, b6, b7, b8, b9, b10, XP, rfl, rfl, hB, hx3, hx8, hsg, hhp⟩ := hI
    obtain rfl : b0 = true := hall 0 (by simp)
    obtain rfl : b1 = true := hall 1 (by simp)
    obtain rfl : b2 = true := hall 2 (by simp)
    obtain rfl : b3 = true := hall 3 (by simp)
    obtain rfl : b4 = true := hall 4 (by simp)
    obtain rfl : b5 = true := hall 5 (by simp)
    obtain rfl : b6 = true := hall 6 (by simp)
    obtain rfl : b7 = true := hall 7 (by simp)
    obtain rfl : b8 = true := hall 8 (by simp)
    obtain rfl : b9 = true := hall 9 (by simp)
    obtain rfl : b10 = true := hall 10 (by simp)
    exact fin XP v hB hx3 hx8 hsg hkp hke hc4 (hhp rfl)
  · exact ⟨false, false, false, false, false, false, false, false, false, false, false, 0, rfl, rfl, hB.drew, hx3.drew, hx8.drew, hsg.below ((Below.refl _ _).drew), fun h => Bool.noConfusion h⟩
def qbo0 : Oper := { dst := some 42, op := Op.load 72 (Operand.tmp 3), type := 72, pos := "l10_request.go:475", after := #[], guard := none }
def qbo1 : Oper := { dst := some 43, op := Op.call { callee := Callee.value (Operand.func 43), args := #[Operand.tmp 42], argTypes := #[72] }, type := 23, pos := "l10_request.go:475", after := #[{ on := 0, ground := Ground.data }], guard := none }
def qbo2 : Oper := { dst := some 44, op := Op.move (Operand.tmp 7), type := 23, pos := "l10_request.go:475", after := #[], guard := none }
def qbo3 : Oper := { dst := some 45, op := Op.slice 23 (Operand.tmp 44) none (some (Operand.const (Value.int IntKind.i64 4))) none, type := 23, pos := "l10_request.go:475", after := #[{ on := 2, ground := Ground.data }], guard := none }
def qbo4 : Oper := { dst := some 46, op := Op.call { callee := Callee.value (Operand.func 94), args := #[Operand.tmp 43, Operand.tmp 45], argTypes := #[23, 23] }, type := 4, pos := "l10_request.go:475", after := #[{ on := 1, ground := Ground.data }, { on := 3, ground := Ground.data }, { on := 1, ground := Ground.chain }], guard := none }
def qbo5 : Oper := { dst := some 47, op := Op.unOp UnOp.not 4 (Operand.tmp 46), type := 4, pos := "l10_request.go:475", after := #[{ on := 4, ground := Ground.data }], guard := none }
def qbo6 : Oper := { dst := some 48, op := Op.move (Operand.tmp 47), type := 4, pos := "l10_request.go:475", after := #[{ on := 5, ground := Ground.data }, { on := 4, ground := Ground.chain }], guard := none }
def qbo7 : Oper := { dst := some 49, op := Op.fieldAddr 66 (Operand.tmp 8) 0, type := 0, pos := "l10_request.go:475", after := #[{ on := 6, ground := Ground.guard }], guard := some (6, false) }
def qbo8 : Oper := { dst := some 50, op := Op.load 9 (Operand.tmp 49), type := 9, pos := "l10_request.go:475", after := #[{ on := 7, ground := Ground.data }, { on := 6, ground := Ground.guard }], guard := some (6, false) }
def qbo9 : Oper := { dst := some 51, op := Op.binOp BinOp.neq 9 (Operand.tmp 50) (Operand.const (Value.string { data := #[120, 45, 115, 117, 109] })) 9, type := 4, pos := "l10_request.go:475", after := #[{ on := 8, ground := Ground.data }, { on := 6, ground := Ground.guard }], guard := some (6, false) }
def qbo10 : Oper := { dst := some 52, op := Op.pick (Operand.tmp 48) (Operand.const (Value.bool true)) (Operand.tmp 51), type := 4, pos := "l10_request.go:475", after := #[{ on := 6, ground := Ground.data }, { on := 9, ground := Ground.data }], guard := none }
def qbO : Array Oper := #[qbo0, qbo1, qbo2, qbo3, qbo4, qbo5, qbo6, qbo7, qbo8, qbo9, qbo10]
def qbT (w0 : World) (X3 X8 qb tq cp : Nat) (V0 N4 V4 : ByteArray) (z1 z2 : Int) (sA : Option Addr) (mc : Nat) (L : List ByteArray) (o4 : Nat → Hp) (sa sb sc se sf sh sk sm sn so sp sq sr ss su sv sw sx sy sz ta tb tc td te tf tg th ti tj tk tl tm tn tp tr ts tt tu tv tw tx ty tz ua ub uc ud ue uf ug uh ui uj uk ul um un uo up uq ur us ut uu uv uw ux uy uz ya yb yc yd ye yf : Value) (XP : Nat) (b0 b1 b2 b3 b4 b5 b6 b7 b8 b9 b10 : Bool) : Array Value := #[sa, sb, sc, .pointer (some ⟨X3, 0, none⟩), se, sf, sh, .slice (some ⟨qb, tq, none⟩) 5 cp, .pointer (some ⟨X8, 0, none⟩), sk, sm, sn, so, sp, sq, sr, ss, su, sv, sw, sx, sy, sz, ta, tb, tc, td, te, tf, tg, th, ti, tj, tk, tl, tm, tn, tp, tr, ts, tt, tu, selS b0 (.agg #[.string V0, .int .i64 z1, .int .i64 z2, .slice sA L.length mc]) (tv), selS b1 (.slice (some ⟨XP, 0, none⟩) 4 4) (tw), selS b2 (.slice (some ⟨qb, tq, none⟩) 5 cp) (tx), selS b3 (.slice (some ⟨qb, tq, none⟩) 4 cp) (ty), selS b4 (.bool true) (tz), selS b5 (.bool false) (ua), selS b6 (.bool false) (ub), selS b7 (.pointer (some ⟨X8, 0, none⟩)) (uc), selS b8 (.string N4) (ud), selS b9 (.bool false) (ue), selS b10 (.bool false) (uf), ug, uh, ui, uj, uk, ul, um, un, uo, up, uq, ur, us, ut, uu, uv, uw, ux, uy, uz, ya, yb, yc, yd, ye, yf]
def qbI (w0 : World) (X3 X8 qb tq cp : Nat) (V0 N4 V4 : ByteArray) (z1 z2 : Int) (sA : Option Addr) (mc : Nat) (L : List ByteArray) (o4 : Nat → Hp) (sa sb sc se sf sh sk sm sn so sp sq sr ss su sv sw sx sy sz ta tb tc td te tf tg th ti tj tk tl tm tn tp tr ts tt tu tv tw tx ty tz ua ub uc ud ue uf ug uh ui uj uk ul um un uo up uq ur us ut uu uv uw ux uy uz ya yb yc yd ye yf : Value) (l : Array Bool) (f : Act) (w : World) : Prop :=
  ∃ (b0 b1 b2 b3 b4 b5 b6 b7 b8 b9 b10 : Bool) (XP : Nat), l = #[b0, b1, b2, b3, b4, b5, b6, b7, b8, b9, b10] ∧ f = { tmps := qbT w0 X3 X8 qb tq cp V0 N4 V4 z1 z2 sA mc L o4 sa sb sc se sf sh sk sm sn so sp sq sr ss su sv sw sx sy sz ta tb tc td te tf tg th ti tj tk tl tm tn tp tr ts tt tu tv tw tx ty tz ua ub uc ud ue uf ug uh ui uj uk ul um un uo up uq ur us ut uu uv uw ux uy uz ya yb yc yd ye yf XP b0 b1 b2 b3 b4 b5 b6 b7 b8 b9 b10, defers := [] } ∧ (Below w0.heap.size w0 w) ∧ (RowAt w X3 72 #[.string V0, .int .i64 z1, .int .i64 z2, .slice sA L.length mc]) ∧ (RowAt w X8 66 #[.string N4, .string V4]) ∧ (SgAt w sA mc L) ∧ (b1 = true → Hps w (some ⟨XP, 0, none⟩) 4 4 o4)
section
variable {Q : Exit → Act → World → Prop} (w0 : World) (X3 X8 qb tq cp : Nat) (V0 N4 V4 : ByteArray) (z1 z2 : Int) (sA : Option Addr) (mc : Nat) (L : List ByteArray) (o4 : Nat → Hp) (sa sb sc se sf sh sk sm sn so sp sq sr ss su sv sw sx sy sz ta tb tc td te tf tg th ti tj tk tl tm tn tp tr ts tt tu tv tw tx ty tz ua ub uc ud ue uf ug uh ui uj uk ul um un uo up uq ur us ut uu uv uw ux uy uz ya yb yc yd ye yf : Value)
set_option maxRecDepth 20000 in
set_option maxHeartbeats 1000000 in
theorem qb_s0 (b2 b3 : Bool) (XP : Nat) (w : World) (hc4 : (4 : Int) ≤ (cp : Int)) (hn1 : (N4.toList == [120, 45, 115, 117, 109]) = true) (hn2 : (N4.toList == (⟨#[120, 45, 115, 117, 109]⟩ : ByteArray).toList) = true) (hB : Below w0.heap.size w0 w) (hx3 : RowAt w X3 72 #[.string V0, .int .i64 z1, .int .i64 z2, .slice sA L.length mc]) (hx8 : RowAt w X8 66 #[.string N4, .string V4]) (hsg : SgAt w sA mc L) (hhp : false = true → Hps w (some ⟨XP, 0, none⟩) 4 4 o4) :
    wpOp Tryz.prog qbO Q 0 (qbI w0 X3 X8 qb tq cp V0 N4 V4 z1 z2 sA mc L o4 sa sb sc se sf sh sk sm sn so sp sq sr ss su sv sw sx sy sz ta tb tc td te tf tg th ti tj tk tl tm tn tp tr ts tt tu tv tw tx ty tz ua ub uc ud ue uf ug uh ui uj uk ul um un uo up uq ur us ut uu uv uw ux uy uz ya yb yc yd ye yf #[true, false, b2, b3, false, false, false, false, false, false, false]) { tmps := qbT w0 X3 X8 qb tq cp V0 N4 V4 z1 z2 sA mc L o4 sa sb sc se sf sh sk sm sn so sp sq sr ss su sv sw sx sy sz ta tb tc td te tf tg th ti tj tk tl tm tn tp tr ts tt tu tv tw tx ty tz ua ub uc ud ue uf ug uh ui uj uk ul um un uo up uq ur us ut uu uv uw ux uy uz ya yb yc yd ye yf XP false false b2 b3 false false false false false false false, defers := [] } w := by
  have q0 := hx3.cell 0
  have q1 := hx3.cell 1
  have q2 := hx3.cell 2
  have q3 := hx3.cell 3
  refine wpOp_step (o := qbo0) rfl (fun K hK => ?_)
  replace hK := hid hK
  simp only [qbo0, qbT, selS_f]
  go_simp
  exact hK.out _ _ ⟨true, false, b2, b3, false, false, false, false, false, false, false, XP, rfl, rfl, hB, hx3, hx8, hsg, fun h => Bool.noConfusion h⟩
set_option maxRecDepth 20000 in
set_option maxHeartbeats 1000000 in
theorem qb_s1 (b2 b3 : Bool) (XP : Nat) (w : World) (hkp : ∀ wx, Below w0.heap.size w0 wx → SgAt wx sA mc L → Calls Tryz.prog 43 #[.agg #[.string V0, .int .i64 z1, .int .i64 z2, .slice sA L.length mc]] wx fun e w' => ∃ X, e = .returned (.slice (some ⟨X, 0, none⟩) 4 4) ∧ Hps w' (some ⟨X, 0, none⟩) 4 4 o4 ∧ Below wx.heap.size wx w') (hc4 : (4 : Int) ≤ (cp : Int)) (hn1 : (N4.toList == [120, 45, 115, 117, 109]) = true) (hn2 : (N4.toList == (⟨#[120, 45, 115, 117, 109]⟩ : ByteArray).toList) = true) (hB : Below w0.heap.size w0 w) (hx3 : RowAt w X3 72 #[.string V0, .int .i64 z1, .int .i64 z2, .slice sA L.length mc]) (hx8 : RowAt w X8 66 #[.string N4, .string V4]) (hsg : SgAt w sA mc L) (hhp : false = true → Hps w (some ⟨XP, 0, none⟩) 4 4 o4) :
    wpOp Tryz.prog qbO Q 1 (qbI w0 X3 X8 qb tq cp V0 N4 V4 z1 z2 sA mc L o4 sa sb sc se sf sh sk sm sn so sp sq sr ss su sv sw sx sy sz ta tb tc td te tf tg th ti tj tk tl tm tn tp tr ts tt tu tv tw tx ty tz ua ub uc ud ue uf ug uh ui uj uk ul um un uo up uq ur us ut uu uv uw ux uy uz ya yb yc yd ye yf #[true, true, b2, b3, false, false, false, false, false, false, false]) { tmps := qbT w0 X3 X8 qb tq cp V0 N4 V4 z1 z2 sA mc L o4 sa sb sc se sf sh sk sm sn so sp sq sr ss su sv sw sx sy sz ta tb tc td te tf tg th ti tj tk tl tm tn tp tr ts tt tu tv tw tx ty tz ua ub uc ud ue uf ug uh ui uj uk ul um un uo up uq ur us ut uu uv uw ux uy uz ya yb yc yd ye yf XP true false b2 b3 false false false false false false false, defers := [] } w := by
  refine wpOp_step (o := qbo1) rfl (fun K hK => ?_)
  replace hK := hid hK
  simp only [qbo1, qbT, selS_t, selS_f]
  go_simp
  refine (hkp _ hB hsg).mono ?_
  rintro e w2 ⟨X9, rfl, hh9, hb2⟩
  dsimp only
  exact hK.out _ _ ⟨true, true, b2, b3, false, false, false, false, false, false, false, X9, rfl, rfl, hB.trans (hb2.mono hB.size), RowAt.nxS hb2 hx3, RowAt.nxS hb2 hx8, hsg.below hb2, fun _ => hh9⟩
set_option maxRecDepth 20000 in
set_option maxHeartbeats 1000000 in
theorem qb_s2 (b0 b1 : Bool) (XP : Nat) (w : World) (hc4 : (4 : Int) ≤ (cp : Int)) (hn1 : (N4.toList == [120, 45, 115, 117, 109]) = true) (hn2 : (N4.toList == (⟨#[120, 45, 115, 117, 109]⟩ : ByteArray).toList) = true) (hB : Below w0.heap.size w0 w) (hx3 : RowAt w X3 72 #[.string V0, .int .i64 z1, .int .i64 z2, .slice sA L.length mc]) (hx8 : RowAt w X8 66 #[.string N4, .string V4]) (hsg : SgAt w sA mc L) (hhp : b1 = true → Hps w (some ⟨XP, 0, none⟩) 4 4 o4) :
    wpOp Tryz.prog qbO Q 2 (qbI w0 X3 X8 qb tq cp V0 N4 V4 z1 z2 sA mc L o4 sa sb sc se sf sh sk sm sn so sp sq sr ss su sv sw sx sy sz ta tb tc td te tf tg th ti tj tk tl tm tn tp tr ts tt tu tv tw tx ty tz ua ub uc ud ue uf ug uh ui uj uk ul um un uo up uq ur us ut uu uv uw ux uy uz ya yb yc yd ye yf #[b0, b1, true, false, false, false, false, false, false, false, false]) { tmps := qbT w0 X3 X8 qb tq cp V0 N4 V4 z1 z2 sA mc L o4 sa sb sc se sf sh sk sm sn so sp sq sr ss su sv sw sx sy sz ta tb tc td te tf tg th ti tj tk tl tm tn tp tr ts tt tu tv tw tx ty tz ua ub uc ud ue uf ug uh ui uj uk ul um un uo up uq ur us ut uu uv uw ux uy uz ya yb yc yd ye yf XP b0 b1 false false false false false false false false false, defers := [] } w := by
  refine wpOp_step (o := qbo2) rfl (fun K hK => ?_)
  replace hK := hid hK
  simp only [qbo2, qbT, selS_f]
  go_simp
  exact hK.out _ _ ⟨b0, b1, true, false, false, false, false, false, false, false, false, XP, rfl, rfl, hB, hx3, hx8, hsg, hhp⟩
set_option maxRecDepth 20000 in
set_option maxHeartbeats 1000000 in
theorem qb_s3 (b0 b1 : Bool) (XP : Nat) (w : World) (hc4 : (4 : Int) ≤ (cp : Int)) (hn1 : (N4.toList == [120, 45, 115, 117, 109]) = true) (hn2 : (N4.toList == (⟨#[120, 45, 115, 117, 109]⟩ : ByteArray).toList) = true) (hB : Below w0.heap.size w0 w) (hx3 : RowAt w X3 72 #[.string V0, .int .i64 z1, .int .i64 z2, .slice sA L.length mc]) (hx8 : RowAt w X8 66 #[.string N4, .string V4]) (hsg : SgAt w sA mc L) (hhp : b1 = true → Hps w (some ⟨XP, 0, none⟩) 4 4 o4) :
    wpOp Tryz.prog qbO Q 3 (qbI w0 X3 X8 qb tq cp V0 N4 V4 z1 z2 sA mc L o4 sa sb sc se sf sh sk sm sn so sp sq sr ss su sv sw sx sy sz ta tb tc td te tf tg th ti tj tk tl tm tn tp tr ts tt tu tv tw tx ty tz ua ub uc ud ue uf ug uh ui uj uk ul um un uo up uq ur us ut uu uv uw ux uy uz ya yb yc yd ye yf #[b0, b1, true, true, false, false, false, false, false, false, false]) { tmps := qbT w0 X3 X8 qb tq cp V0 N4 V4 z1 z2 sA mc L o4 sa sb sc se sf sh sk sm sn so sp sq sr ss su sv sw sx sy sz ta tb tc td te tf tg th ti tj tk tl tm tn tp tr ts tt tu tv tw tx ty tz ua ub uc ud ue uf ug uh ui uj uk ul um un uo up uq ur us ut uu uv uw ux uy uz ya yb yc yd ye yf XP b0 b1 true false false false false false false false false, defers := [] } w := by
  refine wpOp_step (o := qbo3) rfl (fun K hK => ?_)
  replace hK := hid hK
  simp only [qbo3, qbT, selS_t, selS_f]
  go_simp
  exact hK.out _ _ ⟨b0, b1, true, true, false, false, false, false, false, false, false, XP, rfl, rfl, hB, hx3, hx8, hsg, hhp⟩
set_option maxRecDepth 20000 in
set_option maxHeartbeats 1000000 in
theorem qb_s4 (XP : Nat) (w : World) (hke : ∀ wx X, Below w0.heap.size w0 wx → Hps wx (some ⟨X, 0, none⟩) 4 4 o4 → Calls Tryz.prog 94 #[.slice (some ⟨X, 0, none⟩) 4 4, .slice (some ⟨qb, tq, none⟩) 4 cp] wx fun e w' => e = .returned (.bool true) ∧ Below wx.heap.size wx w') (hc4 : (4 : Int) ≤ (cp : Int)) (hn1 : (N4.toList == [120, 45, 115, 117, 109]) = true) (hn2 : (N4.toList == (⟨#[120, 45, 115, 117, 109]⟩ : ByteArray).toList) = true) (hB : Below w0.heap.size w0 w) (hx3 : RowAt w X3 72 #[.string V0, .int .i64 z1, .int .i64 z2, .slice sA L.length mc]) (hx8 : RowAt w X8 66 #[.string N4, .string V4]) (hsg : SgAt w sA mc L) (hhp : true = true → Hps w (some ⟨XP, 0, none⟩) 4 4 o4) :
    wpOp Tryz.prog qbO Q 4 (qbI w0 X3 X8 qb tq cp V0 N4 V4 z1 z2 sA mc L o4 sa sb sc se sf sh sk sm sn so sp sq sr ss su sv sw sx sy sz ta tb tc td te tf tg th ti tj tk tl tm tn tp tr ts tt tu tv tw tx ty tz ua ub uc ud ue uf ug uh ui uj uk ul um un uo up uq ur us ut uu uv uw ux uy uz ya yb yc yd ye yf #[true, true, true, true, true, false, false, false, false, false, false]) { tmps := qbT w0 X3 X8 qb tq cp V0 N4 V4 z1 z2 sA mc L o4 sa sb sc se sf sh sk sm sn so sp sq sr ss su sv sw sx sy sz ta tb tc td te tf tg th ti tj tk tl tm tn tp tr ts tt tu tv tw tx ty tz ua ub uc ud ue uf ug uh ui uj uk ul um un uo up uq ur us ut uu uv uw ux uy uz ya yb yc yd ye yf XP true true true true false false false false false false false, defers := [] } w := by
  refine wpOp_step (o := qbo4) rfl (fun K hK => ?_)
  replace hK := hid hK
  simp only [qbo4, qbT, selS_t, selS_f]
  go_simp
  refine (hke _ _ hB (hhp rfl)).mono ?_
  rintro e w2 ⟨rfl, hb2⟩
  dsimp only
  exact hK.out _ _ ⟨true, true, true, true, true, false, false, false, false, false, false, XP, rfl, rfl, hB.trans (hb2.mono hB.size), RowAt.nxS hb2 hx3, RowAt.nxS hb2 hx8, hsg.below hb2, fun h => (hhp h).below hb2⟩
set_option maxRecDepth 20000 in
set_option maxHeartbeats 1000000 in
theorem qb_s5 (XP : Nat) (w : World) (hc4 : (4 : Int) ≤ (cp : Int)) (hn1 : (N4.toList == [120, 45, 115, 117, 109]) = true) (hn2 : (N4.toList == (⟨#[120, 45, 115, 117, 109]⟩ : ByteArray).toList) = true) (hB : Below w0.heap.size w0 w) (hx3 : RowAt w X3 72 #[.string V0, .int .i64 z1, .int .i64 z2, .slice sA L.length mc]) (hx8 : RowAt w X8 66 #[.string N4, .string V4]) (hsg : SgAt w sA mc L) (hhp : true = true → Hps w (some ⟨XP, 0, none⟩) 4 4 o4) :
    wpOp Tryz.prog qbO Q 5 (qbI w0 X3 X8 qb tq cp V0 N4 V4 z1 z2 sA mc L o4 sa sb sc se sf sh sk sm sn so sp sq sr ss su sv sw sx sy sz ta tb tc td te tf tg th ti tj tk tl tm tn tp tr ts tt tu tv tw tx ty tz ua ub uc ud ue uf ug uh ui uj uk ul um un uo up uq ur us ut uu uv uw ux uy uz ya yb yc yd ye yf #[true, true, true, true, true, true, false, false, false, false, false]) { tmps := qbT w0 X3 X8 qb tq cp V0 N4 V4 z1 z2 sA mc L o4 sa sb sc se sf sh sk sm sn so sp sq sr ss su sv sw sx sy sz ta tb tc td te tf tg th ti tj tk tl tm tn tp tr ts tt tu tv tw tx ty tz ua ub uc ud ue uf ug uh ui uj uk ul um un uo up uq ur us ut uu uv uw ux uy uz ya yb yc yd ye yf XP true true true true true false false false false false false, defers := [] } w := by
  refine wpOp_step (o := qbo5) rfl (fun K hK => ?_)
  replace hK := hid hK
  simp only [qbo5, qbT, selS_t, selS_f]
  go_simp
  exact hK.out _ _ ⟨true, true, true, true, true, true, false, false, false, false, false, XP, rfl, rfl, hB, hx3, hx8, hsg, hhp⟩
set_option maxRecDepth 20000 in
set_option maxHeartbeats 1000000 in
theorem qb_s6 (XP : Nat) (w : World) (hc4 : (4 : Int) ≤ (cp : Int)) (hn1 : (N4.toList == [120, 45, 115, 117, 109]) = true) (hn2 : (N4.toList == (⟨#[120, 45, 115, 117, 109]⟩ : ByteArray).toList) = true) (hB : Below w0.heap.size w0 w) (hx3 : RowAt w X3 72 #[.string V0, .int .i64 z1, .int .i64 z2, .slice sA L.length mc]) (hx8 : RowAt w X8 66 #[.string N4, .string V4]) (hsg : SgAt w sA mc L) (hhp : true = true → Hps w (some ⟨XP, 0, none⟩) 4 4 o4) :
    wpOp Tryz.prog qbO Q 6 (qbI w0 X3 X8 qb tq cp V0 N4 V4 z1 z2 sA mc L o4 sa sb sc se sf sh sk sm sn so sp sq sr ss su sv sw sx sy sz ta tb tc td te tf tg th ti tj tk tl tm tn tp tr ts tt tu tv tw tx ty tz ua ub uc ud ue uf ug uh ui uj uk ul um un uo up uq ur us ut uu uv uw ux uy uz ya yb yc yd ye yf #[true, true, true, true, true, true, true, false, false, false, false]) { tmps := qbT w0 X3 X8 qb tq cp V0 N4 V4 z1 z2 sA mc L o4 sa sb sc se sf sh sk sm sn so sp sq sr ss su sv sw sx sy sz ta tb tc td te tf tg th ti tj tk tl tm tn tp tr ts tt tu tv tw tx ty tz ua ub uc ud ue uf ug uh ui uj uk ul um un uo up uq ur us ut uu uv uw ux uy uz ya yb yc yd ye yf XP true true true true true true false false false false false, defers := [] } w := by
  refine wpOp_step (o := qbo6) rfl (fun K hK => ?_)
  replace hK := hid hK
  simp only [qbo6, qbT, selS_t, selS_f]
  go_simp
  exact hK.out _ _ ⟨true, true, true, true, true, true, true, false, false, false, false, XP, rfl, rfl, hB, hx3, hx8, hsg, hhp⟩
set_option maxRecDepth 20000 in
set_option maxHeartbeats 1000000 in
theorem qb_s7 (XP : Nat) (w : World) (hc4 : (4 : Int) ≤ (cp : Int)) (hn1 : (N4.toList == [120, 45, 115, 117, 109]) = true) (hn2 : (N4.toList == (⟨#[120, 45, 115, 117, 109]⟩ : ByteArray).toList) = true) (hB : Below w0.heap.size w0 w) (hx3 : RowAt w X3 72 #[.string V0, .int .i64 z1, .int .i64 z2, .slice sA L.length mc]) (hx8 : RowAt w X8 66 #[.string N4, .string V4]) (hsg : SgAt w sA mc L) (hhp : true = true → Hps w (some ⟨XP, 0, none⟩) 4 4 o4) :
    wpOp Tryz.prog qbO Q 7 (qbI w0 X3 X8 qb tq cp V0 N4 V4 z1 z2 sA mc L o4 sa sb sc se sf sh sk sm sn so sp sq sr ss su sv sw sx sy sz ta tb tc td te tf tg th ti tj tk tl tm tn tp tr ts tt tu tv tw tx ty tz ua ub uc ud ue uf ug uh ui uj uk ul um un uo up uq ur us ut uu uv uw ux uy uz ya yb yc yd ye yf #[true, true, true, true, true, true, true, true, false, false, false]) { tmps := qbT w0 X3 X8 qb tq cp V0 N4 V4 z1 z2 sA mc L o4 sa sb sc se sf sh sk sm sn so sp sq sr ss su sv sw sx sy sz ta tb tc td te tf tg th ti tj tk tl tm tn tp tr ts tt tu tv tw tx ty tz ua ub uc ud ue uf ug uh ui uj uk ul um un uo up uq ur us ut uu uv uw ux uy uz ya yb yc yd ye yf XP true true true true true true true false false false false, defers := [] } w := by
  refine wpOp_step (o := qbo7) rfl (fun K hK => ?_)
  replace hK := hid hK
  simp only [qbo7, qbT, selS_t, selS_f]
  go_simp
  exact hK.out _ _ ⟨true, true, true, true, true, true, true, true, false, false, false, XP, rfl, rfl, hB, hx3, hx8, hsg, hhp⟩
set_option maxRecDepth 20000 in
set_option maxHeartbeats 1000000 in
theorem qb_s8 (XP : Nat) (w : World) (hc4 : (4 : Int) ≤ (cp : Int)) (hn1 : (N4.toList == [120, 45, 115, 117, 109]) = true) (hn2 : (N4.toList == (⟨#[120, 45, 115, 117, 109]⟩ : ByteArray).toList) = true) (hB : Below w0.heap.size w0 w) (hx3 : RowAt w X3 72 #[.string V0, .int .i64 z1, .int .i64 z2, .slice sA L.length mc]) (hx8 : RowAt w X8 66 #[.string N4, .string V4]) (hsg : SgAt w sA mc L) (hhp : true = true → Hps w (some ⟨XP, 0, none⟩) 4 4 o4) :
    wpOp Tryz.prog qbO Q 8 (qbI w0 X3 X8 qb tq cp V0 N4 V4 z1 z2 sA mc L o4 sa sb sc se sf sh sk sm sn so sp sq sr ss su sv sw sx sy sz ta tb tc td te tf tg th ti tj tk tl tm tn tp tr ts tt tu tv tw tx ty tz ua ub uc ud ue uf ug uh ui uj uk ul um un uo up uq ur us ut uu uv uw ux uy uz ya yb yc yd ye yf #[true, true, true, true, true, true, true, true, true, false, false]) { tmps := qbT w0 X3 X8 qb tq cp V0 N4 V4 z1 z2 sA mc L o4 sa sb sc se sf sh sk sm sn so sp sq sr ss su sv sw sx sy sz ta tb tc td te tf tg th ti tj tk tl tm tn tp tr ts tt tu tv tw tx ty tz ua ub uc ud ue uf ug uh ui uj uk ul um un uo up uq ur us ut uu uv uw ux uy uz ya yb yc yd ye yf XP true true true true true true true true false false false, defers := [] } w := by
  have q0 := hx8.cell 0
  refine wpOp_step (o := qbo8) rfl (fun K hK => ?_)
  replace hK := hid hK
  simp only [qbo8, qbT, selS_t, selS_f]
  go_simp
  exact hK.out _ _ ⟨true, true, true, true, true, true, true, true, true, false, false, XP, rfl, rfl, hB, hx3, hx8, hsg, hhp⟩
set_option maxRecDepth 20000 in
set_option maxHeartbeats 1000000 in
theorem qb_s9 (XP : Nat) (w : World) (hc4 : (4 : Int) ≤ (cp : Int)) (hn1 : (N4.toList == [120, 45, 115, 117, 109]) = true) (hn2 : (N4.toList == (⟨#[120, 45, 115, 117, 109]⟩ : ByteArray).toList) = true) (hB : Below w0.heap.size w0 w) (hx3 : RowAt w X3 72 #[.string V0, .int .i64 z1, .int .i64 z2, .slice sA L.length mc]) (hx8 : RowAt w X8 66 #[.string N4, .string V4]) (hsg : SgAt w sA mc L) (hhp : true = true → Hps w (some ⟨XP, 0, none⟩) 4 4 o4) :
    wpOp Tryz.prog qbO Q 9 (qbI w0 X3 X8 qb tq cp V0 N4 V4 z1 z2 sA mc L o4 sa sb sc se sf sh sk sm sn so sp sq sr ss su sv sw sx sy sz ta tb tc td te tf tg th ti tj tk tl tm tn tp tr ts tt tu tv tw tx ty tz ua ub uc ud ue uf ug uh ui uj uk ul um un uo up uq ur us ut uu uv uw ux uy uz ya yb yc yd ye yf #[true, true, true, true, true, true, true, true, true, true, false]) { tmps := qbT w0 X3 X8 qb tq cp V0 N4 V4 z1 z2 sA mc L o4 sa sb sc se sf sh sk sm sn so sp sq sr ss su sv sw sx sy sz ta tb tc td te tf tg th ti tj tk tl tm tn tp tr ts tt tu tv tw tx ty tz ua ub uc ud ue uf ug uh ui uj uk ul um un uo up uq ur us ut uu uv uw ux uy uz ya yb yc yd ye yf XP true true true true true true true true true false false, defers := [] } w := by
  refine wpOp_step (o := qbo9) rfl (fun K hK => ?_)
  replace hK := hid hK
  simp only [qbo9, qbT, selS_t, selS_f]
  go_simp
  exact hK.out _ _ ⟨true, true, true, true, true, true, true, true, true, true, false, XP, rfl, rfl, hB, hx3, hx8, hsg, hhp⟩
set_option maxRecDepth 20000 in
set_option maxHeartbeats 1000000 in
theorem qb_s10 (XP : Nat) (w : World) (hc4 : (4 : Int) ≤ (cp : Int)) (hn1 : (N4.toList == [120, 45, 115, 117, 109]) = true) (hn2 : (N4.toList == (⟨#[120, 45, 115, 117, 109]⟩ : ByteArray).toList) = true) (hB : Below w0.heap.size w0 w) (hx3 : RowAt w X3 72 #[.string V0, .int .i64 z1, .int .i64 z2, .slice sA L.length mc]) (hx8 : RowAt w X8 66 #[.string N4, .string V4]) (hsg : SgAt w sA mc L) (hhp : true = true → Hps w (some ⟨XP, 0, none⟩) 4 4 o4) :
    wpOp Tryz.prog qbO Q 10 (qbI w0 X3 X8 qb tq cp V0 N4 V4 z1 z2 sA mc L o4 sa sb sc se sf sh sk sm sn so sp sq sr ss su sv sw sx sy sz ta tb tc td te tf tg th ti tj tk tl tm tn tp tr ts tt tu tv tw tx ty tz ua ub uc ud ue uf ug uh ui uj uk ul um un uo up uq ur us ut uu uv uw ux uy uz ya yb yc yd ye yf #[true, true, true, true, true, true, true, true, true, true, true]) { tmps := qbT w0 X3 X8 qb tq cp V0 N4 V4 z1 z2 sA mc L o4 sa sb sc se sf sh sk sm sn so sp sq sr ss su sv sw sx sy sz ta tb tc td te tf tg th ti tj tk tl tm tn tp tr ts tt tu tv tw tx ty tz ua ub uc ud ue uf ug uh ui uj uk ul um un uo up uq ur us ut uu uv uw ux uy uz ya yb yc yd ye yf XP true true true true true true true true true true false, defers := [] } w := by
  refine wpOp_step (o := qbo10) rfl (fun K hK => ?_)
  replace hK := hid hK
  simp only [qbo10, qbT, selS_t, selS_f]
  go_simp
  exact hK.out _ _ ⟨true, true, true, true, true, true, true, true, true, true, true, XP, rfl, rfl, hB, hx3, hx8, hsg, hhp⟩
set_option maxRecDepth 20000 in
set_option maxHeartbeats 2000000 in
theorem qb_step (hkp : ∀ wx, Below w0.heap.size w0 wx → SgAt wx sA mc L → Calls Tryz.prog 43 #[.agg #[.string V0, .int .i64 z1, .int .i64 z2, .slice sA L.length mc]] wx fun e w' => ∃ X, e = .returned (.slice (some ⟨X, 0, none⟩) 4 4) ∧ Hps w' (some ⟨X, 0, none⟩) 4 4 o4 ∧ Below wx.heap.size wx w') (hke : ∀ wx X, Below w0.heap.size w0 wx → Hps wx (some ⟨X, 0, none⟩) 4 4 o4 → Calls Tryz.prog 94 #[.slice (some ⟨X, 0, none⟩) 4 4, .slice (some ⟨qb, tq, none⟩) 4 cp] wx fun e w' => e = .returned (.bool true) ∧ Below wx.heap.size wx w') (hc4 : (4 : Int) ≤ (cp : Int)) (hn1 : (N4.toList == [120, 45, 115, 117, 109]) = true) (hn2 : (N4.toList == (⟨#[120, 45, 115, 117, 109]⟩ : ByteArray).toList) = true) (l : Array Bool) (f : Act) (w : World) (hC : Closed qbO l) (hI : qbI w0 X3 X8 qb tq cp V0 N4 V4 z1 z2 sA mc L o4 sa sb sc se sf sh sk sm sn so sp sq sr ss su sv sw sx sy sz ta tb tc td te tf tg th ti tj tk tl tm tn tp tr ts tt tu tv tw tx ty tz ua ub uc ud ue uf ug uh ui uj uk ul um un uo up uq ur us ut uu uv uw ux uy uz ya yb yc yd ye yf l f w) (i : Nat) (h0 : l.getD i true = false) (o : Oper) (ho : qbO[i]? = some o) (h1 : ∀ e ∈ o.after, Region.binds .any e = true → l.getD e.on false = true) : wpOp Tryz.prog qbO Q i (qbI w0 X3 X8 qb tq cp V0 N4 V4 z1 z2 sA mc L o4 sa sb sc se sf sh sk sm sn so sp sq sr ss su sv sw sx sy sz ta tb tc td te tf tg th ti tj tk tl tm tn tp tr ts tt tu tv tw tx ty tz ua ub uc ud ue uf ug uh ui uj uk ul um un uo up uq ur us ut uu uv uw ux uy uz ya yb yc yd ye yf (l.setIfInBounds i true)) f w := by
  obtain ⟨b0, b1, b2, b3, b4, b5, b6, b7, b8, b9, b10, XP, rfl, rfl, hB, hx3, hx8, hsg, hhp⟩ := hI
  have hi : i < 11 := by
    rcases Nat.lt_or_ge i 11 with h | h
    · exact h
    · rw [show qbO[i]? = none from Array.getElem?_eq_none h] at ho; cases ho
  rcases (by omega : i = 0 ∨ i = 1 ∨ i = 2 ∨ i = 3 ∨ i = 4 ∨ i = 5 ∨ i = 6 ∨ i = 7 ∨ i = 8 ∨ i = 9 ∨ i = 10) with rfl | rfl | rfl | rfl | rfl | rfl | rfl | rfl | rfl | rfl | rfl
  · obtain rfl : qbo0 = o := Option.some.inj ho
    obtain rfl : b0 = false := h0
    obtain rfl : b1 = false := by
      cases b1 with
      | false => rfl
      | true => exact Bool.noConfusion (show false = true from hC 1 qbo1 rfl rfl ⟨0, .data⟩ (by simp [qbo1]) rfl)
    obtain rfl : b4 = false := by
      cases b4 with
      | false => rfl
      | true => exact Bool.noConfusion (show false = true from hC 4 qbo4 rfl rfl ⟨1, .chain⟩ (by simp [qbo4]) rfl)
    obtain rfl : b5 = false := by
      cases b5 with
      | false => rfl
      | true => exact Bool.noConfusion (show false = true from hC 5 qbo5 rfl rfl ⟨4, .data⟩ (by simp [qbo5]) rfl)
    obtain rfl : b6 = false := by
      cases b6 with
      | false => rfl
      | true => exact Bool.noConfusion (show false = true from hC 6 qbo6 rfl rfl ⟨4, .chain⟩ (by simp [qbo6]) rfl)
    obtain rfl : b7 = false := by
      cases b7 with
      | false => rfl
      | true => exact Bool.noConfusion (show false = true from hC 7 qbo7 rfl rfl ⟨6, .guard⟩ (by simp [qbo7]) rfl)
    obtain rfl : b8 = false := by
      cases b8 with
      | false => rfl
      | true => exact Bool.noConfusion (show false = true from hC 8 qbo8 rfl rfl ⟨6, .guard⟩ (by simp [qbo8]) rfl)
    obtain rfl : b9 = false := by
      cases b9 with
      | false => rfl
      | true => exact Bool.noConfusion (show false = true from hC 9 qbo9 rfl rfl ⟨6, .guard⟩ (by simp [qbo9]) rfl)
    obtain rfl : b10 = false := by
      cases b10 with
      | false => rfl
      | true => exact Bool.noConfusion (show false = true from hC 10 qbo10 rfl rfl ⟨6, .data⟩ (by simp [qbo10]) rfl)
    exact qb_s0 w0 X3 X8 qb tq cp V0 N4 V4 z1 z2 sA mc L o4 sa sb sc se sf sh sk sm sn so sp sq sr ss su sv sw sx sy sz ta tb tc td te tf tg th ti tj tk tl tm tn tp tr ts tt tu tv tw tx ty tz ua ub uc ud ue uf ug uh ui uj uk ul um un uo up uq ur us ut uu uv uw ux uy uz ya yb yc yd ye yf b2 b3 XP w hc4 hn1 hn2 hB hx3 hx8 hsg hhp
  · obtain rfl : qbo1 = o := Option.some.inj ho
    obtain rfl : b1 = false := h0
    obtain rfl : b0 = true := h1 ⟨0, .data⟩ (by simp [qbo1]) rfl
    obtain rfl : b4 = false := by
      cases b4 with
      | false => rfl
      | true => exact Bool.noConfusion (show false = true from hC 4 qbo4 rfl rfl ⟨1, .chain⟩ (by simp [qbo4]) rfl)
    obtain rfl : b5 = false := by
      cases b5 with
      | false => rfl
      | true => exact Bool.noConfusion (show false = true from hC 5 qbo5 rfl rfl ⟨4, .data⟩ (by simp [qbo5]) rfl)
    obtain rfl : b6 = false := by
      cases b6 with
      | false => rfl
      | true => exact Bool.noConfusion (show false = true from hC 6 qbo6 rfl rfl ⟨4, .chain⟩ (by simp [qbo6]) rfl)
    obtain rfl : b7 = false := by
      cases b7 with
      | false => rfl
      | true => exact Bool.noConfusion (show false = true from hC 7 qbo7 rfl rfl ⟨6, .guard⟩ (by simp [qbo7]) rfl)
    obtain rfl : b8 = false := by
      cases b8 with
      | false => rfl
      | true => exact Bool.noConfusion (show false = true from hC 8 qbo8 rfl rfl ⟨6, .guard⟩ (by simp [qbo8]) rfl)
    obtain rfl : b9 = false := by
      cases b9 with
      | false => rfl
      | true => exact Bool.noConfusion (show false = true from hC 9 qbo9 rfl rfl ⟨6, .guard⟩ (by simp [qbo9]) rfl)
    obtain rfl : b10 = false := by
      cases b10 with
      | false => rfl
      | true => exact Bool.noConfusion (show false = true from hC 10 qbo10 rfl rfl ⟨6, .data⟩ (by simp [qbo10]) rfl)
    exact qb_s1 w0 X3 X8 qb tq cp V0 N4 V4 z1 z2 sA mc L o4 sa sb sc se sf sh sk sm sn so sp sq sr ss su sv sw sx sy sz ta tb tc td te tf tg th ti tj tk tl tm tn tp tr ts tt tu tv tw tx ty tz ua ub uc ud ue uf ug uh ui uj uk ul um un uo up uq ur us ut uu uv uw ux uy uz ya yb yc yd ye yf b2 b3 XP w hkp hc4 hn1 hn2 hB hx3 hx8 hsg hhp
  · obtain rfl : qbo2 = o := Option.some.inj ho
    obtain rfl : b2 = false := h0
    obtain rfl : b3 = false := by
      cases b3 with
      | false => rfl
      | true => exact Bool.noConfusion (show false = true from hC 3 qbo3 rfl rfl ⟨2, .data⟩ (by simp [qbo3]) rfl)
    obtain rfl : b4 = false := by
      cases b4 with
      | false => rfl
      | true => exact Bool.noConfusion (show false = true from hC 4 qbo4 rfl rfl ⟨3, .data⟩ (by simp [qbo4]) rfl)
    obtain rfl : b5 = false := by
      cases b5 with
      | false => rfl
      | true => exact Bool.noConfusion (show false = true from hC 5 qbo5 rfl rfl ⟨4, .data⟩ (by simp [qbo5]) rfl)
    obtain rfl : b6 = false := by
      cases b6 with
      | false => rfl
      | true => exact Bool.noConfusion (show false = true from hC 6 qbo6 rfl rfl ⟨4, .chain⟩ (by simp [qbo6]) rfl)
    obtain rfl : b7 = false := by
      cases b7 with
      | false => rfl
      | true => exact Bool.noConfusion (show false = true from hC 7 qbo7 rfl rfl ⟨6, .guard⟩ (by simp [qbo7]) rfl)
    obtain rfl : b8 = false := by
      cases b8 with
      | false => rfl
      | true => exact Bool.noConfusion (show false = true from hC 8 qbo8 rfl rfl ⟨6, .guard⟩ (by simp [qbo8]) rfl)
    obtain rfl : b9 = false := by
      cases b9 with
      | false => rfl
      | true => exact Bool.noConfusion (show false = true from hC 9 qbo9 rfl rfl ⟨6, .guard⟩ (by simp [qbo9]) rfl)
    obtain rfl : b10 = false := by
      cases b10 with
      | false => rfl
      | true => exact Bool.noConfusion (show false = true from hC 10 qbo10 rfl rfl ⟨6, .data⟩ (by simp [qbo10]) rfl)
    exact qb_s2 w0 X3 X8 qb tq cp V0 N4 V4 z1 z2 sA mc L o4 sa sb sc se sf sh sk sm sn so sp sq sr ss su sv sw sx sy sz ta tb tc td te tf tg th ti tj tk tl tm tn tp tr ts tt tu tv tw tx ty tz ua ub uc ud ue uf ug uh ui uj uk ul um un uo up uq ur us ut uu uv uw ux uy uz ya yb yc yd ye yf b0 b1 XP w hc4 hn1 hn2 hB hx3 hx8 hsg hhp
  · obtain rfl : qbo3 = o := Option.some.inj ho
    obtain rfl : b3 = false := h0
    obtain rfl : b2 = true := h1 ⟨2, .data⟩ (by simp [qbo3]) rfl
    obtain rfl : b4 = false := by
      cases b4 with
      | false => rfl
      | true => exact Bool.noConfusion (show false = true from hC 4 qbo4 rfl rfl ⟨3, .data⟩ (by simp [qbo4]) rfl)
    obtain rfl : b5 = false := by
      cases b5 with
      | false => rfl
      | true => exact Bool.noConfusion (show false = true from hC 5 qbo5 rfl rfl ⟨4, .data⟩ (by simp [qbo5]) rfl)
    obtain rfl : b6 = false := by
      cases b6 with
      | false => rfl
      | true => exact Bool.noConfusion (show false = true from hC 6 qbo6 rfl rfl ⟨4, .chain⟩ (by simp [qbo6]) rfl)
    obtain rfl : b7 = false := by
      cases b7 with
      | false => rfl
      | true => exact Bool.noConfusion (show false = true from hC 7 qbo7 rfl rfl ⟨6, .guard⟩ (by simp [qbo7]) rfl)
    obtain rfl : b8 = false := by
      cases b8 with
      | false => rfl
      | true => exact Bool.noConfusion (show false = true from hC 8 qbo8 rfl rfl ⟨6, .guard⟩ (by simp [qbo8]) rfl)
    obtain rfl : b9 = false := by
      cases b9 with
      | false => rfl
      | true => exact Bool.noConfusion (show false = true from hC 9 qbo9 rfl rfl ⟨6, .guard⟩ (by simp [qbo9]) rfl)
    obtain rfl : b10 = false := by
      cases b10 with
      | false => rfl
      | true => exact Bool.noConfusion (show false = true from hC 10 qbo10 rfl rfl ⟨6, .data⟩ (by simp [qbo10]) rfl)
    exact qb_s3 w0 X3 X8 qb tq cp V0 N4 V4 z1 z2 sA mc L o4 sa sb sc se sf sh sk sm sn so sp sq sr ss su sv sw sx sy sz ta tb tc td te tf tg th ti tj tk tl tm tn tp tr ts tt tu tv tw tx ty tz ua ub uc ud ue uf ug uh ui uj uk ul um un uo up uq ur us ut uu uv uw ux uy uz ya yb yc yd ye yf b0 b1 XP w hc4 hn1 hn2 hB hx3 hx8 hsg hhp
  · obtain rfl : qbo4 = o := Option.some.inj ho
    obtain rfl : b4 = false := h0
    obtain rfl : b3 = true := h1 ⟨3, .data⟩ (by simp [qbo4]) rfl
    obtain rfl : b1 = true := h1 ⟨1, .chain⟩ (by simp [qbo4]) rfl
    obtain rfl : b2 = true := hC 3 qbo3 rfl rfl ⟨2, .data⟩ (by simp [qbo3]) rfl
    obtain rfl : b0 = true := hC 1 qbo1 rfl rfl ⟨0, .data⟩ (by simp [qbo1]) rfl
    obtain rfl : b5 = false := by
      cases b5 with
      | false => rfl
      | true => exact Bool.noConfusion (show false = true from hC 5 qbo5 rfl rfl ⟨4, .data⟩ (by simp [qbo5]) rfl)
    obtain rfl : b6 = false := by
      cases b6 with
      | false => rfl
      | true => exact Bool.noConfusion (show false = true from hC 6 qbo6 rfl rfl ⟨4, .chain⟩ (by simp [qbo6]) rfl)
    obtain rfl : b7 = false := by
      cases b7 with
      | false => rfl
      | true => exact Bool.noConfusion (show false = true from hC 7 qbo7 rfl rfl ⟨6, .guard⟩ (by simp [qbo7]) rfl)
    obtain rfl : b8 = false := by
      cases b8 with
      | false => rfl
      | true => exact Bool.noConfusion (show false = true from hC 8 qbo8 rfl rfl ⟨6, .guard⟩ (by simp [qbo8]) rfl)
    obtain rfl : b9 = false := by
      cases b9 with
      | false => rfl
      | true => exact Bool.noConfusion (show false = true from hC 9 qbo9 rfl rfl ⟨6, .guard⟩ (by simp [qbo9]) rfl)
    obtain rfl : b10 = false := by
      cases b10 with
      | false => rfl
      | true => exact Bool.noConfusion (show false = true from hC 10 qbo10 rfl rfl ⟨6, .data⟩ (by simp [qbo10]) rfl)
    exact qb_s4 w0 X3 X8 qb tq cp V0 N4 V4 z1 z2 sA mc L o4 sa sb sc se sf sh sk sm sn so sp sq sr ss su sv sw sx sy sz ta tb tc td te tf tg th ti tj tk tl tm tn tp tr ts tt tu tv tw tx ty tz ua ub uc ud ue uf ug uh ui uj uk ul um un uo up uq ur us ut uu uv uw ux uy uz ya yb yc yd ye yf  XP w hke hc4 hn1 hn2 hB hx3 hx8 hsg hhp
  · obtain rfl : qbo5 = o := Option.some.inj ho
    obtain rfl : b5 = false := h0
    obtain rfl : b4 = true := h1 ⟨4, .data⟩ (by simp [qbo5]) rfl
    obtain rfl : b1 = true := hC 4 qbo4 rfl rfl ⟨1, .chain⟩ (by simp [qbo4]) rfl
    obtain rfl : b3 = true := hC 4 qbo4 rfl rfl ⟨3, .data⟩ (by simp [qbo4]) rfl
    obtain rfl : b2 = true := hC 3 qbo3 rfl rfl ⟨2, .data⟩ (by simp [qbo3]) rfl
    obtain rfl : b0 = true := hC 1 qbo1 rfl rfl ⟨0, .data⟩ (by simp [qbo1]) rfl
    obtain rfl : b6 = false := by
      cases b6 with
      | false => rfl
      | true => exact Bool.noConfusion (show false = true from hC 6 qbo6 rfl rfl ⟨5, .data⟩ (by simp [qbo6]) rfl)
    obtain rfl : b7 = false := by
      cases b7 with
      | false => rfl
      | true => exact Bool.noConfusion (show false = true from hC 7 qbo7 rfl rfl ⟨6, .guard⟩ (by simp [qbo7]) rfl)
    obtain rfl : b8 = false := by
      cases b8 with
      | false => rfl
      | true => exact Bool.noConfusion (show false = true from hC 8 qbo8 rfl rfl ⟨6, .guard⟩ (by simp [qbo8]) rfl)
    obtain rfl : b9 = false := by
      cases b9 with
      | false => rfl
      | true => exact Bool.noConfusion (show false = true from hC 9 qbo9 rfl rfl ⟨6, .guard⟩ (by simp [qbo9]) rfl)
    obtain rfl : b10 = false := by
      cases b10 with
      | false => rfl
      | true => exact Bool.noConfusion (show false = true from hC 10 qbo10 rfl rfl ⟨6, .data⟩ (by simp [qbo10]) rfl)
    exact qb_s5 w0 X3 X8 qb tq cp V0 N4 V4 z1 z2 sA mc L o4 sa sb sc se sf sh sk sm sn so sp sq sr ss su sv sw sx sy sz ta tb tc td te tf tg th ti tj tk tl tm tn tp tr ts tt tu tv tw tx ty tz ua ub uc ud ue uf ug uh ui uj uk ul um un uo up uq ur us ut uu uv uw ux uy uz ya yb yc yd ye yf  XP w hc4 hn1 hn2 hB hx3 hx8 hsg hhp
  · obtain rfl : qbo6 = o := Option.some.inj ho
    obtain rfl : b6 = false := h0
    obtain rfl : b5 = true := h1 ⟨5, .data⟩ (by simp [qbo6]) rfl
    obtain rfl : b4 = true := h1 ⟨4, .chain⟩ (by simp [qbo6]) rfl
    obtain rfl : b1 = true := hC 4 qbo4 rfl rfl ⟨1, .chain⟩ (by simp [qbo4]) rfl
    obtain rfl : b3 = true := hC 4 qbo4 rfl rfl ⟨3, .data⟩ (by simp [qbo4]) rfl
    obtain rfl : b2 = true := hC 3 qbo3 rfl rfl ⟨2, .data⟩ (by simp [qbo3]) rfl
    obtain rfl : b0 = true := hC 1 qbo1 rfl rfl ⟨0, .data⟩ (by simp [qbo1]) rfl
    obtain rfl : b7 = false := by
      cases b7 with
      | false => rfl
      | true => exact Bool.noConfusion (show false = true from hC 7 qbo7 rfl rfl ⟨6, .guard⟩ (by simp [qbo7]) rfl)
    obtain rfl : b8 = false := by
      cases b8 with
      | false => rfl
      | true => exact Bool.noConfusion (show false = true from hC 8 qbo8 rfl rfl ⟨6, .guard⟩ (by simp [qbo8]) rfl)
    obtain rfl : b9 = false := by
      cases b9 with
      | false => rfl
      | true => exact Bool.noConfusion (show false = true from hC 9 qbo9 rfl rfl ⟨6, .guard⟩ (by simp [qbo9]) rfl)
    obtain rfl : b10 = false := by
      cases b10 with
      | false => rfl
      | true => exact Bool.noConfusion (show false = true from hC 10 qbo10 rfl rfl ⟨6, .data⟩ (by simp [qbo10]) rfl)
    exact qb_s6 w0 X3 X8 qb tq cp V0 N4 V4 z1 z2 sA mc L o4 sa sb sc se sf sh sk sm sn so sp sq sr ss su sv sw sx sy sz ta tb tc td te tf tg th ti tj tk tl tm tn tp tr ts tt tu tv tw tx ty tz ua ub uc ud ue uf ug uh ui uj uk ul um un uo up uq ur us ut uu uv uw ux uy uz ya yb yc yd ye yf  XP w hc4 hn1 hn2 hB hx3 hx8 hsg hhp
  · obtain rfl : qbo7 = o := Option.some.inj ho
    obtain rfl : b7 = false := h0
    obtain rfl : b6 = true := h1 ⟨6, .guard⟩ (by simp [qbo7]) rfl
    obtain rfl : b4 = true := hC 6 qbo6 rfl rfl ⟨4, .chain⟩ (by simp [qbo6]) rfl
    obtain rfl : b5 = true := hC 6 qbo6 rfl rfl ⟨5, .data⟩ (by simp [qbo6]) rfl
    obtain rfl : b1 = true := hC 4 qbo4 rfl rfl ⟨1, .chain⟩ (by simp [qbo4]) rfl
    obtain rfl : b3 = true := hC 4 qbo4 rfl rfl ⟨3, .data⟩ (by simp [qbo4]) rfl
    obtain rfl : b2 = true := hC 3 qbo3 rfl rfl ⟨2, .data⟩ (by simp [qbo3]) rfl
    obtain rfl : b0 = true := hC 1 qbo1 rfl rfl ⟨0, .data⟩ (by simp [qbo1]) rfl
    obtain rfl : b8 = false := by
      cases b8 with
      | false => rfl
      | true => exact Bool.noConfusion (show false = true from hC 8 qbo8 rfl rfl ⟨7, .data⟩ (by simp [qbo8]) rfl)
    obtain rfl : b9 = false := by
      cases b9 with
      | false => rfl
      | true => exact Bool.noConfusion (show false = true from hC 9 qbo9 rfl rfl ⟨8, .data⟩ (by simp [qbo9]) rfl)
    obtain rfl : b10 = false := by
      cases b10 with
      | false => rfl
      | true => exact Bool.noConfusion (show false = true from hC 10 qbo10 rfl rfl ⟨9, .data⟩ (by simp [qbo10]) rfl)
    exact qb_s7 w0 X3 X8 qb tq cp V0 N4 V4 z1 z2 sA mc L o4 sa sb sc se sf sh sk sm sn so sp sq sr ss su sv sw sx sy sz ta tb tc td te tf tg th ti tj tk tl tm tn tp tr ts tt tu tv tw tx ty tz ua ub uc ud ue uf ug uh ui uj uk ul um un uo up uq ur us ut uu uv uw ux uy uz ya yb yc yd ye yf  XP w hc4 hn1 hn2 hB hx3 hx8 hsg hhp
  · obtain rfl : qbo8 = o := Option.some.inj ho
    obtain rfl : b8 = false := h0
    obtain rfl : b7 = true := h1 ⟨7, .data⟩ (by simp [qbo8]) rfl
    obtain rfl : b6 = true := h1 ⟨6, .guard⟩ (by simp [qbo8]) rfl
    obtain rfl : b4 = true := hC 6 qbo6 rfl rfl ⟨4, .chain⟩ (by simp [qbo6]) rfl
    obtain rfl : b5 = true := hC 6 qbo6 rfl rfl ⟨5, .data⟩ (by simp [qbo6]) rfl
    obtain rfl : b1 = true := hC 4 qbo4 rfl rfl ⟨1, .chain⟩ (by simp [qbo4]) rfl
    obtain rfl : b3 = true := hC 4 qbo4 rfl rfl ⟨3, .data⟩ (by simp [qbo4]) rfl
    obtain rfl : b2 = true := hC 3 qbo3 rfl rfl ⟨2, .data⟩ (by simp [qbo3]) rfl
    obtain rfl : b0 = true := hC 1 qbo1 rfl rfl ⟨0, .data⟩ (by simp [qbo1]) rfl
    obtain rfl : b9 = false := by
      cases b9 with
      | false => rfl
      | true => exact Bool.noConfusion (show false = true from hC 9 qbo9 rfl rfl ⟨8, .data⟩ (by simp [qbo9]) rfl)
    obtain rfl : b10 = false := by
      cases b10 with
      | false => rfl
      | true => exact Bool.noConfusion (show false = true from hC 10 qbo10 rfl rfl ⟨9, .data⟩ (by simp [qbo10]) rfl)
    exact qb_s8 w0 X3 X8 qb tq cp V0 N4 V4 z1 z2 sA mc L o4 sa sb sc se sf sh sk sm sn so sp sq sr ss su sv sw sx sy sz ta tb tc td te tf tg th ti tj tk tl tm tn tp tr ts tt tu tv tw tx ty tz ua ub uc ud ue uf ug uh ui uj uk ul um un uo up uq ur us ut uu uv uw ux uy uz ya yb yc yd ye yf  XP w hc4 hn1 hn2 hB hx3 hx8 hsg hhp
  · obtain rfl : qbo9 = o := Option.some.inj ho
    obtain rfl : b9 = false := h0
    obtain rfl : b8 = true := h1 ⟨8, .data⟩ (by simp [qbo9]) rfl
    obtain rfl : b6 = true := h1 ⟨6, .guard⟩ (by simp [qbo9]) rfl
    obtain rfl : b7 = true := hC 8 qbo8 rfl rfl ⟨7, .data⟩ (by simp [qbo8]) rfl
    obtain rfl : b4 = true := hC 6 qbo6 rfl rfl ⟨4, .chain⟩ (by simp [qbo6]) rfl
    obtain rfl : b5 = true := hC 6 qbo6 rfl rfl ⟨5, .data⟩ (by simp [qbo6]) rfl
    obtain rfl : b1 = true := hC 4 qbo4 rfl rfl ⟨1, .chain⟩ (by simp [qbo4]) rfl
    obtain rfl : b3 = true := hC 4 qbo4 rfl rfl ⟨3, .data⟩ (by simp [qbo4]) rfl
    obtain rfl : b2 = true := hC 3 qbo3 rfl rfl ⟨2, .data⟩ (by simp [qbo3]) rfl
    obtain rfl : b0 = true := hC 1 qbo1 rfl rfl ⟨0, .data⟩ (by simp [qbo1]) rfl
    obtain rfl : b10 = false := by
      cases b10 with
      | false => rfl
      | true => exact Bool.noConfusion (show false = true from hC 10 qbo10 rfl rfl ⟨9, .data⟩ (by simp [qbo10]) rfl)
    exact qb_s9 w0 X3 X8 qb tq cp V0 N4 V4 z1 z2 sA mc L o4 sa sb sc se sf sh sk sm sn so sp sq sr ss su sv sw sx sy sz ta tb tc td te tf tg th ti tj tk tl tm tn tp tr ts tt tu tv tw tx ty tz ua ub uc ud ue uf ug uh ui uj uk ul um un uo up uq ur us ut uu uv uw ux uy uz ya yb yc yd ye yf  XP w hc4 hn1 hn2 hB hx3 hx8 hsg hhp
  · obtain rfl : qbo10 = o := Option.some.inj ho
    obtain rfl : b10 = false := h0
    obtain rfl : b9 = true := h1 ⟨9, .data⟩ (by simp [qbo10]) rfl
    obtain rfl : b6 = true := h1 ⟨6, .data⟩ (by simp [qbo10]) rfl
    obtain rfl : b8 = true := hC 9 qbo9 rfl rfl ⟨8, .data⟩ (by simp [qbo9]) rfl
    obtain rfl : b7 = true := hC 8 qbo8 rfl rfl ⟨7, .data⟩ (by simp [qbo8]) rfl
    obtain rfl : b4 = true := hC 6 qbo6 rfl rfl ⟨4, .chain⟩ (by simp [qbo6]) rfl
    obtain rfl : b5 = true := hC 6 qbo6 rfl rfl ⟨5, .data⟩ (by simp [qbo6]) rfl
    obtain rfl : b1 = true := hC 4 qbo4 rfl rfl ⟨1, .chain⟩ (by simp [qbo4]) rfl
    obtain rfl : b3 = true := hC 4 qbo4 rfl rfl ⟨3, .data⟩ (by simp [qbo4]) rfl
    obtain rfl : b2 = true := hC 3 qbo3 rfl rfl ⟨2, .data⟩ (by simp [qbo3]) rfl
    obtain rfl : b0 = true := hC 1 qbo1 rfl rfl ⟨0, .data⟩ (by simp [qbo1]) rfl
    exact qb_s10 w0 X3 X8 qb tq cp V0 N4 V4 z1 z2 sA mc L o4 sa sb sc se sf sh sk sm sn so sp sq sr ss su sv sw sx sy sz ta tb tc td te tf tg th ti tj tk tl tm tn tp tr ts tt tu tv tw tx ty tz ua ub uc ud ue uf ug uh ui uj uk ul um un uo up uq ur us ut uu uv uw ux uy uz ya yb yc yd ye yf  XP w hc4 hn1 hn2 hB hx3 hx8 hsg hhp
end
set_option maxRecDepth 20000 in
set_option maxHeartbeats 4000000 in
theorem qb_wp {Q : Exit → Act → World → Prop} {rid : Nat} (w0 : World) (X3 X8 qb tq cp : Nat) (V0 N4 V4 : ByteArray) (z1 z2 : Int) (sA : Option Addr) (mc : Nat) (L : List ByteArray) (o4 : Nat → Hp) {sa sb sc se sf sh sk sm sn so sp sq sr ss su sv sw sx sy sz ta tb tc td te tf tg th ti tj tk tl tm tn tp tr ts tt tu tv tw tx ty tz ua ub uc ud ue uf ug uh ui uj uk ul um un uo up uq ur us ut uu uv uw ux uy uz ya yb yc yd ye yf : Value} (w : World) (hB : Below w0.heap.size w0 w) (hx3 : RowAt w X3 72 #[.string V0, .int .i64 z1, .int .i64 z2, .slice sA L.length mc]) (hx8 : RowAt w X8 66 #[.string N4, .string V4]) (hsg : SgAt w sA mc L) (hkp : ∀ wx, Below w0.heap.size w0 wx → SgAt wx sA mc L → Calls Tryz.prog 43 #[.agg #[.string V0, .int .i64 z1, .int .i64 z2, .slice sA L.length mc]] wx fun e w' => ∃ X, e = .returned (.slice (some ⟨X, 0, none⟩) 4 4) ∧ Hps w' (some ⟨X, 0, none⟩) 4 4 o4 ∧ Below wx.heap.size wx w') (hke : ∀ wx X, Below w0.heap.size w0 wx → Hps wx (some ⟨X, 0, none⟩) 4 4 o4 → Calls Tryz.prog 94 #[.slice (some ⟨X, 0, none⟩) 4 4, .slice (some ⟨qb, tq, none⟩) 4 cp] wx fun e w' => e = .returned (.bool true) ∧ Below wx.heap.size wx w') (hc4 : (4 : Int) ≤ (cp : Int)) (hn1 : (N4.toList == [120, 45, 115, 117, 109]) = true) (hn2 : (N4.toList == (⟨#[120, 45, 115, 117, 109]⟩ : ByteArray).toList) = true)
    (fin : ∀ (XP : Nat) (w' : World), (Below w0.heap.size w0 w') → (RowAt w' X3 72 #[.string V0, .int .i64 z1, .int .i64 z2, .slice sA L.length mc]) → (RowAt w' X8 66 #[.string N4, .string V4]) → (SgAt w' sA mc L) → (∀ wx, Below w0.heap.size w0 wx → SgAt wx sA mc L → Calls Tryz.prog 43 #[.agg #[.string V0, .int .i64 z1, .int .i64 z2, .slice sA L.length mc]] wx fun e w' => ∃ X, e = .returned (.slice (some ⟨X, 0, none⟩) 4 4) ∧ Hps w' (some ⟨X, 0, none⟩) 4 4 o4 ∧ Below wx.heap.size wx w') → (∀ wx X, Below w0.heap.size w0 wx → Hps wx (some ⟨X, 0, none⟩) 4 4 o4 → Calls Tryz.prog 94 #[.slice (some ⟨X, 0, none⟩) 4 4, .slice (some ⟨qb, tq, none⟩) 4 cp] wx fun e w' => e = .returned (.bool true) ∧ Below wx.heap.size wx w') → ((4 : Int) ≤ (cp : Int)) → (Hps w' (some ⟨XP, 0, none⟩) 4 4 o4) → ((N4.toList == [120, 45, 115, 117, 109]) = true) → ((N4.toList == (⟨#[120, 45, 115, 117, 109]⟩ : ByteArray).toList) = true) → Q .normal { tmps := #[sa, sb, sc, .pointer (some ⟨X3, 0, none⟩), se, sf, sh, .slice (some ⟨qb, tq, none⟩) 5 cp, .pointer (some ⟨X8, 0, none⟩), sk, sm, sn, so, sp, sq, sr, ss, su, sv, sw, sx, sy, sz, ta, tb, tc, td, te, tf, tg, th, ti, tj, tk, tl, tm, tn, tp, tr, ts, tt, tu, .agg #[.string V0, .int .i64 z1, .int .i64 z2, .slice sA L.length mc], .slice (some ⟨XP, 0, none⟩) 4 4, .slice (some ⟨qb, tq, none⟩) 5 cp, .slice (some ⟨qb, tq, none⟩) 4 cp, .bool true, .bool false, .bool false, .pointer (some ⟨X8, 0, none⟩), .string N4, .bool false, .bool false, ug, uh, ui, uj, uk, ul, um, un, uo, up, uq, ur, us, ut, uu, uv, uw, ux, uy, uz, ya, yb, yc, yd, ye, yf], defers := [] } w') :
    (Code.region rid qbO true).wp Tryz.prog Q { tmps := #[sa, sb, sc, .pointer (some ⟨X3, 0, none⟩), se, sf, sh, .slice (some ⟨qb, tq, none⟩) 5 cp, .pointer (some ⟨X8, 0, none⟩), sk, sm, sn, so, sp, sq, sr, ss, su, sv, sw, sx, sy, sz, ta, tb, tc, td, te, tf, tg, th, ti, tj, tk, tl, tm, tn, tp, tr, ts, tt, tu, tv, tw, tx, ty, tz, ua, ub, uc, ud, ue, uf, ug, uh, ui, uj, uk, ul, um, un, uo, up, uq, ur, us, ut, uu, uv, uw, ux, uy, uz, ya, yb, yc, yd, ye, yf], defers := [] } w := by
  refine wp_region_inv (ops := qbO) (qbI w0 X3 X8 qb tq cp V0 N4 V4 z1 z2 sA mc L o4 sa sb sc se sf sh sk sm sn so sp sq sr ss su sv sw sx sy sz ta tb tc td te tf tg th ti tj tk tl tm tn tp tr ts tt tu tv tw tx ty tz ua ub uc ud ue uf ug uh ui uj uk ul um un uo up uq ur us ut uu uv uw ux uy uz ya yb yc yd ye yf) (by kernel_rfl) (by kernel_rfl) (fun l f v hI => ?_) (fun l f v hC hI i h0 o ho h1 => qb_step w0 X3 X8 qb tq cp V0 N4 V4 z1 z2 sA mc L o4 sa sb sc se sf sh sk sm sn so sp sq sr ss su sv sw sx sy sz ta tb tc td te tf tg th ti tj tk tl tm tn tp tr ts tt tu tv tw tx ty tz ua ub uc ud ue uf ug uh ui uj uk ul um un uo up uq ur us ut uu uv uw ux uy uz ya yb yc yd ye yf hkp hke hc4 hn1 hn2 l f v hC hI i h0 o ho h1) (fun l f v hI hall => ?_) ?_
  · obtain ⟨_, _, _, _, _, _, _, _, _, _, _, _, rfl, _⟩ := hI; rfl
  · obtain ⟨b0, b1, b2, b3, b4, b5, b6, b7, b8, b9, b10, XP, rfl, rfl, hB, hx3, hx8, hsg, hhp⟩ := hI
    obtain rfl : b0 = true := hall 0 (by simp)
    obtain rfl : b1 = true := hall 1 (by simp)
    obtain rfl : b2 = true := hall 2 (by simp)
    obtain rfl : b3 = true := hall 3 (by simp)
    obtain rfl : b4 = true := hall 4 (by simp)
    obtain rfl : b5 = true := hall 5 (by simp)
    obtain rfl : b6 = true := hall 6 (by simp)
    obtain rfl : b7 = true := hall 7 (by simp)
    obtain rfl : b8 = true := hall 8 (by simp)
    obtain rfl : b9 = true := hall 9 (by simp)
    obtain rfl : b10 = true := hall 10 (by simp)
    exact fin XP v hB hx3 hx8 hsg hkp hke hc4 (hhp rfl) hn1 hn2
  · exact ⟨false, false, false, false, false, false, false, false, false, false, false, 0, rfl, rfl, hB.drew, hx3.drew, hx8.drew, hsg.below ((Below.refl _ _).drew), fun h => Bool.noConfusion h⟩
def qco0 : Oper := { dst := some 42, op := Op.load 72 (Operand.tmp 3), type := 72, pos := "l10_request.go:475", after := #[], guard := none }
def qco1 : Oper := { dst := some 43, op := Op.call { callee := Callee.value (Operand.func 43), args := #[Operand.tmp 42], argTypes := #[72] }, type := 23, pos := "l10_request.go:475", after := #[{ on := 0, ground := Ground.data }], guard := none }
def qco2 : Oper := { dst := some 44, op := Op.move (Operand.tmp 7), type := 23, pos := "l10_request.go:475", after := #[], guard := none }
def qco3 : Oper := { dst := some 45, op := Op.slice 23 (Operand.tmp 44) none (some (Operand.const (Value.int IntKind.i64 4))) none, type := 23, pos := "l10_request.go:475", after := #[{ on := 2, ground := Ground.data }], guard := none }
def qco4 : Oper := { dst := some 46, op := Op.call { callee := Callee.value (Operand.func 94), args := #[Operand.tmp 43, Operand.tmp 45], argTypes := #[23, 23] }, type := 4, pos := "l10_request.go:475", after := #[{ on := 1, ground := Ground.data }, { on := 3, ground := Ground.data }, { on := 1, ground := Ground.chain }], guard := none }
def qco5 : Oper := { dst := some 47, op := Op.unOp UnOp.not 4 (Operand.tmp 46), type := 4, pos := "l10_request.go:475", after := #[{ on := 4, ground := Ground.data }], guard := none }
def qco6 : Oper := { dst := some 48, op := Op.move (Operand.tmp 47), type := 4, pos := "l10_request.go:475", after := #[{ on := 5, ground := Ground.data }, { on := 4, ground := Ground.chain }], guard := none }
def qco7 : Oper := { dst := some 49, op := Op.fieldAddr 66 (Operand.tmp 8) 0, type := 0, pos := "l10_request.go:475", after := #[{ on := 6, ground := Ground.guard }], guard := some (6, false) }
def qco8 : Oper := { dst := some 50, op := Op.load 9 (Operand.tmp 49), type := 9, pos := "l10_request.go:475", after := #[{ on := 7, ground := Ground.data }, { on := 6, ground := Ground.guard }], guard := some (6, false) }
def qco9 : Oper := { dst := some 51, op := Op.binOp BinOp.neq 9 (Operand.tmp 50) (Operand.const (Value.string { data := #[120, 45, 115, 117, 109] })) 9, type := 4, pos := "l10_request.go:475", after := #[{ on := 8, ground := Ground.data }, { on := 6, ground := Ground.guard }], guard := some (6, false) }
def qco10 : Oper := { dst := some 52, op := Op.pick (Operand.tmp 48) (Operand.const (Value.bool true)) (Operand.tmp 51), type := 4, pos := "l10_request.go:475", after := #[{ on := 6, ground := Ground.data }, { on := 9, ground := Ground.data }], guard := none }
def qcO : Array Oper := #[qco0, qco1, qco2, qco3, qco4, qco5, qco6, qco7, qco8, qco9, qco10]
def qcT (w0 : World) (X3 X8 qb tq cp : Nat) (V0 N4 V4 : ByteArray) (z1 z2 : Int) (sA : Option Addr) (mc : Nat) (L : List ByteArray) (o4 : Nat → Hp) (sa sb sc se sf sh sk sm sn so sp sq sr ss su sv sw sx sy sz ta tb tc td te tf tg th ti tj tk tl tm tn tp tr ts tt tu tv tw tx ty tz ua ub uc ud ue uf ug uh ui uj uk ul um un uo up uq ur us ut uu uv uw ux uy uz ya yb yc yd ye yf : Value) (XP : Nat) (b0 b1 b2 b3 b4 b5 b6 b7 b8 b9 b10 : Bool) : Array Value := #[sa, sb, sc, .pointer (some ⟨X3, 0, none⟩), se, sf, sh, .slice (some ⟨qb, tq, none⟩) 5 cp, .pointer (some ⟨X8, 0, none⟩), sk, sm, sn, so, sp, sq, sr, ss, su, sv, sw, sx, sy, sz, ta, tb, tc, td, te, tf, tg, th, ti, tj, tk, tl, tm, tn, tp, tr, ts, tt, tu, selS b0 (.agg #[.string V0, .int .i64 z1, .int .i64 z2, .slice sA L.length mc]) (tv), selS b1 (.slice (some ⟨XP, 0, none⟩) 4 4) (tw), selS b2 (.slice (some ⟨qb, tq, none⟩) 5 cp) (tx), selS b3 (.slice (some ⟨qb, tq, none⟩) 4 cp) (ty), selS b4 (.bool true) (tz), selS b5 (.bool false) (ua), selS b6 (.bool false) (ub), selS b7 (.pointer (some ⟨X8, 0, none⟩)) (uc), selS b8 (.string N4) (ud), selS b9 (.bool true) (ue), selS b10 (.bool true) (uf), ug, uh, ui, uj, uk, ul, um, un, uo, up, uq, ur, us, ut, uu, uv, uw, ux, uy, uz, ya, yb, yc, yd, ye, yf]
def qcI (w0 : World) (X3 X8 qb tq cp : Nat) (V0 N4 V4 : ByteArray) (z1 z2 : Int) (sA : Option Addr) (mc : Nat) (L : List ByteArray) (o4 : Nat → Hp) (sa sb sc se sf sh sk sm sn so sp sq sr ss su sv sw sx sy sz ta tb tc td te tf tg th ti tj tk tl tm tn tp tr ts tt tu tv tw tx ty tz ua ub uc ud ue uf ug uh ui uj uk ul um un uo up uq ur us ut uu uv uw ux uy uz ya yb yc yd ye yf : Value) (l : Array Bool) (f : Act) (w : World) : Prop :=
  ∃ (b0 b1 b2 b3 b4 b5 b6 b7 b8 b9 b10 : Bool) (XP : Nat), l = #[b0, b1, b2, b3, b4, b5, b6, b7, b8, b9, b10] ∧ f = { tmps := qcT w0 X3 X8 qb tq cp V0 N4 V4 z1 z2 sA mc L o4 sa sb sc se sf sh sk sm sn so sp sq sr ss su sv sw sx sy sz ta tb tc td te tf tg th ti tj tk tl tm tn tp tr ts tt tu tv tw tx ty tz ua ub uc ud ue uf ug uh ui uj uk ul um un uo up uq ur us ut uu uv uw ux uy uz ya yb yc yd ye yf XP b0 b1 b2 b3 b4 b5 b6 b7 b8 b9 b10, defers := [] } ∧ (Below w0.heap.size w0 w) ∧ (RowAt w X3 72 #[.string V0, .int .i64 z1, .int .i64 z2, .slice sA L.length mc]) ∧ (RowAt w X8 66 #[.string N4, .string V4]) ∧ (SgAt w sA mc L) ∧ (b1 = true → Hps w (some ⟨XP, 0, none⟩) 4 4 o4)
section
variable {Q : Exit → Act → World → Prop} (w0 : World) (X3 X8 qb tq cp : Nat) (V0 N4 V4 : ByteArray) (z1 z2 : Int) (sA : Option Addr) (mc : Nat) (L : List ByteArray) (o4 : Nat → Hp) (sa sb sc se sf sh sk sm sn so sp sq sr ss su sv sw sx sy sz ta tb tc td te tf tg th ti tj tk tl tm tn tp tr ts tt tu tv tw tx ty tz ua ub uc ud ue uf ug uh ui uj uk ul um un uo up uq ur us ut uu uv uw ux uy uz ya yb yc yd ye yf : Value)
set_option maxRecDepth 20000 in
set_option maxHeartbeats 1000000 in
theorem qc_s0 (b2 b3 : Bool) (XP : Nat) (w : World) (hc4 : (4 : Int) ≤ (cp : Int)) (hn1 : (N4.toList == [120, 45, 115, 117, 109]) = false) (hn2 : (N4.toList == (⟨#[120, 45, 115, 117, 109]⟩ : ByteArray).toList) = false) (hB : Below w0.heap.size w0 w) (hx3 : RowAt w X3 72 #[.string V0, .int .i64 z1, .int .i64 z2, .slice sA L.length mc]) (hx8 : RowAt w X8 66 #[.string N4, .string V4]) (hsg : SgAt w sA mc L) (hhp : false = true → Hps w (some ⟨XP, 0, none⟩) 4 4 o4) :
    wpOp Tryz.prog qcO Q 0 (qcI w0 X3 X8 qb tq cp V0 N4 V4 z1 z2 sA mc L o4 sa sb sc se sf sh sk sm sn so sp sq sr ss su sv sw sx sy sz ta tb tc td te tf tg th ti tj tk tl tm tn tp tr ts tt tu tv tw tx ty tz ua ub uc ud ue uf ug uh ui uj uk ul um un uo up uq ur us ut uu uv uw ux uy uz ya yb yc yd ye yf #[true, false, b2, b3, false, false, false, false, false, false, false]) { tmps := qcT w0 X3 X8 qb tq cp V0 N4 V4 z1 z2 sA mc L o4 sa sb sc se sf sh sk sm sn so sp sq sr ss su sv sw sx sy sz ta tb tc td te tf tg th ti tj tk tl tm tn tp tr ts tt tu tv tw tx ty tz ua ub uc ud ue uf ug uh ui uj uk ul um un uo up uq ur us ut uu uv uw ux uy uz ya yb yc yd ye yf XP false false b2 b3 false false false false false false false, defers := [] } w := by
  have q0 := hx3.cell 0
  have q1 := hx3.cell 1
  have q2 := hx3.cell 2
  have q3 := hx3.cell 3
  refine wpOp_step (o := qco0) rfl (fun K hK => ?_)
  replace hK := hid hK
  simp only [qco0, qcT, selS_f]
  go_simp
  exact hK.out _ _ ⟨true, false, b2, b3, false, false, false, false, false, false, false, XP, rfl, rfl, hB, hx3, hx8, hsg, fun h => Bool.noConfusion h⟩
set_option maxRecDepth 20000 in
set_option maxHeartbeats 1000000 in
theorem qc_s1 (b2 b3 : Bool) (XP : Nat) (w : World) (hkp : ∀ wx, Below w0.heap.size w0 wx → SgAt wx sA mc L → Calls Tryz.prog 43 #[.agg #[.string V0, .int .i64 z1, .int .i64 z2, .slice sA L.length mc]] wx fun e w' => ∃ X, e = .returned (.slice (some ⟨X, 0, none⟩) 4 4) ∧ Hps w' (some ⟨X, 0, none⟩) 4 4 o4 ∧ Below wx.heap.size wx w') (hc4 : (4 : Int) ≤ (cp : Int)) (hn1 : (N4.toList == [120, 45, 115, 117, 109]) = false) (hn2 : (N4.toList == (⟨#[120, 45, 115, 117, 109]⟩ : ByteArray).toList) = false) (hB : Below w0.heap.size w0 w) (hx3 : RowAt w X3 72 #[.string V0, .int .i64 z1, .int .i64 z2, .slice sA L.length mc]) (hx8 : RowAt w X8 66 #[.string N4, .string V4]) (hsg : SgAt w sA mc L) (hhp : false = true → Hps w (some ⟨XP, 0, none⟩) 4 4 o4) :
    wpOp Tryz.prog qcO Q 1 (qcI w0 X3 X8 qb tq cp V0 N4 V4 z1 z2 sA mc L o4 sa sb sc se sf sh sk sm sn so sp sq sr ss su sv sw sx sy sz ta tb tc td te tf tg th ti tj tk tl tm tn tp tr ts tt tu tv tw tx ty tz ua ub uc ud ue uf ug uh ui uj uk ul um un uo up uq ur us ut uu uv uw ux uy uz ya yb yc yd ye yf #[true, true, b2, b3, false, false, false, false, false, false, false]) { tmps := qcT w0 X3 X8 qb tq cp V0 N4 V4 z1 z2 sA mc L o4 sa sb sc se sf sh sk sm sn so sp sq sr ss su sv sw sx sy sz ta tb tc td te tf tg th ti tj tk tl tm tn tp tr ts tt tu tv tw tx ty tz ua ub uc ud ue uf ug uh ui uj uk ul um un uo up uq ur us ut uu uv uw ux uy uz ya yb yc yd ye yf XP true false b2 b3 false false false false false false false, defers := [] } w := by
  refine wpOp_step (o := qco1) rfl (fun K hK => ?_)
  replace hK := hid hK
  simp only [qco1, qcT, selS_t, selS_f]
  go_simp
  refine (hkp _ hB hsg).mono ?_
  rintro e w2 ⟨X9, rfl, hh9, hb2⟩
  dsimp only
  exact hK.out _ _ ⟨true, true, b2, b3, false, false, false, false, false, false, false, X9, rfl, rfl, hB.trans (hb2.mono hB.size), RowAt.nxS hb2 hx3, RowAt.nxS hb2 hx8, hsg.below hb2, fun _ => hh9⟩
set_option maxRecDepth 20000 in
set_option maxHeartbeats 1000000 in
theorem qc_s2 (b0 b1 : Bool) (XP : Nat) (w : World) (hc4 : (4 : Int) ≤ (cp : Int)) (hn1 : (N4.toList == [120, 45, 115, 117, 109]) = false) (hn2 : (N4.toList == (⟨#[120, 45, 115, 117, 109]⟩ : ByteArray).toList) = false) (hB : Below w0.heap.size w0 w) (hx3 : RowAt w X3 72 #[.string V0, .int .i64 z1, .int .i64 z2, .slice sA L.length mc]) (hx8 : RowAt w X8 66 #[.string N4, .string V4]) (hsg : SgAt w sA mc L) (hhp : b1 = true → Hps w (some ⟨XP, 0, none⟩) 4 4 o4) :
    wpOp Tryz.prog qcO Q 2 (qcI w0 X3 X8 qb tq cp V0 N4 V4 z1 z2 sA mc L o4 sa sb sc se sf sh sk sm sn so sp sq sr ss su sv sw sx sy sz ta tb tc td te tf tg th ti tj tk tl tm tn tp tr ts tt tu tv tw tx ty tz ua ub uc ud ue uf ug uh ui uj uk ul um un uo up uq ur us ut uu uv uw ux uy uz ya yb yc yd ye yf #[b0, b1, true, false, false, false, false, false, false, false, false]) { tmps := qcT w0 X3 X8 qb tq cp V0 N4 V4 z1 z2 sA mc L o4 sa sb sc se sf sh sk sm sn so sp sq sr ss su sv sw sx sy sz ta tb tc td te tf tg th ti tj tk tl tm tn tp tr ts tt tu tv tw tx ty tz ua ub uc ud ue uf ug uh ui uj uk ul um un uo up uq ur us ut uu uv uw ux uy uz ya yb yc yd ye yf XP b0 b1 false false false false false false false false false, defers := [] } w := by
  refine wpOp_step (o := qco2) rfl (fun K hK => ?_)
  replace hK := hid hK
  simp only [qco2, qcT, selS_f]
  go_simp
  exact hK.out _ _ ⟨b0, b1, true, false, false, false, false, false, false, false, false, XP, rfl, rfl, hB, hx3, hx8, hsg, hhp⟩
set_option maxRecDepth 20000 in
set_option maxHeartbeats 1000000 in
theorem qc_s3 (b0 b1 : Bool) (XP : Nat) (w : World) (hc4 : (4 : Int) ≤ (cp : Int)) (hn1 : (N4.toList == [120, 45, 115, 117, 109]) = false) (hn2 : (N4.toList == (⟨#[120, 45, 115, 117, 109]⟩ : ByteArray).toList) = false) (hB : Below w0.heap.size w0 w) (hx3 : RowAt w X3 72 #[.string V0, .int .i64 z1, .int .i64 z2, .slice sA L.length mc]) (hx8 : RowAt w X8 66 #[.string N4, .string V4]) (hsg : SgAt w sA mc L) (hhp : b1 = true → Hps w (some ⟨XP, 0, none⟩) 4 4 o4) :
    wpOp Tryz.prog qcO Q 3 (qcI w0 X3 X8 qb tq cp V0 N4 V4 z1 z2 sA mc L o4 sa sb sc se sf sh sk sm sn so sp sq sr ss su sv sw sx sy sz ta tb tc td te tf tg th ti tj tk tl tm tn tp tr ts tt tu tv tw tx ty tz ua ub uc ud ue uf ug uh ui uj uk ul um un uo up uq ur us ut uu uv uw ux uy uz ya yb yc yd ye yf #[b0, b1, true, true, false, false, false, false, false, false, false]) { tmps := qcT w0 X3 X8 qb tq cp V0 N4 V4 z1 z2 sA mc L o4 sa sb sc se sf sh sk sm sn so sp sq sr ss su sv sw sx sy sz ta tb tc td te tf tg th ti tj tk tl tm tn tp tr ts tt tu tv tw tx ty tz ua ub uc ud ue uf ug uh ui uj uk ul um un uo up uq ur us ut uu uv uw ux uy uz ya yb yc yd ye yf XP b0 b1 true false false false false false false false false, defers := [] } w := by
  refine wpOp_step (o := qco3) rfl (fun K hK => ?_)
  replace hK := hid hK
  simp only [qco3, qcT, selS_t, selS_f]
  go_simp
  exact hK.out _ _ ⟨b0, b1, true, true, false, false, false, false, false, false, false, XP, rfl, rfl, hB, hx3, hx8, hsg, hhp⟩
set_option maxRecDepth 20000 in
set_option maxHeartbeats 1000000 in
theorem qc_s4 (XP : Nat) (w : World) (hke : ∀ wx X, Below w0.heap.size w0 wx → Hps wx (some ⟨X, 0, none⟩) 4 4 o4 → Calls Tryz.prog 94 #[.slice (some ⟨X, 0, none⟩) 4 4, .slice (some ⟨qb, tq, none⟩) 4 cp] wx fun e w' => e = .returned (.bool true) ∧ Below wx.heap.size wx w') (hc4 : (4 : Int) ≤ (cp : Int)) (hn1 : (N4.toList == [120, 45, 115, 117, 109]) = false) (hn2 : (N4.toList == (⟨#[120, 45, 115, 117, 109]⟩ : ByteArray).toList) = false) (hB : Below w0.heap.size w0 w) (hx3 : RowAt w X3 72 #[.string V0, .int .i64 z1, .int .i64 z2, .slice sA L.length mc]) (hx8 : RowAt w X8 66 #[.string N4, .string V4]) (hsg : SgAt w sA mc L) (hhp : true = true → Hps w (some ⟨XP, 0, none⟩) 4 4 o4) :
    wpOp Tryz.prog qcO Q 4 (qcI w0 X3 X8 qb tq cp V0 N4 V4 z1 z2 sA mc L o4 sa sb sc se sf sh sk sm sn so sp sq sr ss su sv sw sx sy sz ta tb tc td te tf tg th ti tj tk tl tm tn tp tr ts tt tu tv tw tx ty tz ua ub uc ud ue uf ug uh ui uj uk ul um un uo up uq ur us ut uu uv uw ux uy uz ya yb yc yd ye yf #[true, true, true, true, true, false, false, false, false, false, false]) { tmps := qcT w0 X3 X8 qb tq cp V0 N4 V4 z1 z2 sA mc L o4 sa sb sc se sf sh sk sm sn so sp sq sr ss su sv sw sx sy sz ta tb tc td te tf tg th ti tj tk tl tm tn tp tr ts tt tu tv tw tx ty tz ua ub uc ud ue uf ug uh ui uj uk ul um un uo up uq ur us ut uu uv uw ux uy uz ya yb yc yd ye yf XP true true true true false false false false false false false, defers := [] } w := by
  refine wpOp_step (o := qco4) rfl (fun K hK => ?_)
  replace hK := hid hK
  simp only [qco4, qcT, selS_t, selS_f]
  go_simp
  refine (hke _ _ hB (hhp rfl)).mono ?_
  rintro e w2 ⟨rfl, hb2⟩
  dsimp only
  exact hK.out _ _ ⟨true, true, true, true, true, false, false, false, false, false, false, XP, rfl, rfl, hB.trans (hb2.mono hB.size), RowAt.nxS hb2 hx3, RowAt.nxS hb2 hx8, hsg.below hb2, fun h => (hhp h).below hb2⟩
set_option maxRecDepth 20000 in
set_option maxHeartbeats 1000000 in
theorem qc_s5 (XP : Nat) (w : World) (hc4 : (4 : Int) ≤ (cp : Int)) (hn1 : (N4.toList == [120, 45, 115, 117, 109]) = false) (hn2 : (N4.toList == (⟨#[120, 45, 115, 117, 109]⟩ : ByteArray).toList) = false) (hB : Below w0.heap.size w0 w) (hx3 : RowAt w X3 72 #[.string V0, .int .i64 z1, .int .i64 z2, .slice sA L.length mc]) (hx8 : RowAt w X8 66 #[.string N4, .string V4]) (hsg : SgAt w sA mc L) (hhp : true = true → Hps w (some ⟨XP, 0, none⟩) 4 4 o4) :
    wpOp Tryz.prog qcO Q 5 (qcI w0 X3 X8 qb tq cp V0 N4 V4 z1 z2 sA mc L o4 sa sb sc se sf sh sk sm sn so sp sq sr ss su sv sw sx sy sz ta tb tc td te tf tg th ti tj tk tl tm tn tp tr ts tt tu tv tw tx ty tz ua ub uc ud ue uf ug uh ui uj uk ul um un uo up uq ur us ut uu uv uw ux uy uz ya yb yc yd ye yf #[true, true, true, true, true, true, false, false, false, false, false]) { tmps := qcT w0 X3 X8 qb tq cp V0 N4 V4 z1 z2 sA mc L o4 sa sb sc se sf sh sk sm sn so sp sq sr ss su sv sw sx sy sz ta tb tc td te tf tg th ti tj tk tl tm tn tp tr ts tt tu tv tw tx ty tz ua ub uc ud ue uf ug uh ui uj uk ul um un uo up uq ur us ut uu uv uw ux uy uz ya yb yc yd ye yf XP true true true true true false false false false false false, defers := [] } w := by
  refine wpOp_step (o := qco5) rfl (fun K hK => ?_)
  replace hK := hid hK
  simp only [qco5, qcT, selS_t, selS_f]
  go_simp
  exact hK.out _ _ ⟨true, true, true, true, true, true, false, false, false, false, false, XP, rfl, rfl, hB, hx3, hx8, hsg, hhp⟩
set_option maxRecDepth 20000 in
set_option maxHeartbeats 1000000 in
theorem qc_s6 (XP : Nat) (w : World) (hc4 : (4 : Int) ≤ (cp : Int)) (hn1 : (N4.toList == [120, 45, 115, 117, 109]) = false) (hn2 : (N4.toList == (⟨#[120, 45, 115, 117, 109]⟩ : ByteArray).toList) = false) (hB : Below w0.heap.size w0 w) (hx3 : RowAt w X3 72 #[.string V0, .int .i64 z1, .int .i64 z2, .slice sA L.length mc]) (hx8 : RowAt w X8 66 #[.string N4, .string V4]) (hsg : SgAt w sA mc L) (hhp : true = true → Hps w (some ⟨XP, 0, none⟩) 4 4 o4) :
    wpOp Tryz.prog qcO Q 6 (qcI w0 X3 X8 qb tq cp V0 N4 V4 z1 z2 sA mc L o4 sa sb sc se sf sh sk sm sn so sp sq sr ss su sv sw sx sy sz ta tb tc td te tf tg th ti tj tk tl tm tn tp tr ts tt tu tv tw tx ty tz ua ub uc ud ue uf ug uh ui uj uk ul um un uo up uq ur us ut uu uv uw ux uy uz ya yb yc yd ye yf #[true, true, true, true, true, true, true, false, false, false, false]) { tmps := qcT w0 X3 X8 qb tq cp V0 N4 V4 z1 z2 sA mc L o4 sa sb sc se sf sh sk sm sn so sp sq sr ss su sv sw sx sy sz ta tb tc td te tf tg th ti tj tk tl tm tn tp tr ts tt tu tv tw tx ty tz ua ub uc ud ue uf ug uh ui uj uk ul um un uo up uq ur us ut uu uv uw ux uy uz ya yb yc yd ye yf XP true true true true true true false false false false false, defers := [] } w := by
  refine wpOp_step (o := qco6) rfl (fun K hK => ?_)
  replace hK := hid hK
  simp only [qco6, qcT, selS_t, selS_f]
  go_simp
  exact hK.out _ _ ⟨true, true, true, true, true, true, true, false, false, false, false, XP, rfl, rfl, hB, hx3, hx8, hsg, hhp⟩
set_option maxRecDepth 20000 in
set_option maxHeartbeats 1000000 in
theorem qc_s7 (XP : Nat) (w : World) (hc4 : (4 : Int) ≤ (cp : Int)) (hn1 : (N4.toList == [120, 45, 115, 117, 109]) = false) (hn2 : (N4.toList == (⟨#[120, 45, 115, 117, 109]⟩ : ByteArray).toList) = false) (hB : Below w0.heap.size w0 w) (hx3 : RowAt w X3 72 #[.string V0, .int .i64 z1, .int .i64 z2, .slice sA L.length mc]) (hx8 : RowAt w X8 66 #[.string N4, .string V4]) (hsg : SgAt w sA mc L) (hhp : true = true → Hps w (some ⟨XP, 0, none⟩) 4 4 o4) :
    wpOp Tryz.prog qcO Q 7 (qcI w0 X3 X8 qb tq cp V0 N4 V4 z1 z2 sA mc L o4 sa sb sc se sf sh sk sm sn so sp sq sr ss su sv sw sx sy sz ta tb tc td te tf tg th ti tj tk tl tm tn tp tr ts tt tu tv tw tx ty tz ua ub uc ud ue uf ug uh ui uj uk ul um un uo up uq ur us ut uu uv uw ux uy uz ya yb yc yd ye yf #[true, true, true, true, true, true, true, true, false, false, false]) { tmps := qcT w0 X3 X8 qb tq cp V0 N4 V4 z1 z2 sA mc L o4 sa sb sc se sf sh sk sm sn so sp sq sr ss su sv sw sx sy sz ta tb tc td te tf tg th ti tj tk tl tm tn tp tr ts tt tu tv tw tx ty tz ua ub uc ud ue uf ug uh ui uj uk ul um un uo up uq ur us ut uu uv uw ux uy uz ya yb yc yd ye yf XP true true true true true true true false false false false, defers := [] } w := by
  refine wpOp_step (o := qco7) rfl (fun K hK => ?_)
  replace hK := hid hK
  simp only [qco7, qcT, selS_t, selS_f]
  go_simp
  exact hK.out _ _ ⟨true, true, true, true, true, true, true, true, false, false, false, XP, rfl, rfl, hB, hx3, hx8, hsg, hhp⟩
set_option maxRecDepth 20000 in
set_option maxHeartbeats 1000000 in
theorem qc_s8 (XP : Nat) (w : World) (hc4 : (4 : Int) ≤ (cp : Int)) (hn1 : (N4.toList == [120, 45, 115, 117, 109]) = false) (hn2 : (N4.toList == (⟨#[120, 45, 115, 117, 109]⟩ : ByteArray).toList) = false) (hB : Below w0.heap.size w0 w) (hx3 : RowAt w X3 72 #[.string V0, .int .i64 z1, .int .i64 z2, .slice sA L.length mc]) (hx8 : RowAt w X8 66 #[.string N4, .string V4]) (hsg : SgAt w sA mc L) (hhp : true = true → Hps w (some ⟨XP, 0, none⟩) 4 4 o4) :
    wpOp Tryz.prog qcO Q 8 (qcI w0 X3 X8 qb tq cp V0 N4 V4 z1 z2 sA mc L o4 sa sb sc se sf sh sk sm sn so sp sq sr ss su sv sw sx sy sz ta tb tc td te tf tg th ti tj tk tl tm tn tp tr ts tt tu tv tw tx ty tz ua ub uc ud ue uf ug uh ui uj uk ul um un uo up uq ur us ut uu uv uw ux uy uz ya yb yc yd ye yf #[true, true, true, true, true, true, true, true, true, false, false]) { tmps := qcT w0 X3 X8 qb tq cp V0 N4 V4 z1 z2 sA mc L o4 sa sb sc se sf sh sk sm sn so sp sq sr ss su sv sw sx sy sz ta tb tc td te tf tg th ti tj tk tl tm tn tp tr ts tt tu tv tw tx ty tz ua ub uc ud ue uf ug uh ui uj uk ul um un uo up uq ur us ut uu uv uw ux uy uz ya yb yc yd ye yf XP true true true true true true true true false false false, defers := [] } w := by
  have q0 := hx8.cell 0
  refine wpOp_step (o := qco8) rfl (fun K hK => ?_)
  replace hK := hid hK
  simp only [qco8, qcT, selS_t, selS_f]
  go_simp
  exact hK.out _ _ ⟨true, true, true, true, true, true, true, true, true, false, false, XP, rfl, rfl, hB, hx3, hx8, hsg, hhp⟩
set_option maxRecDepth 20000 in
set_option maxHeartbeats 1000000 in
theorem qc_s9 (XP : Nat) (w : World) (hc4 : (4 : Int) ≤ (cp : Int)) (hn1 : (N4.toList == [120, 45, 115, 117, 109]) = false) (hn2 : (N4.toList == (⟨#[120, 45, 115, 117, 109]⟩ : ByteArray).toList) = false) (hB : Below w0.heap.size w0 w) (hx3 : RowAt w X3 72 #[.string V0, .int .i64 z1, .int .i64 z2, .slice sA L.length mc]) (hx8 : RowAt w X8 66 #[.string N4, .string V4]) (hsg : SgAt w sA mc L) (hhp : true = true → Hps w (some ⟨XP, 0, none⟩) 4 4 o4) :
    wpOp Tryz.prog qcO Q 9 (qcI w0 X3 X8 qb tq cp V0 N4 V4 z1 z2 sA mc L o4 sa sb sc se sf sh sk sm sn so sp sq sr ss su sv sw sx sy sz ta tb tc td te tf tg th ti tj tk tl tm tn tp tr ts tt tu tv tw tx ty tz ua ub uc ud ue uf ug uh ui uj uk ul um un uo up uq ur us ut uu uv uw ux uy uz ya yb yc yd ye yf #[true, true, true, true, true, true, true, true, true, true, false]) { tmps := qcT w0 X3 X8 qb tq cp V0 N4 V4 z1 z2 sA mc L o4 sa sb sc se sf sh sk sm sn so sp sq sr ss su sv sw sx sy sz ta tb tc td te tf tg th ti tj tk tl tm tn tp tr ts tt tu tv tw tx ty tz ua ub uc ud ue uf ug uh ui uj uk ul um un uo up uq ur us ut uu uv uw ux uy uz ya yb yc yd ye yf XP true true true true true true true true true false false, defers := [] } w := by
  refine wpOp_step (o := qco9) rfl (fun K hK => ?_)
  replace hK := hid hK
  simp only [qco9, qcT, selS_t, selS_f]
  go_simp
  exact hK.out _ _ ⟨true, true, true, true, true, true, true, true, true, true, false, XP, rfl, rfl, hB, hx3, hx8, hsg, hhp⟩
set_option maxRecDepth 20000 in
set_option maxHeartbeats 1000000 in
theorem qc_s10 (XP : Nat) (w : World) (hc4 : (4 : Int) ≤ (cp : Int)) (hn1 : (N4.toList == [120, 45, 115, 117, 109]) = false) (hn2 : (N4.toList == (⟨#[120, 45, 115, 117, 109]⟩ : ByteArray).toList) = false) (hB : Below w0.heap.size w0 w) (hx3 : RowAt w X3 72 #[.string V0, .int .i64 z1, .int .i64 z2, .slice sA L.length mc]) (hx8 : RowAt w X8 66 #[.string N4, .string V4]) (hsg : SgAt w sA mc L) (hhp : true = true → Hps w (some ⟨XP, 0, none⟩) 4 4 o4) :
    wpOp Tryz.prog qcO Q 10 (qcI w0 X3 X8 qb tq cp V0 N4 V4 z1 z2 sA mc L o4 sa sb sc se sf sh sk sm sn so sp sq sr ss su sv sw sx sy sz ta tb tc td te tf tg th ti tj tk tl tm tn tp tr ts tt tu tv tw tx ty tz ua ub uc ud ue uf ug uh ui uj uk ul um un uo up uq ur us ut uu uv uw ux uy uz ya yb yc yd ye yf #[true, true, true, true, true, true, true, true, true, true, true]) { tmps := qcT w0 X3 X8 qb tq cp V0 N4 V4 z1 z2 sA mc L o4 sa sb sc se sf sh sk sm sn so sp sq sr ss su sv sw sx sy sz ta tb tc td te tf tg th ti tj tk tl tm tn tp tr ts tt tu tv tw tx ty tz ua ub uc ud ue uf ug uh ui uj uk ul um un uo up uq ur us ut uu uv uw ux uy uz ya yb yc yd ye yf XP true true true true true true true true true true false, defers := [] } w := by
  refine wpOp_step (o := qco10) rfl (fun K hK => ?_)
  replace hK := hid hK
  simp only [qco10, qcT, selS_t, selS_f]
  go_simp
  exact hK.out _ _ ⟨true, true, true, true, true, true, true, true, true, true, true, XP, rfl, rfl, hB, hx3, hx8, hsg, hhp⟩
set_option maxRecDepth 20000 in
set_option maxHeartbeats 2000000 in
theorem qc_step (hkp : ∀ wx, Below w0.heap.size w0 wx → SgAt wx sA mc L → Calls Tryz.prog 43 #[.agg #[.string V0, .int .i64 z1, .int .i64 z2, .slice sA L.length mc]] wx fun e w' => ∃ X, e = .returned (.slice (some ⟨X, 0, none⟩) 4 4) ∧ Hps w' (some ⟨X, 0, none⟩) 4 4 o4 ∧ Below wx.heap.size wx w') (hke : ∀ wx X, Below w0.heap.size w0 wx → Hps wx (some ⟨X, 0, none⟩) 4 4 o4 → Calls Tryz.prog 94 #[.slice (some ⟨X, 0, none⟩) 4 4, .slice (some ⟨qb, tq, none⟩) 4 cp] wx fun e w' => e = .returned (.bool true) ∧ Below wx.heap.size wx w') (hc4 : (4 : Int) ≤ (cp : Int)) (hn1 : (N4.toList == [120, 45, 115, 117, 109]) = false) (hn2 : (N4.toList == (⟨#[120, 45, 115, 117, 109]⟩ : ByteArray).toList) = false) (l : Array Bool) (f : Act) (w : World) (hC : Closed qcO l) (hI : qcI w0 X3 X8 qb tq cp V0 N4 V4 z1 z2 sA mc L o4 sa sb sc se sf sh sk sm sn so sp sq sr ss su sv sw sx sy sz ta tb tc td te tf tg th ti tj tk tl tm tn tp tr ts tt tu tv tw tx ty tz ua ub uc ud ue uf ug uh ui uj uk ul um un uo up uq ur us ut uu uv uw ux uy uz ya yb yc yd ye yf l f w) (i : Nat) (h0 : l.getD i true = false) (o : Oper) (ho : qcO[i]? = some o) (h1 : ∀ e ∈ o.after, Region.binds .any e = true → l.getD e.on false = true) : wpOp Tryz.prog qcO Q i (qcI w0 X3 X8 qb tq cp V0 N4 V4 z1 z2 sA mc L o4 sa sb sc se sf sh sk sm sn so sp sq sr ss su sv sw sx sy sz ta tb tc td te tf tg th ti tj tk tl tm tn tp tr ts tt tu tv tw tx ty tz ua ub uc ud ue uf ug uh ui uj uk ul um un uo up uq ur us ut uu uv uw ux uy uz ya yb yc yd ye yf (l.setIfInBounds i true)) f w := by
  obtain ⟨b0, b1, b2, b3, b4, b5, b6, b7, b8, b9, b10, XP, rfl, rfl, hB, hx3, hx8, hsg, hhp⟩ := hI
  have hi : i < 11 := by
    rcases Nat.lt_or_ge i 11 with h | h
    · exact h
    · rw [show qcO[i]? = none from Array.getElem?_eq_none h] at ho; cases ho
  rcases (by omega : i = 0 ∨ i = 1 ∨ i = 2 ∨ i = 3 ∨ i = 4 ∨ i = 5 ∨ i = 6 ∨ i = 7 ∨ i = 8 ∨ i = 9 ∨ i = 10) with rfl | rfl | rfl | rfl | rfl | rfl | rfl | rfl | rfl | rfl | rfl
  · obtain rfl : qco0 = o := Option.some.inj ho
    obtain rfl : b0 = false := h0
    obtain rfl : b1 = false := by
      cases b1 with
      | false => rfl
      | true => exact Bool.noConfusion (show false = true from hC 1 qco1 rfl rfl ⟨0, .data⟩ (by simp [qco1]) rfl)
    obtain rfl : b4 = false := by
      cases b4 with
      | false => rfl
      | true => exact Bool.noConfusion (show false = true from hC 4 qco4 rfl rfl ⟨1, .chain⟩ (by simp [qco4]) rfl)
    obtain rfl : b5 = false := by
      cases b5 with
      | false => rfl
      | true => exact Bool.noConfusion (show false = true from hC 5 qco5 rfl rfl ⟨4, .data⟩ (by simp [qco5]) rfl)
    obtain rfl : b6 = false := by
      cases b6 with
      | false => rfl
      | true => exact Bool.noConfusion (show false = true from hC 6 qco6 rfl rfl ⟨4, .chain⟩ (by simp [qco6]) rfl)
    obtain rfl : b7 = false := by
      cases b7 with
      | false => rfl
      | true => exact Bool.noConfusion (show false = true from hC 7 qco7 rfl rfl ⟨6, .guard⟩ (by simp [qco7]) rfl)
    obtain rfl : b8 = false := by
      cases b8 with
      | false => rfl
      | true => exact Bool.noConfusion (show false = true from hC 8 qco8 rfl rfl ⟨6, .guard⟩ (by simp [qco8]) rfl)
    obtain rfl : b9 = false := by
      cases b9 with
      | false => rfl
      | true => exact Bool.noConfusion (show false = true from hC 9 qco9 rfl rfl ⟨6, .guard⟩ (by simp [qco9]) rfl)
    obtain rfl : b10 = false := by
      cases b10 with
      | false => rfl
      | true => exact Bool.noConfusion (show false = true from hC 10 qco10 rfl rfl ⟨6, .data⟩ (by simp [qco10]) rfl)
    exact qc_s0 w0 X3 X8 qb tq cp V0 N4 V4 z1 z2 sA mc L o4 sa sb sc se sf sh sk sm sn so sp sq sr ss su sv sw sx sy sz ta tb tc td te tf tg th ti tj tk tl tm tn tp tr ts tt tu tv tw tx ty tz ua ub uc ud ue uf ug uh ui uj uk ul um un uo up uq ur us ut uu uv uw ux uy uz ya yb yc yd ye yf b2 b3 XP w hc4 hn1 hn2 hB hx3 hx8 hsg hhp
  · obtain rfl : qco1 = o := Option.some.inj ho
    obtain rfl : b1 = false := h0
    obtain rfl : b0 = true := h1 ⟨0, .data⟩ (by simp [qco1]) rfl
    obtain rfl : b4 = false := by
      cases b4 with
      | false => rfl
      | true => exact Bool.noConfusion (show false = true from hC 4 qco4 rfl rfl ⟨1, .chain⟩ (by simp [qco4]) rfl)
    obtain rfl : b5 = false := by
      cases b5 with
      | false => rfl
      | true => exact Bool.noConfusion (show false = true from hC 5 qco5 rfl rfl ⟨4, .data⟩ (by simp [qco5]) rfl)
    obtain rfl : b6 = false := by
      cases b6 with
      | false => rfl
      | true => exact Bool.noConfusion (show false = true from hC 6 qco6 rfl rfl ⟨4, .chain⟩ (by simp [qco6]) rfl)
    obtain rfl : b7 = false := by
      cases b7 with
      | false => rfl
      | true => exact Bool.noConfusion (show false = true from hC 7 qco7 rfl rfl ⟨6, .guard⟩ (by simp [qco7]) rfl)
    obtain rfl : b8 = false := by
      cases b8 with
      | false => rfl
      | true => exact Bool.noConfusion (show false = true from hC 8 qco8 rfl rfl ⟨6, .guard⟩ (by simp [qco8]) rfl)
    obtain rfl : b9 = false := by
      cases b9 with
      | false => rfl
      | true => exact Bool.noConfusion (show false = true from hC 9 qco9 rfl rfl ⟨6, .guard⟩ (by simp [qco9]) rfl)
    obtain rfl : b10 = false := by
      cases b10 with
      | false => rfl
      | true => exact Bool.noConfusion (show false = true from hC 10 qco10 rfl rfl ⟨6, .data⟩ (by simp [qco10]) rfl)
    exact qc_s1 w0 X3 X8 qb tq cp V0 N4 V4 z1 z2 sA mc L o4 sa sb sc se sf sh sk sm sn so sp sq sr ss su sv sw sx sy sz ta tb tc td te tf tg th ti tj tk tl tm tn tp tr ts tt tu tv tw tx ty tz ua ub uc ud ue uf ug uh ui uj uk ul um un uo up uq ur us ut uu uv uw ux uy uz ya yb yc yd ye yf b2 b3 XP w hkp hc4 hn1 hn2 hB hx3 hx8 hsg hhp
  · obtain rfl : qco2 = o := Option.some.inj ho
    obtain rfl : b2 = false := h0
    obtain rfl : b3 = false := by
      cases b3 with
      | false => rfl
      | true => exact Bool.noConfusion (show false = true from hC 3 qco3 rfl rfl ⟨2, .data⟩ (by simp [qco3]) rfl)
    obtain rfl : b4 = false := by
      cases b4 with
      | false => rfl
      | true => exact Bool.noConfusion (show false = true from hC 4 qco4 rfl rfl ⟨3, .data⟩ (by simp [qco4]) rfl)
    obtain rfl : b5 = false := by
      cases b5 with
      | false => rfl
      | true => exact Bool.noConfusion (show false = true from hC 5 qco5 rfl rfl ⟨4, .data⟩ (by simp [qco5]) rfl)
    obtain rfl : b6 = false := by
      cases b6 with
      | false => rfl
      | true => exact Bool.noConfusion (show false = true from hC 6 qco6 rfl rfl ⟨4, .chain⟩ (by simp [qco6]) rfl)
    obtain rfl : b7 = false := by
      cases b7 with
      | false => rfl
      | true => exact Bool.noConfusion (show false = true from hC 7 qco7 rfl rfl ⟨6, .guard⟩ (by simp [qco7]) rfl)
    obtain rfl : b8 = false := by
      cases b8 with
      | false => rfl
      | true => exact Bool.noConfusion (show false = true from hC 8 qco8 rfl rfl ⟨6, .guard⟩ (by simp [qco8]) rfl)
    obtain rfl : b9 = false := by
      cases b9 with
      | false => rfl
      | true => exact Bool.noConfusion (show false = true from hC 9 qco9 rfl rfl ⟨6, .guard⟩ (by simp [qco9]) rfl)
    obtain rfl : b10 = false := by
      cases b10 with
      | false => rfl
      | true => exact Bool.noConfusion (show false = true from hC 10 qco10 rfl rfl ⟨6, .data⟩ (by simp [qco10]) rfl)
    exact qc_s2 w0 X3 X8 qb tq cp V0 N4 V4 z1 z2 sA mc L o4 sa sb sc se sf sh sk sm sn so sp sq sr ss su sv sw sx sy sz ta tb tc td te tf tg th ti tj tk tl tm tn tp tr ts tt tu tv tw tx ty tz ua ub uc ud ue uf ug uh ui uj uk ul um un uo up uq ur us ut uu uv uw ux uy uz ya yb yc yd ye yf b0 b1 XP w hc4 hn1 hn2 hB hx3 hx8 hsg hhp
  · obtain rfl : qco3 = o := Option.some.inj ho
    obtain rfl : b3 = false := h0
    obtain rfl : b2 = true := h1 ⟨2, .data⟩ (by simp [qco3]) rfl
    obtain rfl : b4 = false := by
      cases b4 with
      | false => rfl
      | true => exact Bool.noConfusion (show false = true from hC 4 qco4 rfl rfl ⟨3, .data⟩ (by simp [qco4]) rfl)
    obtain rfl : b5 = false := by
      cases b5 with
      | false => rfl
      | true => exact Bool.noConfusion (show false = true from hC 5 qco5 rfl rfl ⟨4, .data⟩ (by simp [qco5]) rfl)
    obtain rfl : b6 = false := by
      cases b6 with
      | false => rfl
      | true => exact Bool.noConfusion (show false = true from hC 6 qco6 rfl rfl ⟨4, .chain⟩ (by simp [qco6]) rfl)
    obtain rfl : b7 = false := by
      cases b7 with
      | false => rfl
      | true => exact Bool.noConfusion (show false = true from hC 7 qco7 rfl rfl ⟨6, .guard⟩ (by simp [qco7]) rfl)
    obtain rfl : b8 = false := by
      cases b8 with
      | false => rfl
      | true => exact Bool.noConfusion (show false = true from hC 8 qco8 rfl rfl ⟨6, .guard⟩ (by simp [qco8]) rfl)
    obtain rfl : b9 = false := by
      cases b9 with
      | false => rfl
      | true => exact Bool.noConfusion (show false = true from hC 9 qco9 rfl rfl ⟨6, .guard⟩ (by simp [qco9]) rfl)
    obtain rfl : b10 = false := by
      cases b10 with
      | false => rfl
      | true => exact Bool.noConfusion (show false = true from hC 10 qco10 rfl rfl ⟨6, .data⟩ (by simp [qco10]) rfl)
    exact qc_s3 w0 X3 X8 qb tq cp V0 N4 V4 z1 z2 sA mc L o4 sa sb sc se sf sh sk sm sn so sp sq sr ss su sv sw sx sy sz ta tb tc td te tf tg th ti tj tk tl tm tn tp tr ts tt tu tv tw tx ty tz ua ub uc ud ue uf ug uh ui uj uk ul um un uo up uq ur us ut uu uv uw ux uy uz ya yb yc yd ye yf b0 b1 XP w hc4 hn1 hn2 hB hx3 hx8 hsg hhp
  · obtain rfl : qco4 = o := Option.some.inj ho
    obtain rfl : b4 = false := h0
    obtain rfl : b3 = true := h1 ⟨3, .data⟩ (by simp [qco4]) rfl
    obtain rfl : b1 = true := h1 ⟨1, .chain⟩ (by simp [qco4]) rfl
    obtain rfl : b2 = true := hC 3 qco3 rfl rfl ⟨2, .data⟩ (by simp [qco3]) rfl
    obtain rfl : b0 = true := hC 1 qco1 rfl rfl ⟨0, .data⟩ (by simp [qco1]) rfl
    obtain rfl : b5 = false := by
      cases b5 with
      | false => rfl
      | true => exact Bool.noConfusion (show false = true from hC 5 qco5 rfl rfl ⟨4, .data⟩ (by simp [qco5]) rfl)
    obtain rfl : b6 = false := by
      cases b6 with
      | false => rfl
      | true => exact Bool.noConfusion (show false = true from hC 6 qco6 rfl rfl ⟨4, .chain⟩ (by simp [qco6]) rfl)
    obtain rfl : b7 = false := by
      cases b7 with
      | false => rfl
      | true => exact Bool.noConfusion (show false = true from hC 7 qco7 rfl rfl ⟨6, .guard⟩ (by simp [qco7]) rfl)
    obtain rfl : b8 = false := by
      cases b8 with
      | false => rfl
      | true => exact Bool.noConfusion (show false = true from hC 8 qco8 rfl rfl ⟨6, .guard⟩ (by simp [qco8]) rfl)
    obtain rfl : b9 = false := by
      cases b9 with
      | false => rfl
      | true => exact Bool.noConfusion (show false = true from hC 9 qco9 rfl rfl ⟨6, .guard⟩ (by simp [qco9]) rfl)
    obtain rfl : b10 = false := by
      cases b10 with
      | false => rfl
      | true => exact Bool.noConfusion (show false = true from hC 10 qco10 rfl rfl ⟨6, .data⟩ (by simp [qco10]) rfl)
    exact qc_s4 w0 X3 X8 qb tq cp V0 N4 V4 z1 z2 sA mc L o4 sa sb sc se sf sh sk sm sn so sp sq sr ss su sv sw sx sy sz ta tb tc td te tf tg th ti tj tk tl tm tn tp tr ts tt tu tv tw tx ty tz ua ub uc ud ue uf ug uh ui uj uk ul um un uo up uq ur us ut uu uv uw ux uy uz ya yb yc yd ye yf  XP w hke hc4 hn1 hn2 hB hx3 hx8 hsg hhp
  · obtain rfl : qco5 = o := Option.some.inj ho
    obtain rfl : b5 = false := h0
    obtain rfl : b4 = true := h1 ⟨4, .data⟩ (by simp [qco5]) rfl
    obtain rfl : b1 = true := hC 4 qco4 rfl rfl ⟨1, .chain⟩ (by simp [qco4]) rfl
    obtain rfl : b3 = true := hC 4 qco4 rfl rfl ⟨3, .data⟩ (by simp [qco4]) rfl
    obtain rfl : b2 = true := hC 3 qco3 rfl rfl ⟨2, .data⟩ (by simp [qco3]) rfl
    obtain rfl : b0 = true := hC 1 qco1 rfl rfl ⟨0, .data⟩ (by simp [qco1]) rfl
    obtain rfl : b6 = false := by
      cases b6 with
      | false => rfl
      | true => exact Bool.noConfusion (show false = true from hC 6 qco6 rfl rfl ⟨5, .data⟩ (by simp [qco6]) rfl)
    obtain rfl : b7 = false := by
      cases b7 with
      | false => rfl
      | true => exact Bool.noConfusion (show false = true from hC 7 qco7 rfl rfl ⟨6, .guard⟩ (by simp [qco7]) rfl)
    obtain rfl : b8 = false := by
      cases b8 with
      | false => rfl
      | true => exact Bool.noConfusion (show false = true from hC 8 qco8 rfl rfl ⟨6, .guard⟩ (by simp [qco8]) rfl)
    obtain rfl : b9 = false := by
      cases b9 with
      | false => rfl
      | true => exact Bool.noConfusion (show false = true from hC 9 qco9 rfl rfl ⟨6, .guard⟩ (by simp [qco9]) rfl)
    obtain rfl : b10 = false := by
      cases b10 with
      | false => rfl
      | true => exact Bool.noConfusion (show false = true from hC 10 qco10 rfl rfl ⟨6, .data⟩ (by simp [qco10]) rfl)
    exact qc_s5 w0 X3 X8 qb tq cp V0 N4 V4 z1 z2 sA mc L o4 sa sb sc se sf sh sk sm sn so sp sq sr ss su sv sw sx sy sz ta tb tc td te tf tg th ti tj tk tl tm tn tp tr ts tt tu tv tw tx ty tz ua ub uc ud ue uf ug uh ui uj uk ul um un uo up uq ur us ut uu uv uw ux uy uz ya yb yc yd ye yf  XP w hc4 hn1 hn2 hB hx3 hx8 hsg hhp
  · obtain rfl : qco6 = o := Option.some.inj ho
    obtain rfl : b6 = false := h0
    obtain rfl : b5 = true := h1 ⟨5, .data⟩ (by simp [qco6]) rfl
    obtain rfl : b4 = true := h1 ⟨4, .chain⟩ (by simp [qco6]) rfl
    obtain rfl : b1 = true := hC 4 qco4 rfl rfl ⟨1, .chain⟩ (by simp [qco4]) rfl
    obtain rfl : b3 = true := hC 4 qco4 rfl rfl ⟨3, .data⟩ (by simp [qco4]) rfl
    obtain rfl : b2 = true := hC 3 qco3 rfl rfl ⟨2, .data⟩ (by simp [qco3]) rfl
    obtain rfl : b0 = true := hC 1 qco1 rfl rfl ⟨0, .data⟩ (by simp [qco1]) rfl
    obtain rfl : b7 = false := by
      cases b7 with
      | false => rfl
      | true => exact Bool.noConfusion (show false = true from hC 7 qco7 rfl rfl ⟨6, .guard⟩ (by simp [qco7]) rfl)
    obtain rfl : b8 = false := by
      cases b8 with
      | false => rfl
      | true => exact Bool.noConfusion (show false = true from hC 8 qco8 rfl rfl ⟨6, .guard⟩ (by simp [qco8]) rfl)
    obtain rfl : b9 = false := by
      cases b9 with
      | false => rfl
      | true => exact Bool.noConfusion (show false = true from hC 9 qco9 rfl rfl ⟨6, .guard⟩ (by simp [qco9]) rfl)
    obtain rfl : b10 = false := by
      cases b10 with
      | false => rfl
      | true => exact Bool.noConfusion (show false = true from hC 10 qco10 rfl rfl ⟨6, .data⟩ (by simp [qco10]) rfl)
    exact qc_s6 w0 X3 X8 qb tq cp V0 N4 V4 z1 z2 sA mc L o4 sa sb sc se sf sh sk sm sn so sp sq sr ss su sv sw sx sy sz ta tb tc td te tf tg th ti tj tk tl tm tn tp tr ts tt tu tv tw tx ty tz ua ub uc ud ue uf ug uh ui uj uk ul um un uo up uq ur us ut uu uv uw ux uy uz ya yb yc yd ye yf  XP w hc4 hn1 hn2 hB hx3 hx8 hsg hhp
  · obtain rfl : qco7 = o := Option.some.inj ho
    obtain rfl : b7 = false := h0
    obtain rfl : b6 = true := h1 ⟨6, .guard⟩ (by simp [qco7]) rfl
    obtain rfl : b4 = true := hC 6 qco6 rfl rfl ⟨4, .chain⟩ (by simp [qco6]) rfl
    obtain rfl : b5 = true := hC 6 qco6 rfl rfl ⟨5, .data⟩ (by simp [qco6]) rfl
    obtain rfl : b1 = true := hC 4 qco4 rfl rfl ⟨1, .chain⟩ (by simp [qco4]) rfl
    obtain rfl : b3 = true := hC 4 qco4 rfl rfl ⟨3, .data⟩ (by simp [qco4]) rfl
    obtain rfl : b2 = true := hC 3 qco3 rfl rfl ⟨2, .data⟩ (by simp [qco3]) rfl
    obtain rfl : b0 = true := hC 1 qco1 rfl rfl ⟨0, .data⟩ (by simp [qco1]) rfl
    obtain rfl : b8 = false := by
      cases b8 with
      | false => rfl
      | true => exact Bool.noConfusion (show false = true from hC 8 qco8 rfl rfl ⟨7, .data⟩ (by simp [qco8]) rfl)
    obtain rfl : b9 = false := by
      cases b9 with
      | false => rfl
      | true => exact Bool.noConfusion (show false = true from hC 9 qco9 rfl rfl ⟨8, .data⟩ (by simp [qco9]) rfl)
    obtain rfl : b10 = false := by
      cases b10 with
      | false => rfl
      | true => exact Bool.noConfusion (show false = true from hC 10 qco10 rfl rfl ⟨9, .data⟩ (by simp [qco10]) rfl)
    exact qc_s7 w0 X3 X8 qb tq cp V0 N4 V4 z1 z2 sA mc L o4 sa sb sc se sf sh sk sm sn so sp sq sr ss su sv sw sx sy sz ta tb tc td te tf tg th ti tj tk tl tm tn tp tr ts tt tu tv tw tx ty tz ua ub uc ud ue uf ug uh ui uj uk ul um un uo up uq ur us ut uu uv uw ux uy uz ya yb yc yd ye yf  XP w hc4 hn1 hn2 hB hx3 hx8 hsg hhp
  · obtain rfl : qco8 = o := Option.some.inj ho
    obtain rfl : b8 = false := h0
    obtain rfl : b7 = true := h1 ⟨7, .data⟩ (by simp [qco8]) rfl
    obtain rfl : b6 = true := h1 ⟨6, .guard⟩ (by simp [qco8]) rfl
    obtain rfl : b4 = true := hC 6 qco6 rfl rfl ⟨4, .chain⟩ (by simp [qco6]) rfl
    obtain rfl : b5 = true := hC 6 qco6 rfl rfl ⟨5, .data⟩ (by simp [qco6]) rfl
    obtain rfl : b1 = true := hC 4 qco4 rfl rfl ⟨1, .chain⟩ (by simp [qco4]) rfl
    obtain rfl : b3 = true := hC 4 qco4 rfl rfl ⟨3, .data⟩ (by simp [qco4]) rfl
    obtain rfl : b2 = true := hC 3 qco3 rfl rfl ⟨2, .data⟩ (by simp [qco3]) rfl
    obtain rfl : b0 = true := hC 1 qco1 rfl rfl ⟨0, .data⟩ (by simp [qco1]) rfl
    obtain rfl : b9 = false := by
      cases b9 with
      | false => rfl
      | true => exact Bool.noConfusion (show false = true from hC 9 qco9 rfl rfl ⟨8, .data⟩ (by simp [qco9]) rfl)
    obtain rfl : b10 = false := by
      cases b10 with
      | false => rfl
      | true => exact Bool.noConfusion (show false = true from hC 10 qco10 rfl rfl ⟨9, .data⟩ (by simp [qco10]) rfl)
    exact qc_s8 w0 X3 X8 qb tq cp V0 N4 V4 z1 z2 sA mc L o4 sa sb sc se sf sh sk sm sn so sp sq sr ss su sv sw sx sy sz ta tb tc td te tf tg th ti tj tk tl tm tn tp tr ts tt tu tv tw tx ty tz ua ub uc ud ue uf ug uh ui uj uk ul um un uo up uq ur us ut uu uv uw ux uy uz ya yb yc yd ye yf  XP w hc4 hn1 hn2 hB hx3 hx8 hsg hhp
  · obtain rfl : qco9 = o := Option.some.inj ho
    obtain rfl : b9 = false := h0
    obtain rfl : b8 = true := h1 ⟨8, .data⟩ (by simp [qco9]) rfl
    obtain rfl : b6 = true := h1 ⟨6, .guard⟩ (by simp [qco9]) rfl
    obtain rfl : b7 = true := hC 8 qco8 rfl rfl ⟨7, .data⟩ (by simp [qco8]) rfl
    obtain rfl : b4 = true := hC 6 qco6 rfl rfl ⟨4, .chain⟩ (by simp [qco6]) rfl
    obtain rfl : b5 = true := hC 6 qco6 rfl rfl ⟨5, .data⟩ (by simp [qco6]) rfl
    obtain rfl : b1 = true := hC 4 qco4 rfl rfl ⟨1, .chain⟩ (by simp [qco4]) rfl
    obtain rfl : b3 = true := hC 4 qco4 rfl rfl ⟨3, .data⟩ (by simp [qco4]) rfl
    obtain rfl : b2 = true := hC 3 qco3 rfl rfl ⟨2, .data⟩ (by simp [qco3]) rfl
    obtain rfl : b0 = true := hC 1 qco1 rfl rfl ⟨0, .data⟩ (by simp [qco1]) rfl
    obtain rfl : b10 = false := by
      cases b10 with
      | false => rfl
      | true => exact Bool.noConfusion (show false = true from hC 10 qco10 rfl rfl ⟨9, .data⟩ (by simp [qco10]) rfl)
    exact qc_s9 w0 X3 X8 qb tq cp V0 N4 V4 z1 z2 sA mc L o4 sa sb sc se sf sh sk sm sn so sp sq sr ss su sv sw sx sy sz ta tb tc td te tf tg th ti tj tk tl tm tn tp tr ts tt tu tv tw tx ty tz ua ub uc ud ue uf ug uh ui uj uk ul um un uo up uq ur us ut uu uv uw ux uy uz ya yb yc yd ye yf  XP w hc4 hn1 hn2 hB hx3 hx8 hsg hhp
  · obtain rfl : qco10 = o := Option.some.inj ho
    obtain rfl : b10 = false := h0
    obtain rfl : b9 = true := h1 ⟨9, .data⟩ (by simp [qco10]) rfl
    obtain rfl : b6 = true := h1 ⟨6, .data⟩ (by simp [qco10]) rfl
    obtain rfl : b8 = true := hC 9 qco9 rfl rfl ⟨8, .data⟩ (by simp [qco9]) rfl
    obtain rfl : b7 = true := hC 8 qco8 rfl rfl ⟨7, .data⟩ (by simp [qco8]) rfl
    obtain rfl : b4 = true := hC 6 qco6 rfl rfl ⟨4, .chain⟩ (by simp [qco6]) rfl
    obtain rfl : b5 = true := hC 6 qco6 rfl rfl ⟨5, .data⟩ (by simp [qco6]) rfl
    obtain rfl : b1 = true := hC 4 qco4 rfl rfl ⟨1, .chain⟩ (by simp [qco4]) rfl
    obtain rfl : b3 = true := hC 4 qco4 rfl rfl ⟨3, .data⟩ (by simp [qco4]) rfl
    obtain rfl : b2 = true := hC 3 qco3 rfl rfl ⟨2, .data⟩ (by simp [qco3]) rfl
    obtain rfl : b0 = true := hC 1 qco1 rfl rfl ⟨0, .data⟩ (by simp [qco1]) rfl
    exact qc_s10 w0 X3 X8 qb tq cp V0 N4 V4 z1 z2 sA mc L o4 sa sb sc se sf sh sk sm sn so sp sq sr ss su sv sw sx sy sz ta tb tc td te tf tg th ti tj tk tl tm tn tp tr ts tt tu tv tw tx ty tz ua ub uc ud ue uf ug uh ui uj uk ul um un uo up uq ur us ut uu uv uw ux uy uz ya yb yc yd ye yf  XP w hc4 hn1 hn2 hB hx3 hx8 hsg hhp
end
set_option maxRecDepth 20000 in
set_option maxHeartbeats 4000000 in
theorem qc_wp {Q : Exit → Act → World → Prop} {rid : Nat} (w0 : World) (X3 X8 qb tq cp : Nat) (V0 N4 V4 : ByteArray) (z1 z2 : Int) (sA : Option Addr) (mc : Nat) (L : List ByteArray) (o4 : Nat → Hp) {sa sb sc se sf sh sk sm sn so sp sq sr ss su sv sw sx sy sz ta tb tc td te tf tg th ti tj tk tl tm tn tp tr ts tt tu tv tw tx ty tz ua ub uc ud ue uf ug uh ui uj uk ul um un uo up uq ur us ut uu uv uw ux uy uz ya yb yc yd ye yf : Value} (w : World) (hB : Below w0.heap.size w0 w) (hx3 : RowAt w X3 72 #[.string V0, .int .i64 z1, .int .i64 z2, .slice sA L.length mc]) (hx8 : RowAt w X8 66 #[.string N4, .string V4]) (hsg : SgAt w sA mc L) (hkp : ∀ wx, Below w0.heap.size w0 wx → SgAt wx sA mc L → Calls Tryz.prog 43 #[.agg #[.string V0, .int .i64 z1, .int .i64 z2, .slice sA L.length mc]] wx fun e w' => ∃ X, e = .returned (.slice (some ⟨X, 0, none⟩) 4 4) ∧ Hps w' (some ⟨X, 0, none⟩) 4 4 o4 ∧ Below wx.heap.size wx w') (hke : ∀ wx X, Below w0.heap.size w0 wx → Hps wx (some ⟨X, 0, none⟩) 4 4 o4 → Calls Tryz.prog 94 #[.slice (some ⟨X, 0, none⟩) 4 4, .slice (some ⟨qb, tq, none⟩) 4 cp] wx fun e w' => e = .returned (.bool true) ∧ Below wx.heap.size wx w') (hc4 : (4 : Int) ≤ (cp : Int)) (hn1 : (N4.toList == [120, 45, 115, 117, 109]) = false) (hn2 : (N4.toList == (⟨#[120, 45, 115, 117, 109]⟩ : ByteArray).toList) = false)
    (fin : ∀ (XP : Nat) (w' : World), (Below w0.heap.size w0 w') → (RowAt w' X3 72 #[.string V0, .int .i64 z1, .int .i64 z2, .slice sA L.length mc]) → (RowAt w' X8 66 #[.string N4, .string V4]) → (SgAt w' sA mc L) → (∀ wx, Below w0.heap.size w0 wx → SgAt wx sA mc L → Calls Tryz.prog 43 #[.agg #[.string V0, .int .i64 z1, .int .i64 z2, .slice sA L.length mc]] wx fun e w' => ∃ X, e = .returned (.slice (some ⟨X, 0, none⟩) 4 4) ∧ Hps w' (some ⟨X, 0, none⟩) 4 4 o4 ∧ Below wx.heap.size wx w') → (∀ wx X, Below w0.heap.size w0 wx → Hps wx (some ⟨X, 0, none⟩) 4 4 o4 → Calls Tryz.prog 94 #[.slice (some ⟨X, 0, none⟩) 4 4, .slice (some ⟨qb, tq, none⟩) 4 cp] wx fun e w' => e = .returned (.bool true) ∧ Below wx.heap.size wx w') → ((4 : Int) ≤ (cp : Int)) → (Hps w' (some ⟨XP, 0, none⟩) 4 4 o4) → ((N4.toList == [120, 45, 115, 117, 109]) = false) → ((N4.toList == (⟨#[120, 45, 115, 117, 109]⟩ : ByteArray).toList) = false) → Q .normal { tmps := #[sa, sb, sc, .pointer (some ⟨X3, 0, none⟩), se, sf, sh, .slice (some ⟨qb, tq, none⟩) 5 cp, .pointer (some ⟨X8, 0, none⟩), sk, sm, sn, so, sp, sq, sr, ss, su, sv, sw, sx, sy, sz, ta, tb, tc, td, te, tf, tg, th, ti, tj, tk, tl, tm, tn, tp, tr, ts, tt, tu, .agg #[.string V0, .int .i64 z1, .int .i64 z2, .slice sA L.length mc], .slice (some ⟨XP, 0, none⟩) 4 4, .slice (some ⟨qb, tq, none⟩) 5 cp, .slice (some ⟨qb, tq, none⟩) 4 cp, .bool true, .bool false, .bool false, .pointer (some ⟨X8, 0, none⟩), .string N4, .bool true, .bool true, ug, uh, ui, uj, uk, ul, um, un, uo, up, uq, ur, us, ut, uu, uv, uw, ux, uy, uz, ya, yb, yc, yd, ye, yf], defers := [] } w') :
    (Code.region rid qcO true).wp Tryz.prog Q { tmps := #[sa, sb, sc, .pointer (some ⟨X3, 0, none⟩), se, sf, sh, .slice (some ⟨qb, tq, none⟩) 5 cp, .pointer (some ⟨X8, 0, none⟩), sk, sm, sn, so, sp, sq, sr, ss, su, sv, sw, sx, sy, sz, ta, tb, tc, td, te, tf, tg, th, ti, tj, tk, tl, tm, tn, tp, tr, ts, tt, tu, tv, tw, tx, ty, tz, ua, ub, uc, ud, ue, uf, ug, uh, ui, uj, uk, ul, um, un, uo, up, uq, ur, us, ut, uu, uv, uw, ux, uy, uz, ya, yb, yc, yd, ye, yf], defers := [] } w := by
  refine wp_region_inv (ops := qcO) (qcI w0 X3 X8 qb tq cp V0 N4 V4 z1 z2 sA mc L o4 sa sb sc se sf sh sk sm sn so sp sq sr ss su sv sw sx sy sz ta tb tc td te tf tg th ti tj tk tl tm tn tp tr ts tt tu tv tw tx ty tz ua ub uc ud ue uf ug uh ui uj uk ul um un uo up uq ur us ut uu uv uw ux uy uz ya yb yc yd ye yf) (by kernel_rfl) (by kernel_rfl) (fun l f v hI => ?_) (fun l f v hC hI i h0 o ho h1 => qc_step w0 X3 X8 qb tq cp V0 N4 V4 z1 z2 sA mc L o4 sa sb sc se sf sh sk sm sn so sp sq sr ss su sv sw sx sy sz ta tb tc td te tf tg th ti tj tk tl tm tn tp tr ts tt tu tv tw tx ty tz ua ub uc ud ue uf ug uh ui uj uk ul um un uo up uq ur us ut uu uv uw ux uy uz ya yb yc yd ye yf hkp hke hc4 hn1 hn2 l f v hC hI i h0 o ho h1) (fun l f v hI hall => ?_) ?_
  · obtain ⟨_, _, _, _, _, _, _, _, _, _, _, _, rfl, _⟩ := hI; rfl
  · obtain ⟨b0, b1, b2, b3, b4, b5, b6, b7, b8, b9, b10, XP, rfl, rfl, hB, hx3, hx8, hsg, hhp⟩ := hI
    obtain rfl : b0 = true := hall 0 (by simp)
    obtain rfl : b1 = true := hall 1 (by simp)
    obtain rfl : b2 = true := hall 2 (by simp)
    obtain rfl : b3 = true := hall 3 (by simp)
    obtain rfl : b4 = true := hall 4 (by simp)
    obtain rfl : b5 = true := hall 5 (by simp)
    obtain rfl : b6 = true := hall 6 (by simp)
    obtain rfl : b7 = true := hall 7 (by simp)
    obtain rfl : b8 = true := hall 8 (by simp)
    obtain rfl : b9 = true := hall 9 (by simp)
    obtain rfl : b10 = true := hall 10 (by simp)
    exact fin XP v hB hx3 hx8 hsg hkp hke hc4 (hhp rfl) hn1 hn2
  · exact ⟨false, false, false, false, false, false, false, false, false, false, false, 0, rfl, rfl, hB.drew, hx3.drew, hx8.drew, hsg.below ((Below.refl _ _).drew), fun h => Bool.noConfusion h⟩
end Go.Proofs.YtkppgjndmbbobaaGreatDoor
