import Derived.Test.YtkppgjndmbbobaaGreatDoorICkW
namespace Go.Proofs.YtkppgjndmbbobaaGreatDoor
open Go.RowKit
set_option linter.unusedVariables false
/-! CheckSigned's region 8 (by genckc.py). -/
def cs8o0 : Oper := { dst := some 42, op := Op.load 25 (Operand.tmp 7), type := 25, pos := "l10_request.go:607", after := #[], guard := none }
def cs8o1 : Oper := { dst := some 43, op := Op.move (Operand.tmp 1), type := 33, pos := "l10_request.go:607", after := #[], guard := none }
def cs8o2 : Oper := { dst := some 44, op := Op.move (Operand.tmp 11), type := 3, pos := "l10_request.go:607", after := #[], guard := none }
def cs8o3 : Oper := { dst := some 45, op := Op.indexAddr 33 (Operand.tmp 43) (Operand.tmp 44), type := 0, pos := "l10_request.go:607", after := #[{ on := 1, ground := Ground.data }, { on := 2, ground := Ground.data }], guard := none }
def cs8o4 : Oper := { dst := some 46, op := Op.fieldAddr 27 (Operand.tmp 45) 1, type := 0, pos := "l10_request.go:607", after := #[{ on := 3, ground := Ground.data }], guard := none }
def cs8o5 : Oper := { dst := some 47, op := Op.load 9 (Operand.tmp 46), type := 9, pos := "l10_request.go:607", after := #[{ on := 4, ground := Ground.data }], guard := none }
def cs8o6 : Oper := { dst := some 48, op := Op.fieldAddr 72 (Operand.tmp 8) 3, type := 0, pos := "l10_request.go:607", after := #[], guard := none }
def cs8o7 : Oper := { dst := some 49, op := Op.load 28 (Operand.tmp 48), type := 28, pos := "l10_request.go:607", after := #[{ on := 6, ground := Ground.data }], guard := none }
def cs8o8 : Oper := { dst := some 50, op := Op.call { callee := Callee.value (Operand.func 44), args := #[Operand.tmp 42, Operand.tmp 47, Operand.tmp 49], argTypes := #[25, 9, 28] }, type := 2, pos := "l10_request.go:607", after := #[{ on := 0, ground := Ground.data }, { on := 5, ground := Ground.data }, { on := 7, ground := Ground.data }], guard := none }
def cs8o9 : Oper := { dst := some 51, op := Op.move (Operand.tmp 9), type := 2, pos := "l10_request.go:607", after := #[], guard := none }
def cs8o10 : Oper := { dst := some 52, op := Op.binOp BinOp.neq 2 (Operand.tmp 50) (Operand.tmp 51) 2, type := 4, pos := "l10_request.go:607", after := #[{ on := 8, ground := Ground.data }, { on := 9, ground := Ground.data }], guard := none }
def cs8o11 : Oper := { dst := some 34, op := Op.assign (Operand.tmp 52), type := 4, pos := "l10_request.go:607", after := #[{ on := 10, ground := Ground.data }, { on := 8, ground := Ground.chain }], guard := none }
def cs8O : Array Oper := #[cs8o0, cs8o1, cs8o2, cs8o3, cs8o4, cs8o5, cs8o6, cs8o7, cs8o8, cs8o9, cs8o10, cs8o11]
def cs8T (w0 : World) (X7 X8 kb ko n kc ki : Nat) (mt pt bd V0 sec : ByteArray) (aq : Option Addr) (nq cq : Nat) (a2 : Option Addr) (n2 c2 : Nat) (z1 z2 z4 SV : Int) (sA : Option Addr) (mc : Nat) (L : List ByteArray) (DB : Bool) (sa sc sd se sf sh sm so sp sq sr ss su sv sw sx sy sz ta tb tc td te tf tg th ti tj tk tl tm tn tp tr ts tt tu tv tw tx ty tz ua ub uc ud ue uf ug uh ui uj uk ul um un uo up uq ur us ut uu uv uw ux : Value) (dm : Nat) (b0 b1 b2 b3 b4 b5 b6 b7 b8 b9 b10 b11 : Bool) : Array Value := #[sa, .slice (some ⟨kb, ko, none⟩) n kc, sc, sd, se, sf, sh, .pointer (some ⟨X7, 0, none⟩), .pointer (some ⟨X8, 0, none⟩), .int .i64 z4, sm, .int .i64 (ki : Int), so, sp, sq, sr, ss, su, sv, sw, sx, sy, sz, ta, tb, tc, td, te, tf, tg, th, ti, tj, tk, selS b11 (.bool DB) (tl), tm, tn, tp, tr, ts, tt, tu, selS b0 (.agg #[.string mt, .string pt, .slice aq nq cq, .slice a2 n2 c2, .string bd]) (tv), selS b1 (.slice (some ⟨kb, ko, none⟩) n kc) (tw), selS b2 (.int .i64 (ki : Int)) (tx), selS b3 (.pointer (some ⟨kb, ko + ki * 2, none⟩)) (ty), selS b4 (.pointer (some ⟨kb, ko + ki * 2 + 1, none⟩)) (tz), selS b5 (.string sec) (ua), selS b6 (.pointer (some ⟨X8, 3, none⟩)) (ub), selS b7 (.slice sA L.length mc) (uc), selS b8 (.int .i64 SV) (ud), selS b9 (.int .i64 z4) (ue), selS b10 (.bool DB) (uf), ug, uh, ui, uj, uk, ul, um, un, uo, up, uq, ur, us, ut, uu, uv, uw, ux]
def cs8I (w0 : World) (X7 X8 kb ko n kc ki : Nat) (mt pt bd V0 sec : ByteArray) (aq : Option Addr) (nq cq : Nat) (a2 : Option Addr) (n2 c2 : Nat) (z1 z2 z4 SV : Int) (sA : Option Addr) (mc : Nat) (L : List ByteArray) (DB : Bool) (sa sc sd se sf sh sm so sp sq sr ss su sv sw sx sy sz ta tb tc td te tf tg th ti tj tk tl tm tn tp tr ts tt tu tv tw tx ty tz ua ub uc ud ue uf ug uh ui uj uk ul um un uo up uq ur us ut uu uv uw ux : Value) (l : Array Bool) (f : Act) (w : World) : Prop :=
  ∃ (b0 b1 b2 b3 b4 b5 b6 b7 b8 b9 b10 b11 : Bool) (dm : Nat), l = #[b0, b1, b2, b3, b4, b5, b6, b7, b8, b9, b10, b11] ∧ f = { tmps := cs8T w0 X7 X8 kb ko n kc ki mt pt bd V0 sec aq nq cq a2 n2 c2 z1 z2 z4 SV sA mc L DB sa sc sd se sf sh sm so sp sq sr ss su sv sw sx sy sz ta tb tc td te tf tg th ti tj tk tl tm tn tp tr ts tt tu tv tw tx ty tz ua ub uc ud ue uf ug uh ui uj uk ul um un uo up uq ur us ut uu uv uw ux dm b0 b1 b2 b3 b4 b5 b6 b7 b8 b9 b10 b11, defers := [] } ∧ (Below w0.heap.size w0 w) ∧ (RowAt w X7 25 #[.string mt, .string pt, .slice aq nq cq, .slice a2 n2 c2, .string bd]) ∧ (RowAt w X8 72 #[.string V0, .int .i64 z1, .int .i64 z2, .slice sA L.length mc]) ∧ (SgAt w sA mc L)
section
variable {Q : Exit → Act → World → Prop} (w0 : World) (X7 X8 kb ko n kc ki : Nat) (mt pt bd V0 sec : ByteArray) (aq : Option Addr) (nq cq : Nat) (a2 : Option Addr) (n2 c2 : Nat) (z1 z2 z4 SV : Int) (sA : Option Addr) (mc : Nat) (L : List ByteArray) (DB : Bool) (sa sc sd se sf sh sm so sp sq sr ss su sv sw sx sy sz ta tb tc td te tf tg th ti tj tk tl tm tn tp tr ts tt tu tv tw tx ty tz ua ub uc ud ue uf ug uh ui uj uk ul um un uo up uq ur us ut uu uv uw ux : Value)
set_option maxRecDepth 20000 in
set_option maxHeartbeats 1000000 in
theorem cs8_s0 (b1 b2 b3 b4 b5 b6 b7 b9 : Bool) (dm : Nat) (w : World) (hi0 : (0 : Int) ≤ (ki : Int)) (hi1 : (ki : Int) < (n : Int)) (hdd : (SV != z4) = DB) (hB : Below w0.heap.size w0 w) (hx7 : RowAt w X7 25 #[.string mt, .string pt, .slice aq nq cq, .slice a2 n2 c2, .string bd]) (hx8 : RowAt w X8 72 #[.string V0, .int .i64 z1, .int .i64 z2, .slice sA L.length mc]) (hsg : SgAt w sA mc L) :
    wpOp Tryz.prog cs8O Q 0 (cs8I w0 X7 X8 kb ko n kc ki mt pt bd V0 sec aq nq cq a2 n2 c2 z1 z2 z4 SV sA mc L DB sa sc sd se sf sh sm so sp sq sr ss su sv sw sx sy sz ta tb tc td te tf tg th ti tj tk tl tm tn tp tr ts tt tu tv tw tx ty tz ua ub uc ud ue uf ug uh ui uj uk ul um un uo up uq ur us ut uu uv uw ux #[true, b1, b2, b3, b4, b5, b6, b7, false, b9, false, false]) { tmps := cs8T w0 X7 X8 kb ko n kc ki mt pt bd V0 sec aq nq cq a2 n2 c2 z1 z2 z4 SV sA mc L DB sa sc sd se sf sh sm so sp sq sr ss su sv sw sx sy sz ta tb tc td te tf tg th ti tj tk tl tm tn tp tr ts tt tu tv tw tx ty tz ua ub uc ud ue uf ug uh ui uj uk ul um un uo up uq ur us ut uu uv uw ux dm false b1 b2 b3 b4 b5 b6 b7 false b9 false false, defers := [] } w := by
  have q0 := hx7.cell 0
  have q1 := hx7.cell 1
  have q2 := hx7.cell 2
  have q3 := hx7.cell 3
  have q4 := hx7.cell 4
  refine wpOp_step (o := cs8o0) rfl (fun K hK => ?_)
  replace hK := hid hK
  simp only [cs8o0, cs8T, selS_f]
  go_simp
  exact hK.out _ _ ⟨true, b1, b2, b3, b4, b5, b6, b7, false, b9, false, false, dm, rfl, rfl, hB, hx7, hx8, hsg⟩
set_option maxRecDepth 20000 in
set_option maxHeartbeats 1000000 in
theorem cs8_s1 (b0 b2 b6 b7 b9 : Bool) (dm : Nat) (w : World) (hi0 : (0 : Int) ≤ (ki : Int)) (hi1 : (ki : Int) < (n : Int)) (hdd : (SV != z4) = DB) (hB : Below w0.heap.size w0 w) (hx7 : RowAt w X7 25 #[.string mt, .string pt, .slice aq nq cq, .slice a2 n2 c2, .string bd]) (hx8 : RowAt w X8 72 #[.string V0, .int .i64 z1, .int .i64 z2, .slice sA L.length mc]) (hsg : SgAt w sA mc L) :
    wpOp Tryz.prog cs8O Q 1 (cs8I w0 X7 X8 kb ko n kc ki mt pt bd V0 sec aq nq cq a2 n2 c2 z1 z2 z4 SV sA mc L DB sa sc sd se sf sh sm so sp sq sr ss su sv sw sx sy sz ta tb tc td te tf tg th ti tj tk tl tm tn tp tr ts tt tu tv tw tx ty tz ua ub uc ud ue uf ug uh ui uj uk ul um un uo up uq ur us ut uu uv uw ux #[b0, true, b2, false, false, false, b6, b7, false, b9, false, false]) { tmps := cs8T w0 X7 X8 kb ko n kc ki mt pt bd V0 sec aq nq cq a2 n2 c2 z1 z2 z4 SV sA mc L DB sa sc sd se sf sh sm so sp sq sr ss su sv sw sx sy sz ta tb tc td te tf tg th ti tj tk tl tm tn tp tr ts tt tu tv tw tx ty tz ua ub uc ud ue uf ug uh ui uj uk ul um un uo up uq ur us ut uu uv uw ux dm b0 false b2 false false false b6 b7 false b9 false false, defers := [] } w := by
  refine wpOp_step (o := cs8o1) rfl (fun K hK => ?_)
  replace hK := hid hK
  simp only [cs8o1, cs8T, selS_f]
  go_simp
  exact hK.out _ _ ⟨b0, true, b2, false, false, false, b6, b7, false, b9, false, false, dm, rfl, rfl, hB, hx7, hx8, hsg⟩
set_option maxRecDepth 20000 in
set_option maxHeartbeats 1000000 in
theorem cs8_s2 (b0 b1 b6 b7 b9 : Bool) (dm : Nat) (w : World) (hi0 : (0 : Int) ≤ (ki : Int)) (hi1 : (ki : Int) < (n : Int)) (hdd : (SV != z4) = DB) (hB : Below w0.heap.size w0 w) (hx7 : RowAt w X7 25 #[.string mt, .string pt, .slice aq nq cq, .slice a2 n2 c2, .string bd]) (hx8 : RowAt w X8 72 #[.string V0, .int .i64 z1, .int .i64 z2, .slice sA L.length mc]) (hsg : SgAt w sA mc L) :
    wpOp Tryz.prog cs8O Q 2 (cs8I w0 X7 X8 kb ko n kc ki mt pt bd V0 sec aq nq cq a2 n2 c2 z1 z2 z4 SV sA mc L DB sa sc sd se sf sh sm so sp sq sr ss su sv sw sx sy sz ta tb tc td te tf tg th ti tj tk tl tm tn tp tr ts tt tu tv tw tx ty tz ua ub uc ud ue uf ug uh ui uj uk ul um un uo up uq ur us ut uu uv uw ux #[b0, b1, true, false, false, false, b6, b7, false, b9, false, false]) { tmps := cs8T w0 X7 X8 kb ko n kc ki mt pt bd V0 sec aq nq cq a2 n2 c2 z1 z2 z4 SV sA mc L DB sa sc sd se sf sh sm so sp sq sr ss su sv sw sx sy sz ta tb tc td te tf tg th ti tj tk tl tm tn tp tr ts tt tu tv tw tx ty tz ua ub uc ud ue uf ug uh ui uj uk ul um un uo up uq ur us ut uu uv uw ux dm b0 b1 false false false false b6 b7 false b9 false false, defers := [] } w := by
  refine wpOp_step (o := cs8o2) rfl (fun K hK => ?_)
  replace hK := hid hK
  simp only [cs8o2, cs8T, selS_f]
  go_simp
  exact hK.out _ _ ⟨b0, b1, true, false, false, false, b6, b7, false, b9, false, false, dm, rfl, rfl, hB, hx7, hx8, hsg⟩
set_option maxRecDepth 20000 in
set_option maxHeartbeats 1000000 in
theorem cs8_s3 (b0 b6 b7 b9 : Bool) (dm : Nat) (w : World) (hi0 : (0 : Int) ≤ (ki : Int)) (hi1 : (ki : Int) < (n : Int)) (hdd : (SV != z4) = DB) (hB : Below w0.heap.size w0 w) (hx7 : RowAt w X7 25 #[.string mt, .string pt, .slice aq nq cq, .slice a2 n2 c2, .string bd]) (hx8 : RowAt w X8 72 #[.string V0, .int .i64 z1, .int .i64 z2, .slice sA L.length mc]) (hsg : SgAt w sA mc L) :
    wpOp Tryz.prog cs8O Q 3 (cs8I w0 X7 X8 kb ko n kc ki mt pt bd V0 sec aq nq cq a2 n2 c2 z1 z2 z4 SV sA mc L DB sa sc sd se sf sh sm so sp sq sr ss su sv sw sx sy sz ta tb tc td te tf tg th ti tj tk tl tm tn tp tr ts tt tu tv tw tx ty tz ua ub uc ud ue uf ug uh ui uj uk ul um un uo up uq ur us ut uu uv uw ux #[b0, true, true, true, false, false, b6, b7, false, b9, false, false]) { tmps := cs8T w0 X7 X8 kb ko n kc ki mt pt bd V0 sec aq nq cq a2 n2 c2 z1 z2 z4 SV sA mc L DB sa sc sd se sf sh sm so sp sq sr ss su sv sw sx sy sz ta tb tc td te tf tg th ti tj tk tl tm tn tp tr ts tt tu tv tw tx ty tz ua ub uc ud ue uf ug uh ui uj uk ul um un uo up uq ur us ut uu uv uw ux dm b0 true true false false false b6 b7 false b9 false false, defers := [] } w := by
  refine wpOp_step (o := cs8o3) rfl (fun K hK => ?_)
  replace hK := hid hK
  simp only [cs8o3, cs8T, selS_t, selS_f]
  go_simp
  exact hK.out _ _ ⟨b0, true, true, true, false, false, b6, b7, false, b9, false, false, dm, rfl, rfl, hB, hx7, hx8, hsg⟩
set_option maxRecDepth 20000 in
set_option maxHeartbeats 1000000 in
theorem cs8_s4 (b0 b6 b7 b9 : Bool) (dm : Nat) (w : World) (hi0 : (0 : Int) ≤ (ki : Int)) (hi1 : (ki : Int) < (n : Int)) (hdd : (SV != z4) = DB) (hB : Below w0.heap.size w0 w) (hx7 : RowAt w X7 25 #[.string mt, .string pt, .slice aq nq cq, .slice a2 n2 c2, .string bd]) (hx8 : RowAt w X8 72 #[.string V0, .int .i64 z1, .int .i64 z2, .slice sA L.length mc]) (hsg : SgAt w sA mc L) :
    wpOp Tryz.prog cs8O Q 4 (cs8I w0 X7 X8 kb ko n kc ki mt pt bd V0 sec aq nq cq a2 n2 c2 z1 z2 z4 SV sA mc L DB sa sc sd se sf sh sm so sp sq sr ss su sv sw sx sy sz ta tb tc td te tf tg th ti tj tk tl tm tn tp tr ts tt tu tv tw tx ty tz ua ub uc ud ue uf ug uh ui uj uk ul um un uo up uq ur us ut uu uv uw ux #[b0, true, true, true, true, false, b6, b7, false, b9, false, false]) { tmps := cs8T w0 X7 X8 kb ko n kc ki mt pt bd V0 sec aq nq cq a2 n2 c2 z1 z2 z4 SV sA mc L DB sa sc sd se sf sh sm so sp sq sr ss su sv sw sx sy sz ta tb tc td te tf tg th ti tj tk tl tm tn tp tr ts tt tu tv tw tx ty tz ua ub uc ud ue uf ug uh ui uj uk ul um un uo up uq ur us ut uu uv uw ux dm b0 true true true false false b6 b7 false b9 false false, defers := [] } w := by
  refine wpOp_step (o := cs8o4) rfl (fun K hK => ?_)
  replace hK := hid hK
  simp only [cs8o4, cs8T, selS_t, selS_f]
  go_simp
  exact hK.out _ _ ⟨b0, true, true, true, true, false, b6, b7, false, b9, false, false, dm, rfl, rfl, hB, hx7, hx8, hsg⟩
set_option maxRecDepth 20000 in
set_option maxHeartbeats 1000000 in
theorem cs8_s5 (b0 b6 b7 b9 : Bool) (dm : Nat) (w : World) (hkc : ∀ wx, Below w0.heap.size w0 wx → wx.cell? ⟨kb, ko + ki * 2 + 1, none⟩ = some (.string sec)) (hi0 : (0 : Int) ≤ (ki : Int)) (hi1 : (ki : Int) < (n : Int)) (hdd : (SV != z4) = DB) (hB : Below w0.heap.size w0 w) (hx7 : RowAt w X7 25 #[.string mt, .string pt, .slice aq nq cq, .slice a2 n2 c2, .string bd]) (hx8 : RowAt w X8 72 #[.string V0, .int .i64 z1, .int .i64 z2, .slice sA L.length mc]) (hsg : SgAt w sA mc L) :
    wpOp Tryz.prog cs8O Q 5 (cs8I w0 X7 X8 kb ko n kc ki mt pt bd V0 sec aq nq cq a2 n2 c2 z1 z2 z4 SV sA mc L DB sa sc sd se sf sh sm so sp sq sr ss su sv sw sx sy sz ta tb tc td te tf tg th ti tj tk tl tm tn tp tr ts tt tu tv tw tx ty tz ua ub uc ud ue uf ug uh ui uj uk ul um un uo up uq ur us ut uu uv uw ux #[b0, true, true, true, true, true, b6, b7, false, b9, false, false]) { tmps := cs8T w0 X7 X8 kb ko n kc ki mt pt bd V0 sec aq nq cq a2 n2 c2 z1 z2 z4 SV sA mc L DB sa sc sd se sf sh sm so sp sq sr ss su sv sw sx sy sz ta tb tc td te tf tg th ti tj tk tl tm tn tp tr ts tt tu tv tw tx ty tz ua ub uc ud ue uf ug uh ui uj uk ul um un uo up uq ur us ut uu uv uw ux dm b0 true true true true false b6 b7 false b9 false false, defers := [] } w := by
  have q1 := hkc w hB
  refine wpOp_step (o := cs8o5) rfl (fun K hK => ?_)
  replace hK := hid hK
  simp only [cs8o5, cs8T, selS_t, selS_f]
  go_simp
  exact hK.out _ _ ⟨b0, true, true, true, true, true, b6, b7, false, b9, false, false, dm, rfl, rfl, hB, hx7, hx8, hsg⟩
set_option maxRecDepth 20000 in
set_option maxHeartbeats 1000000 in
theorem cs8_s6 (b0 b1 b2 b3 b4 b5 b9 : Bool) (dm : Nat) (w : World) (hi0 : (0 : Int) ≤ (ki : Int)) (hi1 : (ki : Int) < (n : Int)) (hdd : (SV != z4) = DB) (hB : Below w0.heap.size w0 w) (hx7 : RowAt w X7 25 #[.string mt, .string pt, .slice aq nq cq, .slice a2 n2 c2, .string bd]) (hx8 : RowAt w X8 72 #[.string V0, .int .i64 z1, .int .i64 z2, .slice sA L.length mc]) (hsg : SgAt w sA mc L) :
    wpOp Tryz.prog cs8O Q 6 (cs8I w0 X7 X8 kb ko n kc ki mt pt bd V0 sec aq nq cq a2 n2 c2 z1 z2 z4 SV sA mc L DB sa sc sd se sf sh sm so sp sq sr ss su sv sw sx sy sz ta tb tc td te tf tg th ti tj tk tl tm tn tp tr ts tt tu tv tw tx ty tz ua ub uc ud ue uf ug uh ui uj uk ul um un uo up uq ur us ut uu uv uw ux #[b0, b1, b2, b3, b4, b5, true, false, false, b9, false, false]) { tmps := cs8T w0 X7 X8 kb ko n kc ki mt pt bd V0 sec aq nq cq a2 n2 c2 z1 z2 z4 SV sA mc L DB sa sc sd se sf sh sm so sp sq sr ss su sv sw sx sy sz ta tb tc td te tf tg th ti tj tk tl tm tn tp tr ts tt tu tv tw tx ty tz ua ub uc ud ue uf ug uh ui uj uk ul um un uo up uq ur us ut uu uv uw ux dm b0 b1 b2 b3 b4 b5 false false false b9 false false, defers := [] } w := by
  refine wpOp_step (o := cs8o6) rfl (fun K hK => ?_)
  replace hK := hid hK
  simp only [cs8o6, cs8T, selS_f]
  go_simp
  exact hK.out _ _ ⟨b0, b1, b2, b3, b4, b5, true, false, false, b9, false, false, dm, rfl, rfl, hB, hx7, hx8, hsg⟩
set_option maxRecDepth 20000 in
set_option maxHeartbeats 1000000 in
theorem cs8_s7 (b0 b1 b2 b3 b4 b5 b9 : Bool) (dm : Nat) (w : World) (hi0 : (0 : Int) ≤ (ki : Int)) (hi1 : (ki : Int) < (n : Int)) (hdd : (SV != z4) = DB) (hB : Below w0.heap.size w0 w) (hx7 : RowAt w X7 25 #[.string mt, .string pt, .slice aq nq cq, .slice a2 n2 c2, .string bd]) (hx8 : RowAt w X8 72 #[.string V0, .int .i64 z1, .int .i64 z2, .slice sA L.length mc]) (hsg : SgAt w sA mc L) :
    wpOp Tryz.prog cs8O Q 7 (cs8I w0 X7 X8 kb ko n kc ki mt pt bd V0 sec aq nq cq a2 n2 c2 z1 z2 z4 SV sA mc L DB sa sc sd se sf sh sm so sp sq sr ss su sv sw sx sy sz ta tb tc td te tf tg th ti tj tk tl tm tn tp tr ts tt tu tv tw tx ty tz ua ub uc ud ue uf ug uh ui uj uk ul um un uo up uq ur us ut uu uv uw ux #[b0, b1, b2, b3, b4, b5, true, true, false, b9, false, false]) { tmps := cs8T w0 X7 X8 kb ko n kc ki mt pt bd V0 sec aq nq cq a2 n2 c2 z1 z2 z4 SV sA mc L DB sa sc sd se sf sh sm so sp sq sr ss su sv sw sx sy sz ta tb tc td te tf tg th ti tj tk tl tm tn tp tr ts tt tu tv tw tx ty tz ua ub uc ud ue uf ug uh ui uj uk ul um un uo up uq ur us ut uu uv uw ux dm b0 b1 b2 b3 b4 b5 true false false b9 false false, defers := [] } w := by
  have q3 := hx8.cell 3
  refine wpOp_step (o := cs8o7) rfl (fun K hK => ?_)
  replace hK := hid hK
  simp only [cs8o7, cs8T, selS_t, selS_f]
  go_simp
  exact hK.out _ _ ⟨b0, b1, b2, b3, b4, b5, true, true, false, b9, false, false, dm, rfl, rfl, hB, hx7, hx8, hsg⟩
set_option maxRecDepth 20000 in
set_option maxHeartbeats 1000000 in
theorem cs8_s8 (b9 : Bool) (dm : Nat) (w : World) (hi0 : (0 : Int) ≤ (ki : Int)) (hi1 : (ki : Int) < (n : Int)) (hks : ∀ wx, Below w0.heap.size w0 wx → SgAt wx sA mc L → Calls Tryz.prog 44 #[.agg #[.string mt, .string pt, .slice aq nq cq, .slice a2 n2 c2, .string bd], .string sec, .slice sA L.length mc] wx fun e w' => e = .returned (.int .i64 SV) ∧ Below wx.heap.size wx w') (hdd : (SV != z4) = DB) (hB : Below w0.heap.size w0 w) (hx7 : RowAt w X7 25 #[.string mt, .string pt, .slice aq nq cq, .slice a2 n2 c2, .string bd]) (hx8 : RowAt w X8 72 #[.string V0, .int .i64 z1, .int .i64 z2, .slice sA L.length mc]) (hsg : SgAt w sA mc L) :
    wpOp Tryz.prog cs8O Q 8 (cs8I w0 X7 X8 kb ko n kc ki mt pt bd V0 sec aq nq cq a2 n2 c2 z1 z2 z4 SV sA mc L DB sa sc sd se sf sh sm so sp sq sr ss su sv sw sx sy sz ta tb tc td te tf tg th ti tj tk tl tm tn tp tr ts tt tu tv tw tx ty tz ua ub uc ud ue uf ug uh ui uj uk ul um un uo up uq ur us ut uu uv uw ux #[true, true, true, true, true, true, true, true, true, b9, false, false]) { tmps := cs8T w0 X7 X8 kb ko n kc ki mt pt bd V0 sec aq nq cq a2 n2 c2 z1 z2 z4 SV sA mc L DB sa sc sd se sf sh sm so sp sq sr ss su sv sw sx sy sz ta tb tc td te tf tg th ti tj tk tl tm tn tp tr ts tt tu tv tw tx ty tz ua ub uc ud ue uf ug uh ui uj uk ul um un uo up uq ur us ut uu uv uw ux dm true true true true true true true true false b9 false false, defers := [] } w := by
  refine wpOp_step (o := cs8o8) rfl (fun K hK => ?_)
  replace hK := hid hK
  simp only [cs8o8, cs8T, selS_t, selS_f]
  go_simp
  refine (hks _ hB hsg).mono ?_
  rintro e w2 ⟨rfl, hb2⟩
  dsimp only
  exact hK.out _ _ ⟨true, true, true, true, true, true, true, true, true, b9, false, false, dm, rfl, rfl, hB.trans (hb2.mono hB.size), RowAt.nxS hb2 hx7, RowAt.nxS hb2 hx8, hsg.below hb2⟩
set_option maxRecDepth 20000 in
set_option maxHeartbeats 1000000 in
theorem cs8_s9 (b0 b1 b2 b3 b4 b5 b6 b7 b8 : Bool) (dm : Nat) (w : World) (hi0 : (0 : Int) ≤ (ki : Int)) (hi1 : (ki : Int) < (n : Int)) (hdd : (SV != z4) = DB) (hB : Below w0.heap.size w0 w) (hx7 : RowAt w X7 25 #[.string mt, .string pt, .slice aq nq cq, .slice a2 n2 c2, .string bd]) (hx8 : RowAt w X8 72 #[.string V0, .int .i64 z1, .int .i64 z2, .slice sA L.length mc]) (hsg : SgAt w sA mc L) :
    wpOp Tryz.prog cs8O Q 9 (cs8I w0 X7 X8 kb ko n kc ki mt pt bd V0 sec aq nq cq a2 n2 c2 z1 z2 z4 SV sA mc L DB sa sc sd se sf sh sm so sp sq sr ss su sv sw sx sy sz ta tb tc td te tf tg th ti tj tk tl tm tn tp tr ts tt tu tv tw tx ty tz ua ub uc ud ue uf ug uh ui uj uk ul um un uo up uq ur us ut uu uv uw ux #[b0, b1, b2, b3, b4, b5, b6, b7, b8, true, false, false]) { tmps := cs8T w0 X7 X8 kb ko n kc ki mt pt bd V0 sec aq nq cq a2 n2 c2 z1 z2 z4 SV sA mc L DB sa sc sd se sf sh sm so sp sq sr ss su sv sw sx sy sz ta tb tc td te tf tg th ti tj tk tl tm tn tp tr ts tt tu tv tw tx ty tz ua ub uc ud ue uf ug uh ui uj uk ul um un uo up uq ur us ut uu uv uw ux dm b0 b1 b2 b3 b4 b5 b6 b7 b8 false false false, defers := [] } w := by
  refine wpOp_step (o := cs8o9) rfl (fun K hK => ?_)
  replace hK := hid hK
  simp only [cs8o9, cs8T, selS_f]
  go_simp
  exact hK.out _ _ ⟨b0, b1, b2, b3, b4, b5, b6, b7, b8, true, false, false, dm, rfl, rfl, hB, hx7, hx8, hsg⟩
set_option maxRecDepth 20000 in
set_option maxHeartbeats 1000000 in
theorem cs8_s10 (dm : Nat) (w : World) (hi0 : (0 : Int) ≤ (ki : Int)) (hi1 : (ki : Int) < (n : Int)) (hdd : (SV != z4) = DB) (hB : Below w0.heap.size w0 w) (hx7 : RowAt w X7 25 #[.string mt, .string pt, .slice aq nq cq, .slice a2 n2 c2, .string bd]) (hx8 : RowAt w X8 72 #[.string V0, .int .i64 z1, .int .i64 z2, .slice sA L.length mc]) (hsg : SgAt w sA mc L) :
    wpOp Tryz.prog cs8O Q 10 (cs8I w0 X7 X8 kb ko n kc ki mt pt bd V0 sec aq nq cq a2 n2 c2 z1 z2 z4 SV sA mc L DB sa sc sd se sf sh sm so sp sq sr ss su sv sw sx sy sz ta tb tc td te tf tg th ti tj tk tl tm tn tp tr ts tt tu tv tw tx ty tz ua ub uc ud ue uf ug uh ui uj uk ul um un uo up uq ur us ut uu uv uw ux #[true, true, true, true, true, true, true, true, true, true, true, false]) { tmps := cs8T w0 X7 X8 kb ko n kc ki mt pt bd V0 sec aq nq cq a2 n2 c2 z1 z2 z4 SV sA mc L DB sa sc sd se sf sh sm so sp sq sr ss su sv sw sx sy sz ta tb tc td te tf tg th ti tj tk tl tm tn tp tr ts tt tu tv tw tx ty tz ua ub uc ud ue uf ug uh ui uj uk ul um un uo up uq ur us ut uu uv uw ux dm true true true true true true true true true true false false, defers := [] } w := by
  refine wpOp_step (o := cs8o10) rfl (fun K hK => ?_)
  replace hK := hid hK
  simp only [cs8o10, cs8T, selS_t, selS_f]
  go_simp
  exact hK.out _ _ ⟨true, true, true, true, true, true, true, true, true, true, true, false, dm, rfl, rfl, hB, hx7, hx8, hsg⟩
set_option maxRecDepth 20000 in
set_option maxHeartbeats 1000000 in
theorem cs8_s11 (dm : Nat) (w : World) (hi0 : (0 : Int) ≤ (ki : Int)) (hi1 : (ki : Int) < (n : Int)) (hdd : (SV != z4) = DB) (hB : Below w0.heap.size w0 w) (hx7 : RowAt w X7 25 #[.string mt, .string pt, .slice aq nq cq, .slice a2 n2 c2, .string bd]) (hx8 : RowAt w X8 72 #[.string V0, .int .i64 z1, .int .i64 z2, .slice sA L.length mc]) (hsg : SgAt w sA mc L) :
    wpOp Tryz.prog cs8O Q 11 (cs8I w0 X7 X8 kb ko n kc ki mt pt bd V0 sec aq nq cq a2 n2 c2 z1 z2 z4 SV sA mc L DB sa sc sd se sf sh sm so sp sq sr ss su sv sw sx sy sz ta tb tc td te tf tg th ti tj tk tl tm tn tp tr ts tt tu tv tw tx ty tz ua ub uc ud ue uf ug uh ui uj uk ul um un uo up uq ur us ut uu uv uw ux #[true, true, true, true, true, true, true, true, true, true, true, true]) { tmps := cs8T w0 X7 X8 kb ko n kc ki mt pt bd V0 sec aq nq cq a2 n2 c2 z1 z2 z4 SV sA mc L DB sa sc sd se sf sh sm so sp sq sr ss su sv sw sx sy sz ta tb tc td te tf tg th ti tj tk tl tm tn tp tr ts tt tu tv tw tx ty tz ua ub uc ud ue uf ug uh ui uj uk ul um un uo up uq ur us ut uu uv uw ux dm true true true true true true true true true true true false, defers := [] } w := by
  refine wpOp_step (o := cs8o11) rfl (fun K hK => ?_)
  replace hK := hid hK
  simp only [cs8o11, cs8T, selS_t, selS_f]
  go_simp
  exact hK.out _ _ ⟨true, true, true, true, true, true, true, true, true, true, true, true, dm, rfl, rfl, hB, hx7, hx8, hsg⟩
set_option maxRecDepth 20000 in
set_option maxHeartbeats 2000000 in
theorem cs8_step (hkc : ∀ wx, Below w0.heap.size w0 wx → wx.cell? ⟨kb, ko + ki * 2 + 1, none⟩ = some (.string sec)) (hi0 : (0 : Int) ≤ (ki : Int)) (hi1 : (ki : Int) < (n : Int)) (hks : ∀ wx, Below w0.heap.size w0 wx → SgAt wx sA mc L → Calls Tryz.prog 44 #[.agg #[.string mt, .string pt, .slice aq nq cq, .slice a2 n2 c2, .string bd], .string sec, .slice sA L.length mc] wx fun e w' => e = .returned (.int .i64 SV) ∧ Below wx.heap.size wx w') (hdd : (SV != z4) = DB) (l : Array Bool) (f : Act) (w : World) (hC : Closed cs8O l) (hI : cs8I w0 X7 X8 kb ko n kc ki mt pt bd V0 sec aq nq cq a2 n2 c2 z1 z2 z4 SV sA mc L DB sa sc sd se sf sh sm so sp sq sr ss su sv sw sx sy sz ta tb tc td te tf tg th ti tj tk tl tm tn tp tr ts tt tu tv tw tx ty tz ua ub uc ud ue uf ug uh ui uj uk ul um un uo up uq ur us ut uu uv uw ux l f w) (i : Nat) (h0 : l.getD i true = false) (o : Oper) (ho : cs8O[i]? = some o) (h1 : ∀ e ∈ o.after, Region.binds .any e = true → l.getD e.on false = true) : wpOp Tryz.prog cs8O Q i (cs8I w0 X7 X8 kb ko n kc ki mt pt bd V0 sec aq nq cq a2 n2 c2 z1 z2 z4 SV sA mc L DB sa sc sd se sf sh sm so sp sq sr ss su sv sw sx sy sz ta tb tc td te tf tg th ti tj tk tl tm tn tp tr ts tt tu tv tw tx ty tz ua ub uc ud ue uf ug uh ui uj uk ul um un uo up uq ur us ut uu uv uw ux (l.setIfInBounds i true)) f w := by
  obtain ⟨b0, b1, b2, b3, b4, b5, b6, b7, b8, b9, b10, b11, dm, rfl, rfl, hB, hx7, hx8, hsg⟩ := hI
  have hi : i < 12 := by
    rcases Nat.lt_or_ge i 12 with h | h
    · exact h
    · rw [show cs8O[i]? = none from Array.getElem?_eq_none h] at ho; cases ho
  rcases (by omega : i = 0 ∨ i = 1 ∨ i = 2 ∨ i = 3 ∨ i = 4 ∨ i = 5 ∨ i = 6 ∨ i = 7 ∨ i = 8 ∨ i = 9 ∨ i = 10 ∨ i = 11) with rfl | rfl | rfl | rfl | rfl | rfl | rfl | rfl | rfl | rfl | rfl | rfl
  · obtain rfl : cs8o0 = o := Option.some.inj ho
    obtain rfl : b0 = false := h0
    obtain rfl : b8 = false := by
      cases b8 with
      | false => rfl
      | true => exact Bool.noConfusion (show false = true from hC 8 cs8o8 rfl rfl ⟨0, .data⟩ (by simp [cs8o8]) rfl)
    obtain rfl : b10 = false := by
      cases b10 with
      | false => rfl
      | true => exact Bool.noConfusion (show false = true from hC 10 cs8o10 rfl rfl ⟨8, .data⟩ (by simp [cs8o10]) rfl)
    obtain rfl : b11 = false := by
      cases b11 with
      | false => rfl
      | true => exact Bool.noConfusion (show false = true from hC 11 cs8o11 rfl rfl ⟨8, .chain⟩ (by simp [cs8o11]) rfl)
    exact cs8_s0 w0 X7 X8 kb ko n kc ki mt pt bd V0 sec aq nq cq a2 n2 c2 z1 z2 z4 SV sA mc L DB sa sc sd se sf sh sm so sp sq sr ss su sv sw sx sy sz ta tb tc td te tf tg th ti tj tk tl tm tn tp tr ts tt tu tv tw tx ty tz ua ub uc ud ue uf ug uh ui uj uk ul um un uo up uq ur us ut uu uv uw ux b1 b2 b3 b4 b5 b6 b7 b9 dm w hi0 hi1 hdd hB hx7 hx8 hsg
  · obtain rfl : cs8o1 = o := Option.some.inj ho
    obtain rfl : b1 = false := h0
    obtain rfl : b3 = false := by
      cases b3 with
      | false => rfl
      | true => exact Bool.noConfusion (show false = true from hC 3 cs8o3 rfl rfl ⟨1, .data⟩ (by simp [cs8o3]) rfl)
    obtain rfl : b4 = false := by
      cases b4 with
      | false => rfl
      | true => exact Bool.noConfusion (show false = true from hC 4 cs8o4 rfl rfl ⟨3, .data⟩ (by simp [cs8o4]) rfl)
    obtain rfl : b5 = false := by
      cases b5 with
      | false => rfl
      | true => exact Bool.noConfusion (show false = true from hC 5 cs8o5 rfl rfl ⟨4, .data⟩ (by simp [cs8o5]) rfl)
    obtain rfl : b8 = false := by
      cases b8 with
      | false => rfl
      | true => exact Bool.noConfusion (show false = true from hC 8 cs8o8 rfl rfl ⟨5, .data⟩ (by simp [cs8o8]) rfl)
    obtain rfl : b10 = false := by
      cases b10 with
      | false => rfl
      | true => exact Bool.noConfusion (show false = true from hC 10 cs8o10 rfl rfl ⟨8, .data⟩ (by simp [cs8o10]) rfl)
    obtain rfl : b11 = false := by
      cases b11 with
      | false => rfl
      | true => exact Bool.noConfusion (show false = true from hC 11 cs8o11 rfl rfl ⟨8, .chain⟩ (by simp [cs8o11]) rfl)
    exact cs8_s1 w0 X7 X8 kb ko n kc ki mt pt bd V0 sec aq nq cq a2 n2 c2 z1 z2 z4 SV sA mc L DB sa sc sd se sf sh sm so sp sq sr ss su sv sw sx sy sz ta tb tc td te tf tg th ti tj tk tl tm tn tp tr ts tt tu tv tw tx ty tz ua ub uc ud ue uf ug uh ui uj uk ul um un uo up uq ur us ut uu uv uw ux b0 b2 b6 b7 b9 dm w hi0 hi1 hdd hB hx7 hx8 hsg
  · obtain rfl : cs8o2 = o := Option.some.inj ho
    obtain rfl : b2 = false := h0
    obtain rfl : b3 = false := by
      cases b3 with
      | false => rfl
      | true => exact Bool.noConfusion (show false = true from hC 3 cs8o3 rfl rfl ⟨2, .data⟩ (by simp [cs8o3]) rfl)
    obtain rfl : b4 = false := by
      cases b4 with
      | false => rfl
      | true => exact Bool.noConfusion (show false = true from hC 4 cs8o4 rfl rfl ⟨3, .data⟩ (by simp [cs8o4]) rfl)
    obtain rfl : b5 = false := by
      cases b5 with
      | false => rfl
      | true => exact Bool.noConfusion (show false = true from hC 5 cs8o5 rfl rfl ⟨4, .data⟩ (by simp [cs8o5]) rfl)
    obtain rfl : b8 = false := by
      cases b8 with
      | false => rfl
      | true => exact Bool.noConfusion (show false = true from hC 8 cs8o8 rfl rfl ⟨5, .data⟩ (by simp [cs8o8]) rfl)
    obtain rfl : b10 = false := by
      cases b10 with
      | false => rfl
      | true => exact Bool.noConfusion (show false = true from hC 10 cs8o10 rfl rfl ⟨8, .data⟩ (by simp [cs8o10]) rfl)
    obtain rfl : b11 = false := by
      cases b11 with
      | false => rfl
      | true => exact Bool.noConfusion (show false = true from hC 11 cs8o11 rfl rfl ⟨8, .chain⟩ (by simp [cs8o11]) rfl)
    exact cs8_s2 w0 X7 X8 kb ko n kc ki mt pt bd V0 sec aq nq cq a2 n2 c2 z1 z2 z4 SV sA mc L DB sa sc sd se sf sh sm so sp sq sr ss su sv sw sx sy sz ta tb tc td te tf tg th ti tj tk tl tm tn tp tr ts tt tu tv tw tx ty tz ua ub uc ud ue uf ug uh ui uj uk ul um un uo up uq ur us ut uu uv uw ux b0 b1 b6 b7 b9 dm w hi0 hi1 hdd hB hx7 hx8 hsg
  · obtain rfl : cs8o3 = o := Option.some.inj ho
    obtain rfl : b3 = false := h0
    obtain rfl : b2 = true := h1 ⟨2, .data⟩ (by simp [cs8o3]) rfl
    obtain rfl : b1 = true := h1 ⟨1, .data⟩ (by simp [cs8o3]) rfl
    obtain rfl : b4 = false := by
      cases b4 with
      | false => rfl
      | true => exact Bool.noConfusion (show false = true from hC 4 cs8o4 rfl rfl ⟨3, .data⟩ (by simp [cs8o4]) rfl)
    obtain rfl : b5 = false := by
      cases b5 with
      | false => rfl
      | true => exact Bool.noConfusion (show false = true from hC 5 cs8o5 rfl rfl ⟨4, .data⟩ (by simp [cs8o5]) rfl)
    obtain rfl : b8 = false := by
      cases b8 with
      | false => rfl
      | true => exact Bool.noConfusion (show false = true from hC 8 cs8o8 rfl rfl ⟨5, .data⟩ (by simp [cs8o8]) rfl)
    obtain rfl : b10 = false := by
      cases b10 with
      | false => rfl
      | true => exact Bool.noConfusion (show false = true from hC 10 cs8o10 rfl rfl ⟨8, .data⟩ (by simp [cs8o10]) rfl)
    obtain rfl : b11 = false := by
      cases b11 with
      | false => rfl
      | true => exact Bool.noConfusion (show false = true from hC 11 cs8o11 rfl rfl ⟨8, .chain⟩ (by simp [cs8o11]) rfl)
    exact cs8_s3 w0 X7 X8 kb ko n kc ki mt pt bd V0 sec aq nq cq a2 n2 c2 z1 z2 z4 SV sA mc L DB sa sc sd se sf sh sm so sp sq sr ss su sv sw sx sy sz ta tb tc td te tf tg th ti tj tk tl tm tn tp tr ts tt tu tv tw tx ty tz ua ub uc ud ue uf ug uh ui uj uk ul um un uo up uq ur us ut uu uv uw ux b0 b6 b7 b9 dm w hi0 hi1 hdd hB hx7 hx8 hsg
  · obtain rfl : cs8o4 = o := Option.some.inj ho
    obtain rfl : b4 = false := h0
    obtain rfl : b3 = true := h1 ⟨3, .data⟩ (by simp [cs8o4]) rfl
    obtain rfl : b1 = true := hC 3 cs8o3 rfl rfl ⟨1, .data⟩ (by simp [cs8o3]) rfl
    obtain rfl : b2 = true := hC 3 cs8o3 rfl rfl ⟨2, .data⟩ (by simp [cs8o3]) rfl
    obtain rfl : b5 = false := by
      cases b5 with
      | false => rfl
      | true => exact Bool.noConfusion (show false = true from hC 5 cs8o5 rfl rfl ⟨4, .data⟩ (by simp [cs8o5]) rfl)
    obtain rfl : b8 = false := by
      cases b8 with
      | false => rfl
      | true => exact Bool.noConfusion (show false = true from hC 8 cs8o8 rfl rfl ⟨5, .data⟩ (by simp [cs8o8]) rfl)
    obtain rfl : b10 = false := by
      cases b10 with
      | false => rfl
      | true => exact Bool.noConfusion (show false = true from hC 10 cs8o10 rfl rfl ⟨8, .data⟩ (by simp [cs8o10]) rfl)
    obtain rfl : b11 = false := by
      cases b11 with
      | false => rfl
      | true => exact Bool.noConfusion (show false = true from hC 11 cs8o11 rfl rfl ⟨8, .chain⟩ (by simp [cs8o11]) rfl)
    exact cs8_s4 w0 X7 X8 kb ko n kc ki mt pt bd V0 sec aq nq cq a2 n2 c2 z1 z2 z4 SV sA mc L DB sa sc sd se sf sh sm so sp sq sr ss su sv sw sx sy sz ta tb tc td te tf tg th ti tj tk tl tm tn tp tr ts tt tu tv tw tx ty tz ua ub uc ud ue uf ug uh ui uj uk ul um un uo up uq ur us ut uu uv uw ux b0 b6 b7 b9 dm w hi0 hi1 hdd hB hx7 hx8 hsg
  · obtain rfl : cs8o5 = o := Option.some.inj ho
    obtain rfl : b5 = false := h0
    obtain rfl : b4 = true := h1 ⟨4, .data⟩ (by simp [cs8o5]) rfl
    obtain rfl : b3 = true := hC 4 cs8o4 rfl rfl ⟨3, .data⟩ (by simp [cs8o4]) rfl
    obtain rfl : b1 = true := hC 3 cs8o3 rfl rfl ⟨1, .data⟩ (by simp [cs8o3]) rfl
    obtain rfl : b2 = true := hC 3 cs8o3 rfl rfl ⟨2, .data⟩ (by simp [cs8o3]) rfl
    obtain rfl : b8 = false := by
      cases b8 with
      | false => rfl
      | true => exact Bool.noConfusion (show false = true from hC 8 cs8o8 rfl rfl ⟨5, .data⟩ (by simp [cs8o8]) rfl)
    obtain rfl : b10 = false := by
      cases b10 with
      | false => rfl
      | true => exact Bool.noConfusion (show false = true from hC 10 cs8o10 rfl rfl ⟨8, .data⟩ (by simp [cs8o10]) rfl)
    obtain rfl : b11 = false := by
      cases b11 with
      | false => rfl
      | true => exact Bool.noConfusion (show false = true from hC 11 cs8o11 rfl rfl ⟨8, .chain⟩ (by simp [cs8o11]) rfl)
    exact cs8_s5 w0 X7 X8 kb ko n kc ki mt pt bd V0 sec aq nq cq a2 n2 c2 z1 z2 z4 SV sA mc L DB sa sc sd se sf sh sm so sp sq sr ss su sv sw sx sy sz ta tb tc td te tf tg th ti tj tk tl tm tn tp tr ts tt tu tv tw tx ty tz ua ub uc ud ue uf ug uh ui uj uk ul um un uo up uq ur us ut uu uv uw ux b0 b6 b7 b9 dm w hkc hi0 hi1 hdd hB hx7 hx8 hsg
  · obtain rfl : cs8o6 = o := Option.some.inj ho
    obtain rfl : b6 = false := h0
    obtain rfl : b7 = false := by
      cases b7 with
      | false => rfl
      | true => exact Bool.noConfusion (show false = true from hC 7 cs8o7 rfl rfl ⟨6, .data⟩ (by simp [cs8o7]) rfl)
    obtain rfl : b8 = false := by
      cases b8 with
      | false => rfl
      | true => exact Bool.noConfusion (show false = true from hC 8 cs8o8 rfl rfl ⟨7, .data⟩ (by simp [cs8o8]) rfl)
    obtain rfl : b10 = false := by
      cases b10 with
      | false => rfl
      | true => exact Bool.noConfusion (show false = true from hC 10 cs8o10 rfl rfl ⟨8, .data⟩ (by simp [cs8o10]) rfl)
    obtain rfl : b11 = false := by
      cases b11 with
      | false => rfl
      | true => exact Bool.noConfusion (show false = true from hC 11 cs8o11 rfl rfl ⟨8, .chain⟩ (by simp [cs8o11]) rfl)
    exact cs8_s6 w0 X7 X8 kb ko n kc ki mt pt bd V0 sec aq nq cq a2 n2 c2 z1 z2 z4 SV sA mc L DB sa sc sd se sf sh sm so sp sq sr ss su sv sw sx sy sz ta tb tc td te tf tg th ti tj tk tl tm tn tp tr ts tt tu tv tw tx ty tz ua ub uc ud ue uf ug uh ui uj uk ul um un uo up uq ur us ut uu uv uw ux b0 b1 b2 b3 b4 b5 b9 dm w hi0 hi1 hdd hB hx7 hx8 hsg
  · obtain rfl : cs8o7 = o := Option.some.inj ho
    obtain rfl : b7 = false := h0
    obtain rfl : b6 = true := h1 ⟨6, .data⟩ (by simp [cs8o7]) rfl
    obtain rfl : b8 = false := by
      cases b8 with
      | false => rfl
      | true => exact Bool.noConfusion (show false = true from hC 8 cs8o8 rfl rfl ⟨7, .data⟩ (by simp [cs8o8]) rfl)
    obtain rfl : b10 = false := by
      cases b10 with
      | false => rfl
      | true => exact Bool.noConfusion (show false = true from hC 10 cs8o10 rfl rfl ⟨8, .data⟩ (by simp [cs8o10]) rfl)
    obtain rfl : b11 = false := by
      cases b11 with
      | false => rfl
      | true => exact Bool.noConfusion (show false = true from hC 11 cs8o11 rfl rfl ⟨8, .chain⟩ (by simp [cs8o11]) rfl)
    exact cs8_s7 w0 X7 X8 kb ko n kc ki mt pt bd V0 sec aq nq cq a2 n2 c2 z1 z2 z4 SV sA mc L DB sa sc sd se sf sh sm so sp sq sr ss su sv sw sx sy sz ta tb tc td te tf tg th ti tj tk tl tm tn tp tr ts tt tu tv tw tx ty tz ua ub uc ud ue uf ug uh ui uj uk ul um un uo up uq ur us ut uu uv uw ux b0 b1 b2 b3 b4 b5 b9 dm w hi0 hi1 hdd hB hx7 hx8 hsg
  · obtain rfl : cs8o8 = o := Option.some.inj ho
    obtain rfl : b8 = false := h0
    obtain rfl : b7 = true := h1 ⟨7, .data⟩ (by simp [cs8o8]) rfl
    obtain rfl : b5 = true := h1 ⟨5, .data⟩ (by simp [cs8o8]) rfl
    obtain rfl : b0 = true := h1 ⟨0, .data⟩ (by simp [cs8o8]) rfl
    obtain rfl : b6 = true := hC 7 cs8o7 rfl rfl ⟨6, .data⟩ (by simp [cs8o7]) rfl
    obtain rfl : b4 = true := hC 5 cs8o5 rfl rfl ⟨4, .data⟩ (by simp [cs8o5]) rfl
    obtain rfl : b3 = true := hC 4 cs8o4 rfl rfl ⟨3, .data⟩ (by simp [cs8o4]) rfl
    obtain rfl : b1 = true := hC 3 cs8o3 rfl rfl ⟨1, .data⟩ (by simp [cs8o3]) rfl
    obtain rfl : b2 = true := hC 3 cs8o3 rfl rfl ⟨2, .data⟩ (by simp [cs8o3]) rfl
    obtain rfl : b10 = false := by
      cases b10 with
      | false => rfl
      | true => exact Bool.noConfusion (show false = true from hC 10 cs8o10 rfl rfl ⟨8, .data⟩ (by simp [cs8o10]) rfl)
    obtain rfl : b11 = false := by
      cases b11 with
      | false => rfl
      | true => exact Bool.noConfusion (show false = true from hC 11 cs8o11 rfl rfl ⟨8, .chain⟩ (by simp [cs8o11]) rfl)
    exact cs8_s8 w0 X7 X8 kb ko n kc ki mt pt bd V0 sec aq nq cq a2 n2 c2 z1 z2 z4 SV sA mc L DB sa sc sd se sf sh sm so sp sq sr ss su sv sw sx sy sz ta tb tc td te tf tg th ti tj tk tl tm tn tp tr ts tt tu tv tw tx ty tz ua ub uc ud ue uf ug uh ui uj uk ul um un uo up uq ur us ut uu uv uw ux b9 dm w hi0 hi1 hks hdd hB hx7 hx8 hsg
  · obtain rfl : cs8o9 = o := Option.some.inj ho
    obtain rfl : b9 = false := h0
    obtain rfl : b10 = false := by
      cases b10 with
      | false => rfl
      | true => exact Bool.noConfusion (show false = true from hC 10 cs8o10 rfl rfl ⟨9, .data⟩ (by simp [cs8o10]) rfl)
    obtain rfl : b11 = false := by
      cases b11 with
      | false => rfl
      | true => exact Bool.noConfusion (show false = true from hC 11 cs8o11 rfl rfl ⟨10, .data⟩ (by simp [cs8o11]) rfl)
    exact cs8_s9 w0 X7 X8 kb ko n kc ki mt pt bd V0 sec aq nq cq a2 n2 c2 z1 z2 z4 SV sA mc L DB sa sc sd se sf sh sm so sp sq sr ss su sv sw sx sy sz ta tb tc td te tf tg th ti tj tk tl tm tn tp tr ts tt tu tv tw tx ty tz ua ub uc ud ue uf ug uh ui uj uk ul um un uo up uq ur us ut uu uv uw ux b0 b1 b2 b3 b4 b5 b6 b7 b8 dm w hi0 hi1 hdd hB hx7 hx8 hsg
  · obtain rfl : cs8o10 = o := Option.some.inj ho
    obtain rfl : b10 = false := h0
    obtain rfl : b9 = true := h1 ⟨9, .data⟩ (by simp [cs8o10]) rfl
    obtain rfl : b8 = true := h1 ⟨8, .data⟩ (by simp [cs8o10]) rfl
    obtain rfl : b0 = true := hC 8 cs8o8 rfl rfl ⟨0, .data⟩ (by simp [cs8o8]) rfl
    obtain rfl : b5 = true := hC 8 cs8o8 rfl rfl ⟨5, .data⟩ (by simp [cs8o8]) rfl
    obtain rfl : b7 = true := hC 8 cs8o8 rfl rfl ⟨7, .data⟩ (by simp [cs8o8]) rfl
    obtain rfl : b6 = true := hC 7 cs8o7 rfl rfl ⟨6, .data⟩ (by simp [cs8o7]) rfl
    obtain rfl : b4 = true := hC 5 cs8o5 rfl rfl ⟨4, .data⟩ (by simp [cs8o5]) rfl
    obtain rfl : b3 = true := hC 4 cs8o4 rfl rfl ⟨3, .data⟩ (by simp [cs8o4]) rfl
    obtain rfl : b1 = true := hC 3 cs8o3 rfl rfl ⟨1, .data⟩ (by simp [cs8o3]) rfl
    obtain rfl : b2 = true := hC 3 cs8o3 rfl rfl ⟨2, .data⟩ (by simp [cs8o3]) rfl
    obtain rfl : b11 = false := by
      cases b11 with
      | false => rfl
      | true => exact Bool.noConfusion (show false = true from hC 11 cs8o11 rfl rfl ⟨10, .data⟩ (by simp [cs8o11]) rfl)
    exact cs8_s10 w0 X7 X8 kb ko n kc ki mt pt bd V0 sec aq nq cq a2 n2 c2 z1 z2 z4 SV sA mc L DB sa sc sd se sf sh sm so sp sq sr ss su sv sw sx sy sz ta tb tc td te tf tg th ti tj tk tl tm tn tp tr ts tt tu tv tw tx ty tz ua ub uc ud ue uf ug uh ui uj uk ul um un uo up uq ur us ut uu uv uw ux  dm w hi0 hi1 hdd hB hx7 hx8 hsg
  · obtain rfl : cs8o11 = o := Option.some.inj ho
    obtain rfl : b11 = false := h0
    obtain rfl : b10 = true := h1 ⟨10, .data⟩ (by simp [cs8o11]) rfl
    obtain rfl : b8 = true := h1 ⟨8, .chain⟩ (by simp [cs8o11]) rfl
    obtain rfl : b9 = true := hC 10 cs8o10 rfl rfl ⟨9, .data⟩ (by simp [cs8o10]) rfl
    obtain rfl : b0 = true := hC 8 cs8o8 rfl rfl ⟨0, .data⟩ (by simp [cs8o8]) rfl
    obtain rfl : b5 = true := hC 8 cs8o8 rfl rfl ⟨5, .data⟩ (by simp [cs8o8]) rfl
    obtain rfl : b7 = true := hC 8 cs8o8 rfl rfl ⟨7, .data⟩ (by simp [cs8o8]) rfl
    obtain rfl : b6 = true := hC 7 cs8o7 rfl rfl ⟨6, .data⟩ (by simp [cs8o7]) rfl
    obtain rfl : b4 = true := hC 5 cs8o5 rfl rfl ⟨4, .data⟩ (by simp [cs8o5]) rfl
    obtain rfl : b3 = true := hC 4 cs8o4 rfl rfl ⟨3, .data⟩ (by simp [cs8o4]) rfl
    obtain rfl : b1 = true := hC 3 cs8o3 rfl rfl ⟨1, .data⟩ (by simp [cs8o3]) rfl
    obtain rfl : b2 = true := hC 3 cs8o3 rfl rfl ⟨2, .data⟩ (by simp [cs8o3]) rfl
    exact cs8_s11 w0 X7 X8 kb ko n kc ki mt pt bd V0 sec aq nq cq a2 n2 c2 z1 z2 z4 SV sA mc L DB sa sc sd se sf sh sm so sp sq sr ss su sv sw sx sy sz ta tb tc td te tf tg th ti tj tk tl tm tn tp tr ts tt tu tv tw tx ty tz ua ub uc ud ue uf ug uh ui uj uk ul um un uo up uq ur us ut uu uv uw ux  dm w hi0 hi1 hdd hB hx7 hx8 hsg
end
set_option maxRecDepth 20000 in
set_option maxHeartbeats 4000000 in
theorem cs8_wp {Q : Exit → Act → World → Prop} {rid : Nat} (w0 : World) (X7 X8 kb ko n kc ki : Nat) (mt pt bd V0 sec : ByteArray) (aq : Option Addr) (nq cq : Nat) (a2 : Option Addr) (n2 c2 : Nat) (z1 z2 z4 SV : Int) (sA : Option Addr) (mc : Nat) (L : List ByteArray) (DB : Bool) {sa sc sd se sf sh sm so sp sq sr ss su sv sw sx sy sz ta tb tc td te tf tg th ti tj tk tl tm tn tp tr ts tt tu tv tw tx ty tz ua ub uc ud ue uf ug uh ui uj uk ul um un uo up uq ur us ut uu uv uw ux : Value} (w : World) (hB : Below w0.heap.size w0 w) (hx7 : RowAt w X7 25 #[.string mt, .string pt, .slice aq nq cq, .slice a2 n2 c2, .string bd]) (hx8 : RowAt w X8 72 #[.string V0, .int .i64 z1, .int .i64 z2, .slice sA L.length mc]) (hsg : SgAt w sA mc L) (hkc : ∀ wx, Below w0.heap.size w0 wx → wx.cell? ⟨kb, ko + ki * 2 + 1, none⟩ = some (.string sec)) (hi0 : (0 : Int) ≤ (ki : Int)) (hi1 : (ki : Int) < (n : Int)) (hks : ∀ wx, Below w0.heap.size w0 wx → SgAt wx sA mc L → Calls Tryz.prog 44 #[.agg #[.string mt, .string pt, .slice aq nq cq, .slice a2 n2 c2, .string bd], .string sec, .slice sA L.length mc] wx fun e w' => e = .returned (.int .i64 SV) ∧ Below wx.heap.size wx w') (hdd : (SV != z4) = DB)
    (fin : ∀ (dm : Nat) (w' : World), (Below w0.heap.size w0 w') → (RowAt w' X7 25 #[.string mt, .string pt, .slice aq nq cq, .slice a2 n2 c2, .string bd]) → (RowAt w' X8 72 #[.string V0, .int .i64 z1, .int .i64 z2, .slice sA L.length mc]) → (SgAt w' sA mc L) → (∀ wx, Below w0.heap.size w0 wx → wx.cell? ⟨kb, ko + ki * 2 + 1, none⟩ = some (.string sec)) → ((0 : Int) ≤ (ki : Int)) → ((ki : Int) < (n : Int)) → (∀ wx, Below w0.heap.size w0 wx → SgAt wx sA mc L → Calls Tryz.prog 44 #[.agg #[.string mt, .string pt, .slice aq nq cq, .slice a2 n2 c2, .string bd], .string sec, .slice sA L.length mc] wx fun e w' => e = .returned (.int .i64 SV) ∧ Below wx.heap.size wx w') → ((SV != z4) = DB) → Q .normal { tmps := #[sa, .slice (some ⟨kb, ko, none⟩) n kc, sc, sd, se, sf, sh, .pointer (some ⟨X7, 0, none⟩), .pointer (some ⟨X8, 0, none⟩), .int .i64 z4, sm, .int .i64 (ki : Int), so, sp, sq, sr, ss, su, sv, sw, sx, sy, sz, ta, tb, tc, td, te, tf, tg, th, ti, tj, tk, .bool DB, tm, tn, tp, tr, ts, tt, tu, .agg #[.string mt, .string pt, .slice aq nq cq, .slice a2 n2 c2, .string bd], .slice (some ⟨kb, ko, none⟩) n kc, .int .i64 (ki : Int), .pointer (some ⟨kb, ko + ki * 2, none⟩), .pointer (some ⟨kb, ko + ki * 2 + 1, none⟩), .string sec, .pointer (some ⟨X8, 3, none⟩), .slice sA L.length mc, .int .i64 SV, .int .i64 z4, .bool DB, ug, uh, ui, uj, uk, ul, um, un, uo, up, uq, ur, us, ut, uu, uv, uw, ux], defers := [] } w') :
    (Code.region rid cs8O true).wp Tryz.prog Q { tmps := #[sa, .slice (some ⟨kb, ko, none⟩) n kc, sc, sd, se, sf, sh, .pointer (some ⟨X7, 0, none⟩), .pointer (some ⟨X8, 0, none⟩), .int .i64 z4, sm, .int .i64 (ki : Int), so, sp, sq, sr, ss, su, sv, sw, sx, sy, sz, ta, tb, tc, td, te, tf, tg, th, ti, tj, tk, tl, tm, tn, tp, tr, ts, tt, tu, tv, tw, tx, ty, tz, ua, ub, uc, ud, ue, uf, ug, uh, ui, uj, uk, ul, um, un, uo, up, uq, ur, us, ut, uu, uv, uw, ux], defers := [] } w := by
  refine wp_region_inv (ops := cs8O) (cs8I w0 X7 X8 kb ko n kc ki mt pt bd V0 sec aq nq cq a2 n2 c2 z1 z2 z4 SV sA mc L DB sa sc sd se sf sh sm so sp sq sr ss su sv sw sx sy sz ta tb tc td te tf tg th ti tj tk tl tm tn tp tr ts tt tu tv tw tx ty tz ua ub uc ud ue uf ug uh ui uj uk ul um un uo up uq ur us ut uu uv uw ux) (by kernel_rfl) (by kernel_rfl) (fun l f v hI => ?_) (fun l f v hC hI i h0 o ho h1 => cs8_step w0 X7 X8 kb ko n kc ki mt pt bd V0 sec aq nq cq a2 n2 c2 z1 z2 z4 SV sA mc L DB sa sc sd se sf sh sm so sp sq sr ss su sv sw sx sy sz ta tb tc td te tf tg th ti tj tk tl tm tn tp tr ts tt tu tv tw tx ty tz ua ub uc ud ue uf ug uh ui uj uk ul um un uo up uq ur us ut uu uv uw ux hkc hi0 hi1 hks hdd l f v hC hI i h0 o ho h1) (fun l f v hI hall => ?_) ?_
  · obtain ⟨_, _, _, _, _, _, _, _, _, _, _, _, _, rfl, _⟩ := hI; rfl
  · obtain ⟨b0, b1, b2, b3, b4, b5, b6, b7, b8, b9, b10, b11, dm, rfl, rfl, hB, hx7, hx8, hsg⟩ := hI
    obtain rfl : b0 = true := hall 0 (by simp)
    obtain rfl : b1 = true := hall 1 (by simp)
    obtain rfl : b2 = true := hall 2 (by simp)
    obtain rfl : b3 = true := hall 3 (by simp)
    obtain rfl : b4 = true := hall 4 (by simp)
    obtain rfl : b5 = true := hall 5 (by simp)
    obtain rfl : b6 = true := hall 6 (by simp)
    obtain rfl : b7 = true := hall 7 (by simp)
    obtain rfl : b8 = true := hall 8 (by simp)
    obtain rfl : b9 = true := hall 9 (by simp)
    obtain rfl : b10 = true := hall 10 (by simp)
    obtain rfl : b11 = true := hall 11 (by simp)
    exact fin dm v hB hx7 hx8 hsg hkc hi0 hi1 hks hdd
  · exact ⟨false, false, false, false, false, false, false, false, false, false, false, false, 0, rfl, rfl, hB.drew, hx7.drew, hx8.drew, hsg.below ((Below.refl _ _).drew)⟩
end Go.Proofs.YtkppgjndmbbobaaGreatDoor
