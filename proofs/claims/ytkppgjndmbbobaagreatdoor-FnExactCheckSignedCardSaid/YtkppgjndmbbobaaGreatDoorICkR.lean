import Derived.Test.YtkppgjndmbbobaaGreatDoorG14
import Derived.Test.YtkppgjndmbbobaaGreatDoorG8
namespace Go.Proofs.YtkppgjndmbbobaaGreatDoor
open Go.RowKit
set_option linter.unusedVariables false
theorem selS_t (v o : Value) : selS true v o = v := rfl
theorem selS_f (v o : Value) : selS false v o = o := rfl
/-! readSignature (by genckr.py). -/
def rs1o0 : Oper := { dst := some 5, op := Op.move (Operand.tmp 0), type := 23, pos := "l10_request.go:411", after := #[], guard := none }
def rs1o1 : Oper := { dst := some 6, op := Op.indexAddr 23 (Operand.tmp 5) (Operand.const (Value.int IntKind.i64 0)), type := 0, pos := "l10_request.go:411", after := #[{ on := 0, ground := Ground.data }], guard := none }
def rs1o2 : Oper := { dst := some 7, op := Op.fieldAddr 66 (Operand.tmp 6) 1, type := 0, pos := "l10_request.go:411", after := #[{ on := 1, ground := Ground.data }], guard := none }
def rs1o3 : Oper := { dst := some 8, op := Op.load 9 (Operand.tmp 7), type := 9, pos := "l10_request.go:411", after := #[{ on := 2, ground := Ground.data }], guard := none }
def rs1o4 : Oper := { dst := some 9, op := Op.move (Operand.tmp 0), type := 23, pos := "l10_request.go:411", after := #[], guard := none }
def rs1o5 : Oper := { dst := some 10, op := Op.indexAddr 23 (Operand.tmp 9) (Operand.const (Value.int IntKind.i64 1)), type := 0, pos := "l10_request.go:411", after := #[{ on := 4, ground := Ground.data }], guard := none }
def rs1o6 : Oper := { dst := some 11, op := Op.fieldAddr 66 (Operand.tmp 10) 1, type := 0, pos := "l10_request.go:411", after := #[{ on := 5, ground := Ground.data }], guard := none }
def rs1o7 : Oper := { dst := some 12, op := Op.load 9 (Operand.tmp 11), type := 9, pos := "l10_request.go:411", after := #[{ on := 6, ground := Ground.data }], guard := none }
def rs1o8 : Oper := { dst := some 13, op := Op.call { callee := Callee.value (Operand.func 93), args := #[Operand.tmp 12], argTypes := #[9] }, type := 2, pos := "l10_request.go:413", after := #[{ on := 7, ground := Ground.data }], guard := none }
def rs1o9 : Oper := { dst := some 14, op := Op.move (Operand.tmp 0), type := 23, pos := "l10_request.go:411", after := #[], guard := none }
def rs1o10 : Oper := { dst := some 15, op := Op.indexAddr 23 (Operand.tmp 14) (Operand.const (Value.int IntKind.i64 2)), type := 0, pos := "l10_request.go:411", after := #[{ on := 9, ground := Ground.data }], guard := none }
def rs1o11 : Oper := { dst := some 16, op := Op.fieldAddr 66 (Operand.tmp 15) 1, type := 0, pos := "l10_request.go:411", after := #[{ on := 10, ground := Ground.data }], guard := none }
def rs1o12 : Oper := { dst := some 17, op := Op.load 9 (Operand.tmp 16), type := 9, pos := "l10_request.go:411", after := #[{ on := 11, ground := Ground.data }], guard := none }
def rs1o13 : Oper := { dst := some 18, op := Op.call { callee := Callee.value (Operand.func 93), args := #[Operand.tmp 17], argTypes := #[9] }, type := 2, pos := "l10_request.go:414", after := #[{ on := 12, ground := Ground.data }, { on := 8, ground := Ground.chain }], guard := none }
def rs1o14 : Oper := { dst := some 19, op := Op.build 72 #[(0, Operand.tmp 8), (1, Operand.tmp 13), (2, Operand.tmp 18)], type := 72, pos := "l10_request.go:411", after := #[{ on := 3, ground := Ground.data }, { on := 8, ground := Ground.data }, { on := 13, ground := Ground.data }], guard := none }
def rs1o15 : Oper := { dst := some 3, op := Op.alloc 72, type := 0, pos := "l10_request.go:411", after := #[], guard := none }
def rs1o16 : Oper := { dst := none, op := Op.store 72 (Operand.tmp 3) (Operand.tmp 19), type := 0, pos := "l10_request.go:411", after := #[{ on := 15, ground := Ground.data }, { on := 14, ground := Ground.data }, { on := 13, ground := Ground.chain }, { on := 0, ground := Ground.phase }, { on := 1, ground := Ground.phase }, { on := 2, ground := Ground.phase }, { on := 3, ground := Ground.phase }, { on := 4, ground := Ground.phase }, { on := 5, ground := Ground.phase }, { on := 6, ground := Ground.phase }, { on := 7, ground := Ground.phase }, { on := 8, ground := Ground.phase }, { on := 9, ground := Ground.phase }, { on := 10, ground := Ground.phase }, { on := 11, ground := Ground.phase }, { on := 12, ground := Ground.phase }, { on := 13, ground := Ground.phase }, { on := 14, ground := Ground.phase }, { on := 15, ground := Ground.phase }], guard := none }
def rs1O : Array Oper := #[rs1o0, rs1o1, rs1o2, rs1o3, rs1o4, rs1o5, rs1o6, rs1o7, rs1o8, rs1o9, rs1o10, rs1o11, rs1o12, rs1o13, rs1o14, rs1o15, rs1o16]
def rs1T (w0 : World) (qb qo cap : Nat) (V0 V1 V2 : ByteArray) (sb sc sd se sf sh si sj sk sm sn so sp sq sr ss su sv sw sx sy sz ta tb tc td te tf tg : Value) (z1 : Int) (z2 : Int) (XA : Nat) (b0 b1 b2 b3 b4 b5 b6 b7 b8 b9 b10 b11 b12 b13 b14 b15 b16 : Bool) : Array Value := #[.slice (some ⟨qb, qo, none⟩) 5 cap, sb, sc, selS b15 (.pointer (some ⟨XA, 0, none⟩)) (sd), se, selS b0 (.slice (some ⟨qb, qo, none⟩) 5 cap) (sf), selS b1 (.pointer (some ⟨qb, qo, none⟩)) (sh), selS b2 (.pointer (some ⟨qb, qo + 1, none⟩)) (si), selS b3 (.string V0) (sj), selS b4 (.slice (some ⟨qb, qo, none⟩) 5 cap) (sk), selS b5 (.pointer (some ⟨qb, qo + 2, none⟩)) (sm), selS b6 (.pointer (some ⟨qb, qo + 3, none⟩)) (sn), selS b7 (.string V1) (so), selS b8 (.int .i64 z1) (sp), selS b9 (.slice (some ⟨qb, qo, none⟩) 5 cap) (sq), selS b10 (.pointer (some ⟨qb, qo + 4, none⟩)) (sr), selS b11 (.pointer (some ⟨qb, qo + 5, none⟩)) (ss), selS b12 (.string V2) (su), selS b13 (.int .i64 z2) (sv), selS b14 (.agg #[.string V0, .int .i64 z1, .int .i64 z2, .slice none 0 0]) (sw), sx, sy, sz, ta, tb, tc, td, te, tf, tg]
def rs1I (w0 : World) (qb qo cap : Nat) (V0 V1 V2 : ByteArray) (sb sc sd se sf sh si sj sk sm sn so sp sq sr ss su sv sw sx sy sz ta tb tc td te tf tg : Value) (l : Array Bool) (f : Act) (w : World) : Prop :=
  ∃ (b0 b1 b2 b3 b4 b5 b6 b7 b8 b9 b10 b11 b12 b13 b14 b15 b16 : Bool) (z1 : Int) (z2 : Int) (XA : Nat), l = #[b0, b1, b2, b3, b4, b5, b6, b7, b8, b9, b10, b11, b12, b13, b14, b15, b16] ∧ f = { tmps := rs1T w0 qb qo cap V0 V1 V2 sb sc sd se sf sh si sj sk sm sn so sp sq sr ss su sv sw sx sy sz ta tb tc td te tf tg z1 z2 XA b0 b1 b2 b3 b4 b5 b6 b7 b8 b9 b10 b11 b12 b13 b14 b15 b16, defers := [] } ∧ (Below w0.heap.size w0 w) ∧ (b8 = true → decO2 V1.data.toList z1) ∧ (b13 = true → decO2 V2.data.toList z2) ∧ (b15 = true → RowAt w XA 72 (cond b16 #[.string V0, .int .i64 z1, .int .i64 z2, .slice none 0 0] #[.string ⟨#[]⟩, .int .i64 0, .int .i64 0, .slice none 0 0]) ∧ w0.heap.size ≤ XA)
section
variable {Q : Exit → Act → World → Prop} (w0 : World) (qb qo cap : Nat) (V0 V1 V2 : ByteArray) (sb sc sd se sf sh si sj sk sm sn so sp sq sr ss su sv sw sx sy sz ta tb tc td te tf tg : Value)
set_option maxRecDepth 20000 in
set_option maxHeartbeats 1000000 in
theorem rs1_s0 (b4 b5 b6 b7 b8 b9 b10 b11 b12 b13 b15 : Bool) (z1 : Int) (z2 : Int) (XA : Nat) (w : World)  (hB : Below w0.heap.size w0 w) (hd1 : b8 = true → decO2 V1.data.toList z1) (hd2 : b13 = true → decO2 V2.data.toList z2) (hXA : b15 = true → RowAt w XA 72 (cond false #[.string V0, .int .i64 z1, .int .i64 z2, .slice none 0 0] #[.string ⟨#[]⟩, .int .i64 0, .int .i64 0, .slice none 0 0]) ∧ w0.heap.size ≤ XA) :
    wpOp Tryz.prog rs1O Q 0 (rs1I w0 qb qo cap V0 V1 V2 sb sc sd se sf sh si sj sk sm sn so sp sq sr ss su sv sw sx sy sz ta tb tc td te tf tg #[true, false, false, false, b4, b5, b6, b7, b8, b9, b10, b11, b12, b13, false, b15, false]) { tmps := rs1T w0 qb qo cap V0 V1 V2 sb sc sd se sf sh si sj sk sm sn so sp sq sr ss su sv sw sx sy sz ta tb tc td te tf tg z1 z2 XA false false false false b4 b5 b6 b7 b8 b9 b10 b11 b12 b13 false b15 false, defers := [] } w := by
  refine wpOp_step (o := rs1o0) rfl (fun K hK => ?_)
  replace hK := hid hK
  simp only [rs1o0, rs1T, selS_f]
  go_simp
  exact hK.out _ _ ⟨true, false, false, false, b4, b5, b6, b7, b8, b9, b10, b11, b12, b13, false, b15, false, z1, z2, XA, rfl, rfl, hB, hd1, hd2, hXA⟩
set_option maxRecDepth 20000 in
set_option maxHeartbeats 1000000 in
theorem rs1_s1 (b4 b5 b6 b7 b8 b9 b10 b11 b12 b13 b15 : Bool) (z1 : Int) (z2 : Int) (XA : Nat) (w : World)  (hB : Below w0.heap.size w0 w) (hd1 : b8 = true → decO2 V1.data.toList z1) (hd2 : b13 = true → decO2 V2.data.toList z2) (hXA : b15 = true → RowAt w XA 72 (cond false #[.string V0, .int .i64 z1, .int .i64 z2, .slice none 0 0] #[.string ⟨#[]⟩, .int .i64 0, .int .i64 0, .slice none 0 0]) ∧ w0.heap.size ≤ XA) :
    wpOp Tryz.prog rs1O Q 1 (rs1I w0 qb qo cap V0 V1 V2 sb sc sd se sf sh si sj sk sm sn so sp sq sr ss su sv sw sx sy sz ta tb tc td te tf tg #[true, true, false, false, b4, b5, b6, b7, b8, b9, b10, b11, b12, b13, false, b15, false]) { tmps := rs1T w0 qb qo cap V0 V1 V2 sb sc sd se sf sh si sj sk sm sn so sp sq sr ss su sv sw sx sy sz ta tb tc td te tf tg z1 z2 XA true false false false b4 b5 b6 b7 b8 b9 b10 b11 b12 b13 false b15 false, defers := [] } w := by
  refine wpOp_step (o := rs1o1) rfl (fun K hK => ?_)
  replace hK := hid hK
  simp only [rs1o1, rs1T, selS_t, selS_f]
  go_simp
  exact hK.out _ _ ⟨true, true, false, false, b4, b5, b6, b7, b8, b9, b10, b11, b12, b13, false, b15, false, z1, z2, XA, rfl, rfl, hB, hd1, hd2, hXA⟩
set_option maxRecDepth 20000 in
set_option maxHeartbeats 1000000 in
theorem rs1_s2 (b4 b5 b6 b7 b8 b9 b10 b11 b12 b13 b15 : Bool) (z1 : Int) (z2 : Int) (XA : Nat) (w : World)  (hB : Below w0.heap.size w0 w) (hd1 : b8 = true → decO2 V1.data.toList z1) (hd2 : b13 = true → decO2 V2.data.toList z2) (hXA : b15 = true → RowAt w XA 72 (cond false #[.string V0, .int .i64 z1, .int .i64 z2, .slice none 0 0] #[.string ⟨#[]⟩, .int .i64 0, .int .i64 0, .slice none 0 0]) ∧ w0.heap.size ≤ XA) :
    wpOp Tryz.prog rs1O Q 2 (rs1I w0 qb qo cap V0 V1 V2 sb sc sd se sf sh si sj sk sm sn so sp sq sr ss su sv sw sx sy sz ta tb tc td te tf tg #[true, true, true, false, b4, b5, b6, b7, b8, b9, b10, b11, b12, b13, false, b15, false]) { tmps := rs1T w0 qb qo cap V0 V1 V2 sb sc sd se sf sh si sj sk sm sn so sp sq sr ss su sv sw sx sy sz ta tb tc td te tf tg z1 z2 XA true true false false b4 b5 b6 b7 b8 b9 b10 b11 b12 b13 false b15 false, defers := [] } w := by
  refine wpOp_step (o := rs1o2) rfl (fun K hK => ?_)
  replace hK := hid hK
  simp only [rs1o2, rs1T, selS_t, selS_f]
  go_simp
  exact hK.out _ _ ⟨true, true, true, false, b4, b5, b6, b7, b8, b9, b10, b11, b12, b13, false, b15, false, z1, z2, XA, rfl, rfl, hB, hd1, hd2, hXA⟩
set_option maxRecDepth 20000 in
set_option maxHeartbeats 1000000 in
theorem rs1_s3 (b4 b5 b6 b7 b8 b9 b10 b11 b12 b13 b15 : Bool) (z1 : Int) (z2 : Int) (XA : Nat) (w : World) (hcv : ∀ wx, Below w0.heap.size w0 wx → wx.cell? ⟨qb, qo + 1, none⟩ = some (.string V0) ∧ wx.cell? ⟨qb, qo + 3, none⟩ = some (.string V1) ∧ wx.cell? ⟨qb, qo + 5, none⟩ = some (.string V2)) (hB : Below w0.heap.size w0 w) (hd1 : b8 = true → decO2 V1.data.toList z1) (hd2 : b13 = true → decO2 V2.data.toList z2) (hXA : b15 = true → RowAt w XA 72 (cond false #[.string V0, .int .i64 z1, .int .i64 z2, .slice none 0 0] #[.string ⟨#[]⟩, .int .i64 0, .int .i64 0, .slice none 0 0]) ∧ w0.heap.size ≤ XA) :
    wpOp Tryz.prog rs1O Q 3 (rs1I w0 qb qo cap V0 V1 V2 sb sc sd se sf sh si sj sk sm sn so sp sq sr ss su sv sw sx sy sz ta tb tc td te tf tg #[true, true, true, true, b4, b5, b6, b7, b8, b9, b10, b11, b12, b13, false, b15, false]) { tmps := rs1T w0 qb qo cap V0 V1 V2 sb sc sd se sf sh si sj sk sm sn so sp sq sr ss su sv sw sx sy sz ta tb tc td te tf tg z1 z2 XA true true true false b4 b5 b6 b7 b8 b9 b10 b11 b12 b13 false b15 false, defers := [] } w := by
  obtain ⟨q0, q1, q2⟩ := hcv w hB
  refine wpOp_step (o := rs1o3) rfl (fun K hK => ?_)
  replace hK := hid hK
  simp only [rs1o3, rs1T, selS_t, selS_f]
  go_simp
  exact hK.out _ _ ⟨true, true, true, true, b4, b5, b6, b7, b8, b9, b10, b11, b12, b13, false, b15, false, z1, z2, XA, rfl, rfl, hB, hd1, hd2, hXA⟩
set_option maxRecDepth 20000 in
set_option maxHeartbeats 1000000 in
theorem rs1_s4 (b0 b1 b2 b3 b9 b10 b11 b12 b15 : Bool) (z1 : Int) (z2 : Int) (XA : Nat) (w : World)  (hB : Below w0.heap.size w0 w) (hd1 : false = true → decO2 V1.data.toList z1) (hd2 : false = true → decO2 V2.data.toList z2) (hXA : b15 = true → RowAt w XA 72 (cond false #[.string V0, .int .i64 z1, .int .i64 z2, .slice none 0 0] #[.string ⟨#[]⟩, .int .i64 0, .int .i64 0, .slice none 0 0]) ∧ w0.heap.size ≤ XA) :
    wpOp Tryz.prog rs1O Q 4 (rs1I w0 qb qo cap V0 V1 V2 sb sc sd se sf sh si sj sk sm sn so sp sq sr ss su sv sw sx sy sz ta tb tc td te tf tg #[b0, b1, b2, b3, true, false, false, false, false, b9, b10, b11, b12, false, false, b15, false]) { tmps := rs1T w0 qb qo cap V0 V1 V2 sb sc sd se sf sh si sj sk sm sn so sp sq sr ss su sv sw sx sy sz ta tb tc td te tf tg z1 z2 XA b0 b1 b2 b3 false false false false false b9 b10 b11 b12 false false b15 false, defers := [] } w := by
  refine wpOp_step (o := rs1o4) rfl (fun K hK => ?_)
  replace hK := hid hK
  simp only [rs1o4, rs1T, selS_f]
  go_simp
  exact hK.out _ _ ⟨b0, b1, b2, b3, true, false, false, false, false, b9, b10, b11, b12, false, false, b15, false, z1, z2, XA, rfl, rfl, hB, fun h => Bool.noConfusion h, fun h => Bool.noConfusion h, hXA⟩
set_option maxRecDepth 20000 in
set_option maxHeartbeats 1000000 in
theorem rs1_s5 (b0 b1 b2 b3 b9 b10 b11 b12 b15 : Bool) (z1 : Int) (z2 : Int) (XA : Nat) (w : World)  (hB : Below w0.heap.size w0 w) (hd1 : false = true → decO2 V1.data.toList z1) (hd2 : false = true → decO2 V2.data.toList z2) (hXA : b15 = true → RowAt w XA 72 (cond false #[.string V0, .int .i64 z1, .int .i64 z2, .slice none 0 0] #[.string ⟨#[]⟩, .int .i64 0, .int .i64 0, .slice none 0 0]) ∧ w0.heap.size ≤ XA) :
    wpOp Tryz.prog rs1O Q 5 (rs1I w0 qb qo cap V0 V1 V2 sb sc sd se sf sh si sj sk sm sn so sp sq sr ss su sv sw sx sy sz ta tb tc td te tf tg #[b0, b1, b2, b3, true, true, false, false, false, b9, b10, b11, b12, false, false, b15, false]) { tmps := rs1T w0 qb qo cap V0 V1 V2 sb sc sd se sf sh si sj sk sm sn so sp sq sr ss su sv sw sx sy sz ta tb tc td te tf tg z1 z2 XA b0 b1 b2 b3 true false false false false b9 b10 b11 b12 false false b15 false, defers := [] } w := by
  refine wpOp_step (o := rs1o5) rfl (fun K hK => ?_)
  replace hK := hid hK
  simp only [rs1o5, rs1T, selS_t, selS_f]
  go_simp
  exact hK.out _ _ ⟨b0, b1, b2, b3, true, true, false, false, false, b9, b10, b11, b12, false, false, b15, false, z1, z2, XA, rfl, rfl, hB, fun h => Bool.noConfusion h, fun h => Bool.noConfusion h, hXA⟩
set_option maxRecDepth 20000 in
set_option maxHeartbeats 1000000 in
theorem rs1_s6 (b0 b1 b2 b3 b9 b10 b11 b12 b15 : Bool) (z1 : Int) (z2 : Int) (XA : Nat) (w : World)  (hB : Below w0.heap.size w0 w) (hd1 : false = true → decO2 V1.data.toList z1) (hd2 : false = true → decO2 V2.data.toList z2) (hXA : b15 = true → RowAt w XA 72 (cond false #[.string V0, .int .i64 z1, .int .i64 z2, .slice none 0 0] #[.string ⟨#[]⟩, .int .i64 0, .int .i64 0, .slice none 0 0]) ∧ w0.heap.size ≤ XA) :
    wpOp Tryz.prog rs1O Q 6 (rs1I w0 qb qo cap V0 V1 V2 sb sc sd se sf sh si sj sk sm sn so sp sq sr ss su sv sw sx sy sz ta tb tc td te tf tg #[b0, b1, b2, b3, true, true, true, false, false, b9, b10, b11, b12, false, false, b15, false]) { tmps := rs1T w0 qb qo cap V0 V1 V2 sb sc sd se sf sh si sj sk sm sn so sp sq sr ss su sv sw sx sy sz ta tb tc td te tf tg z1 z2 XA b0 b1 b2 b3 true true false false false b9 b10 b11 b12 false false b15 false, defers := [] } w := by
  refine wpOp_step (o := rs1o6) rfl (fun K hK => ?_)
  replace hK := hid hK
  simp only [rs1o6, rs1T, selS_t, selS_f]
  go_simp
  exact hK.out _ _ ⟨b0, b1, b2, b3, true, true, true, false, false, b9, b10, b11, b12, false, false, b15, false, z1, z2, XA, rfl, rfl, hB, fun h => Bool.noConfusion h, fun h => Bool.noConfusion h, hXA⟩
set_option maxRecDepth 20000 in
set_option maxHeartbeats 1000000 in
theorem rs1_s7 (b0 b1 b2 b3 b9 b10 b11 b12 b15 : Bool) (z1 : Int) (z2 : Int) (XA : Nat) (w : World) (hcv : ∀ wx, Below w0.heap.size w0 wx → wx.cell? ⟨qb, qo + 1, none⟩ = some (.string V0) ∧ wx.cell? ⟨qb, qo + 3, none⟩ = some (.string V1) ∧ wx.cell? ⟨qb, qo + 5, none⟩ = some (.string V2)) (hB : Below w0.heap.size w0 w) (hd1 : false = true → decO2 V1.data.toList z1) (hd2 : false = true → decO2 V2.data.toList z2) (hXA : b15 = true → RowAt w XA 72 (cond false #[.string V0, .int .i64 z1, .int .i64 z2, .slice none 0 0] #[.string ⟨#[]⟩, .int .i64 0, .int .i64 0, .slice none 0 0]) ∧ w0.heap.size ≤ XA) :
    wpOp Tryz.prog rs1O Q 7 (rs1I w0 qb qo cap V0 V1 V2 sb sc sd se sf sh si sj sk sm sn so sp sq sr ss su sv sw sx sy sz ta tb tc td te tf tg #[b0, b1, b2, b3, true, true, true, true, false, b9, b10, b11, b12, false, false, b15, false]) { tmps := rs1T w0 qb qo cap V0 V1 V2 sb sc sd se sf sh si sj sk sm sn so sp sq sr ss su sv sw sx sy sz ta tb tc td te tf tg z1 z2 XA b0 b1 b2 b3 true true true false false b9 b10 b11 b12 false false b15 false, defers := [] } w := by
  obtain ⟨q0, q1, q2⟩ := hcv w hB
  refine wpOp_step (o := rs1o7) rfl (fun K hK => ?_)
  replace hK := hid hK
  simp only [rs1o7, rs1T, selS_t, selS_f]
  go_simp
  exact hK.out _ _ ⟨b0, b1, b2, b3, true, true, true, true, false, b9, b10, b11, b12, false, false, b15, false, z1, z2, XA, rfl, rfl, hB, fun h => Bool.noConfusion h, fun h => Bool.noConfusion h, hXA⟩
set_option maxRecDepth 20000 in
set_option maxHeartbeats 1000000 in
theorem rs1_s8 (b0 b1 b2 b3 b9 b10 b11 b12 b15 : Bool) (z1 : Int) (z2 : Int) (XA : Nat) (w : World) (hr1 : ∀ wx, Below w0.heap.size w0 wx → Calls Tryz.prog 93 #[.string V1] wx fun e w' => (∃ z : Int, e = .returned (.int .i64 z) ∧ decO2 V1.data.toList z) ∧ Below wx.heap.size wx w') (hB : Below w0.heap.size w0 w) (hd1 : false = true → decO2 V1.data.toList z1) (hd2 : false = true → decO2 V2.data.toList z2) (hXA : b15 = true → RowAt w XA 72 (cond false #[.string V0, .int .i64 z1, .int .i64 z2, .slice none 0 0] #[.string ⟨#[]⟩, .int .i64 0, .int .i64 0, .slice none 0 0]) ∧ w0.heap.size ≤ XA) :
    wpOp Tryz.prog rs1O Q 8 (rs1I w0 qb qo cap V0 V1 V2 sb sc sd se sf sh si sj sk sm sn so sp sq sr ss su sv sw sx sy sz ta tb tc td te tf tg #[b0, b1, b2, b3, true, true, true, true, true, b9, b10, b11, b12, false, false, b15, false]) { tmps := rs1T w0 qb qo cap V0 V1 V2 sb sc sd se sf sh si sj sk sm sn so sp sq sr ss su sv sw sx sy sz ta tb tc td te tf tg z1 z2 XA b0 b1 b2 b3 true true true true false b9 b10 b11 b12 false false b15 false, defers := [] } w := by
  refine wpOp_step (o := rs1o8) rfl (fun K hK => ?_)
  replace hK := hid hK
  simp only [rs1o8, rs1T, selS_t, selS_f]
  go_simp
  refine (hr1 _ hB).mono ?_
  rintro e w2 ⟨⟨z9, rfl, hz9⟩, hb2⟩
  dsimp only
  exact hK.out _ _ ⟨b0, b1, b2, b3, true, true, true, true, true, b9, b10, b11, b12, false, false, b15, false, z9, z2, XA, rfl, rfl, hB.trans (hb2.mono hB.size), fun _ => hz9, fun h => Bool.noConfusion h, fun h => ⟨RowAt.nxS hb2 (hXA h).1, (hXA h).2⟩⟩
set_option maxRecDepth 20000 in
set_option maxHeartbeats 1000000 in
theorem rs1_s9 (b0 b1 b2 b3 b4 b5 b6 b7 b8 b15 : Bool) (z1 : Int) (z2 : Int) (XA : Nat) (w : World)  (hB : Below w0.heap.size w0 w) (hd1 : b8 = true → decO2 V1.data.toList z1) (hd2 : false = true → decO2 V2.data.toList z2) (hXA : b15 = true → RowAt w XA 72 (cond false #[.string V0, .int .i64 z1, .int .i64 z2, .slice none 0 0] #[.string ⟨#[]⟩, .int .i64 0, .int .i64 0, .slice none 0 0]) ∧ w0.heap.size ≤ XA) :
    wpOp Tryz.prog rs1O Q 9 (rs1I w0 qb qo cap V0 V1 V2 sb sc sd se sf sh si sj sk sm sn so sp sq sr ss su sv sw sx sy sz ta tb tc td te tf tg #[b0, b1, b2, b3, b4, b5, b6, b7, b8, true, false, false, false, false, false, b15, false]) { tmps := rs1T w0 qb qo cap V0 V1 V2 sb sc sd se sf sh si sj sk sm sn so sp sq sr ss su sv sw sx sy sz ta tb tc td te tf tg z1 z2 XA b0 b1 b2 b3 b4 b5 b6 b7 b8 false false false false false false b15 false, defers := [] } w := by
  refine wpOp_step (o := rs1o9) rfl (fun K hK => ?_)
  replace hK := hid hK
  simp only [rs1o9, rs1T, selS_f]
  go_simp
  exact hK.out _ _ ⟨b0, b1, b2, b3, b4, b5, b6, b7, b8, true, false, false, false, false, false, b15, false, z1, z2, XA, rfl, rfl, hB, hd1, fun h => Bool.noConfusion h, hXA⟩
set_option maxRecDepth 20000 in
set_option maxHeartbeats 1000000 in
theorem rs1_s10 (b0 b1 b2 b3 b4 b5 b6 b7 b8 b15 : Bool) (z1 : Int) (z2 : Int) (XA : Nat) (w : World)  (hB : Below w0.heap.size w0 w) (hd1 : b8 = true → decO2 V1.data.toList z1) (hd2 : false = true → decO2 V2.data.toList z2) (hXA : b15 = true → RowAt w XA 72 (cond false #[.string V0, .int .i64 z1, .int .i64 z2, .slice none 0 0] #[.string ⟨#[]⟩, .int .i64 0, .int .i64 0, .slice none 0 0]) ∧ w0.heap.size ≤ XA) :
    wpOp Tryz.prog rs1O Q 10 (rs1I w0 qb qo cap V0 V1 V2 sb sc sd se sf sh si sj sk sm sn so sp sq sr ss su sv sw sx sy sz ta tb tc td te tf tg #[b0, b1, b2, b3, b4, b5, b6, b7, b8, true, true, false, false, false, false, b15, false]) { tmps := rs1T w0 qb qo cap V0 V1 V2 sb sc sd se sf sh si sj sk sm sn so sp sq sr ss su sv sw sx sy sz ta tb tc td te tf tg z1 z2 XA b0 b1 b2 b3 b4 b5 b6 b7 b8 true false false false false false b15 false, defers := [] } w := by
  refine wpOp_step (o := rs1o10) rfl (fun K hK => ?_)
  replace hK := hid hK
  simp only [rs1o10, rs1T, selS_t, selS_f]
  go_simp
  exact hK.out _ _ ⟨b0, b1, b2, b3, b4, b5, b6, b7, b8, true, true, false, false, false, false, b15, false, z1, z2, XA, rfl, rfl, hB, hd1, fun h => Bool.noConfusion h, hXA⟩
set_option maxRecDepth 20000 in
set_option maxHeartbeats 1000000 in
theorem rs1_s11 (b0 b1 b2 b3 b4 b5 b6 b7 b8 b15 : Bool) (z1 : Int) (z2 : Int) (XA : Nat) (w : World)  (hB : Below w0.heap.size w0 w) (hd1 : b8 = true → decO2 V1.data.toList z1) (hd2 : false = true → decO2 V2.data.toList z2) (hXA : b15 = true → RowAt w XA 72 (cond false #[.string V0, .int .i64 z1, .int .i64 z2, .slice none 0 0] #[.string ⟨#[]⟩, .int .i64 0, .int .i64 0, .slice none 0 0]) ∧ w0.heap.size ≤ XA) :
    wpOp Tryz.prog rs1O Q 11 (rs1I w0 qb qo cap V0 V1 V2 sb sc sd se sf sh si sj sk sm sn so sp sq sr ss su sv sw sx sy sz ta tb tc td te tf tg #[b0, b1, b2, b3, b4, b5, b6, b7, b8, true, true, true, false, false, false, b15, false]) { tmps := rs1T w0 qb qo cap V0 V1 V2 sb sc sd se sf sh si sj sk sm sn so sp sq sr ss su sv sw sx sy sz ta tb tc td te tf tg z1 z2 XA b0 b1 b2 b3 b4 b5 b6 b7 b8 true true false false false false b15 false, defers := [] } w := by
  refine wpOp_step (o := rs1o11) rfl (fun K hK => ?_)
  replace hK := hid hK
  simp only [rs1o11, rs1T, selS_t, selS_f]
  go_simp
  exact hK.out _ _ ⟨b0, b1, b2, b3, b4, b5, b6, b7, b8, true, true, true, false, false, false, b15, false, z1, z2, XA, rfl, rfl, hB, hd1, fun h => Bool.noConfusion h, hXA⟩
set_option maxRecDepth 20000 in
set_option maxHeartbeats 1000000 in
theorem rs1_s12 (b0 b1 b2 b3 b4 b5 b6 b7 b8 b15 : Bool) (z1 : Int) (z2 : Int) (XA : Nat) (w : World) (hcv : ∀ wx, Below w0.heap.size w0 wx → wx.cell? ⟨qb, qo + 1, none⟩ = some (.string V0) ∧ wx.cell? ⟨qb, qo + 3, none⟩ = some (.string V1) ∧ wx.cell? ⟨qb, qo + 5, none⟩ = some (.string V2)) (hB : Below w0.heap.size w0 w) (hd1 : b8 = true → decO2 V1.data.toList z1) (hd2 : false = true → decO2 V2.data.toList z2) (hXA : b15 = true → RowAt w XA 72 (cond false #[.string V0, .int .i64 z1, .int .i64 z2, .slice none 0 0] #[.string ⟨#[]⟩, .int .i64 0, .int .i64 0, .slice none 0 0]) ∧ w0.heap.size ≤ XA) :
    wpOp Tryz.prog rs1O Q 12 (rs1I w0 qb qo cap V0 V1 V2 sb sc sd se sf sh si sj sk sm sn so sp sq sr ss su sv sw sx sy sz ta tb tc td te tf tg #[b0, b1, b2, b3, b4, b5, b6, b7, b8, true, true, true, true, false, false, b15, false]) { tmps := rs1T w0 qb qo cap V0 V1 V2 sb sc sd se sf sh si sj sk sm sn so sp sq sr ss su sv sw sx sy sz ta tb tc td te tf tg z1 z2 XA b0 b1 b2 b3 b4 b5 b6 b7 b8 true true true false false false b15 false, defers := [] } w := by
  obtain ⟨q0, q1, q2⟩ := hcv w hB
  refine wpOp_step (o := rs1o12) rfl (fun K hK => ?_)
  replace hK := hid hK
  simp only [rs1o12, rs1T, selS_t, selS_f]
  go_simp
  exact hK.out _ _ ⟨b0, b1, b2, b3, b4, b5, b6, b7, b8, true, true, true, true, false, false, b15, false, z1, z2, XA, rfl, rfl, hB, hd1, fun h => Bool.noConfusion h, hXA⟩
set_option maxRecDepth 20000 in
set_option maxHeartbeats 1000000 in
theorem rs1_s13 (b0 b1 b2 b3 b15 : Bool) (z1 : Int) (z2 : Int) (XA : Nat) (w : World) (hr2 : ∀ wx, Below w0.heap.size w0 wx → Calls Tryz.prog 93 #[.string V2] wx fun e w' => (∃ z : Int, e = .returned (.int .i64 z) ∧ decO2 V2.data.toList z) ∧ Below wx.heap.size wx w') (hB : Below w0.heap.size w0 w) (hd1 : true = true → decO2 V1.data.toList z1) (hd2 : false = true → decO2 V2.data.toList z2) (hXA : b15 = true → RowAt w XA 72 (cond false #[.string V0, .int .i64 z1, .int .i64 z2, .slice none 0 0] #[.string ⟨#[]⟩, .int .i64 0, .int .i64 0, .slice none 0 0]) ∧ w0.heap.size ≤ XA) :
    wpOp Tryz.prog rs1O Q 13 (rs1I w0 qb qo cap V0 V1 V2 sb sc sd se sf sh si sj sk sm sn so sp sq sr ss su sv sw sx sy sz ta tb tc td te tf tg #[b0, b1, b2, b3, true, true, true, true, true, true, true, true, true, true, false, b15, false]) { tmps := rs1T w0 qb qo cap V0 V1 V2 sb sc sd se sf sh si sj sk sm sn so sp sq sr ss su sv sw sx sy sz ta tb tc td te tf tg z1 z2 XA b0 b1 b2 b3 true true true true true true true true true false false b15 false, defers := [] } w := by
  refine wpOp_step (o := rs1o13) rfl (fun K hK => ?_)
  replace hK := hid hK
  simp only [rs1o13, rs1T, selS_t, selS_f]
  go_simp
  refine (hr2 _ hB).mono ?_
  rintro e w2 ⟨⟨z9, rfl, hz9⟩, hb2⟩
  dsimp only
  exact hK.out _ _ ⟨b0, b1, b2, b3, true, true, true, true, true, true, true, true, true, true, false, b15, false, z1, z9, XA, rfl, rfl, hB.trans (hb2.mono hB.size), hd1, fun _ => hz9, fun h => ⟨RowAt.nxS hb2 (hXA h).1, (hXA h).2⟩⟩
set_option maxRecDepth 20000 in
set_option maxHeartbeats 1000000 in
theorem rs1_s14 (b15 : Bool) (z1 : Int) (z2 : Int) (XA : Nat) (w : World)  (hB : Below w0.heap.size w0 w) (hd1 : true = true → decO2 V1.data.toList z1) (hd2 : true = true → decO2 V2.data.toList z2) (hXA : b15 = true → RowAt w XA 72 (cond false #[.string V0, .int .i64 z1, .int .i64 z2, .slice none 0 0] #[.string ⟨#[]⟩, .int .i64 0, .int .i64 0, .slice none 0 0]) ∧ w0.heap.size ≤ XA) :
    wpOp Tryz.prog rs1O Q 14 (rs1I w0 qb qo cap V0 V1 V2 sb sc sd se sf sh si sj sk sm sn so sp sq sr ss su sv sw sx sy sz ta tb tc td te tf tg #[true, true, true, true, true, true, true, true, true, true, true, true, true, true, true, b15, false]) { tmps := rs1T w0 qb qo cap V0 V1 V2 sb sc sd se sf sh si sj sk sm sn so sp sq sr ss su sv sw sx sy sz ta tb tc td te tf tg z1 z2 XA true true true true true true true true true true true true true true false b15 false, defers := [] } w := by
  refine wpOp_step (o := rs1o14) rfl (fun K hK => ?_)
  replace hK := hid hK
  simp only [rs1o14, rs1T, selS_t, selS_f]
  go_simp
  exact hK.out _ _ ⟨true, true, true, true, true, true, true, true, true, true, true, true, true, true, true, b15, false, z1, z2, XA, rfl, rfl, hB, hd1, hd2, hXA⟩
set_option maxRecDepth 20000 in
set_option maxHeartbeats 1000000 in
theorem rs1_s15 (b0 b1 b2 b3 b4 b5 b6 b7 b8 b9 b10 b11 b12 b13 b14 : Bool) (z1 : Int) (z2 : Int) (XA : Nat) (w : World)  (hB : Below w0.heap.size w0 w) (hd1 : b8 = true → decO2 V1.data.toList z1) (hd2 : b13 = true → decO2 V2.data.toList z2) (hXA : false = true → RowAt w XA 72 (cond false #[.string V0, .int .i64 z1, .int .i64 z2, .slice none 0 0] #[.string ⟨#[]⟩, .int .i64 0, .int .i64 0, .slice none 0 0]) ∧ w0.heap.size ≤ XA) :
    wpOp Tryz.prog rs1O Q 15 (rs1I w0 qb qo cap V0 V1 V2 sb sc sd se sf sh si sj sk sm sn so sp sq sr ss su sv sw sx sy sz ta tb tc td te tf tg #[b0, b1, b2, b3, b4, b5, b6, b7, b8, b9, b10, b11, b12, b13, b14, true, false]) { tmps := rs1T w0 qb qo cap V0 V1 V2 sb sc sd se sf sh si sj sk sm sn so sp sq sr ss su sv sw sx sy sz ta tb tc td te tf tg z1 z2 XA b0 b1 b2 b3 b4 b5 b6 b7 b8 b9 b10 b11 b12 b13 b14 false false, defers := [] } w := by
  refine wpOp_step (o := rs1o15) rfl (fun K hK => ?_)
  replace hK := hid hK
  simp only [rs1o15, rs1T, selS_f]
  go_simp
  exact hK.out _ _ ⟨b0, b1, b2, b3, b4, b5, b6, b7, b8, b9, b10, b11, b12, b13, b14, true, false, z1, z2, w.heap.size, rfl, rfl, hB.alloc hB.size _, hd1, hd2, fun _ => ⟨RowAt.new w _ _, hB.size⟩⟩
set_option maxRecDepth 20000 in
set_option maxHeartbeats 1000000 in
theorem rs1_s16 (z1 : Int) (z2 : Int) (XA : Nat) (w : World)  (hB : Below w0.heap.size w0 w) (hd1 : true = true → decO2 V1.data.toList z1) (hd2 : true = true → decO2 V2.data.toList z2) (hXA : true = true → RowAt w XA 72 (cond false #[.string V0, .int .i64 z1, .int .i64 z2, .slice none 0 0] #[.string ⟨#[]⟩, .int .i64 0, .int .i64 0, .slice none 0 0]) ∧ w0.heap.size ≤ XA) :
    wpOp Tryz.prog rs1O Q 16 (rs1I w0 qb qo cap V0 V1 V2 sb sc sd se sf sh si sj sk sm sn so sp sq sr ss su sv sw sx sy sz ta tb tc td te tf tg #[true, true, true, true, true, true, true, true, true, true, true, true, true, true, true, true, true]) { tmps := rs1T w0 qb qo cap V0 V1 V2 sb sc sd se sf sh si sj sk sm sn so sp sq sr ss su sv sw sx sy sz ta tb tc td te tf tg z1 z2 XA true true true true true true true true true true true true true true true true false, defers := [] } w := by
  have hz : RowAt w XA 72 #[.string ⟨#[]⟩, .int .i64 0, .int .i64 0, .slice none 0 0] := (hXA rfl).1
  have q0 := hz.cell 0
  have q1 := hz.cell 1
  have q2 := hz.cell 2
  have q3 := hz.cell 3
  have f0 := hz.free 0
  have f1 := hz.free 1
  have f2 := hz.free 2
  have f3 := hz.free 3
  have hx := (hXA rfl).2
  refine wpOp_step (o := rs1o16) rfl (fun K hK => ?_)
  replace hK := hid hK
  simp only [rs1o16, rs1T, selS_t]
  go_simp
  exact hK.out _ _ ⟨true, true, true, true, true, true, true, true, true, true, true, true, true, true, true, true, true, z1, z2, XA, rfl, rfl, ((((hB.setCell (by simp; omega) _).setCell (by simp; omega) _).setCell (by simp; omega) _).setCell (by simp; omega) _), hd1, hd2, fun _ => ⟨((((hz.set 0 _).set 1 _).set 2 _).set 3 _), hx⟩⟩
set_option maxRecDepth 20000 in
set_option maxHeartbeats 2000000 in
theorem rs1_step (hcv : ∀ wx, Below w0.heap.size w0 wx → wx.cell? ⟨qb, qo + 1, none⟩ = some (.string V0) ∧ wx.cell? ⟨qb, qo + 3, none⟩ = some (.string V1) ∧ wx.cell? ⟨qb, qo + 5, none⟩ = some (.string V2)) (hr1 : ∀ wx, Below w0.heap.size w0 wx → Calls Tryz.prog 93 #[.string V1] wx fun e w' => (∃ z : Int, e = .returned (.int .i64 z) ∧ decO2 V1.data.toList z) ∧ Below wx.heap.size wx w') (hr2 : ∀ wx, Below w0.heap.size w0 wx → Calls Tryz.prog 93 #[.string V2] wx fun e w' => (∃ z : Int, e = .returned (.int .i64 z) ∧ decO2 V2.data.toList z) ∧ Below wx.heap.size wx w') (l : Array Bool) (f : Act) (w : World) (hC : Closed rs1O l) (hI : rs1I w0 qb qo cap V0 V1 V2 sb sc sd se sf sh si sj sk sm sn so sp sq sr ss su sv sw sx sy sz ta tb tc td te tf tg l f w) (i : Nat) (h0 : l.getD i true = false) (o : Oper) (ho : rs1O[i]? = some o) (h1 : ∀ e ∈ o.after, Region.binds .any e = true → l.getD e.on false = true) : wpOp Tryz.prog rs1O Q i (rs1I w0 qb qo cap V0 V1 V2 sb sc sd se sf sh si sj sk sm sn so sp sq sr ss su sv sw sx sy sz ta tb tc td te tf tg (l.setIfInBounds i true)) f w := by
  obtain ⟨b0, b1, b2, b3, b4, b5, b6, b7, b8, b9, b10, b11, b12, b13, b14, b15, b16, z1, z2, XA, rfl, rfl, hB, hd1, hd2, hXA⟩ := hI
  have hi : i < 17 := by
    rcases Nat.lt_or_ge i 17 with h | h
    · exact h
    · rw [show rs1O[i]? = none from Array.getElem?_eq_none h] at ho; cases ho
  rcases (by omega : i = 0 ∨ i = 1 ∨ i = 2 ∨ i = 3 ∨ i = 4 ∨ i = 5 ∨ i = 6 ∨ i = 7 ∨ i = 8 ∨ i = 9 ∨ i = 10 ∨ i = 11 ∨ i = 12 ∨ i = 13 ∨ i = 14 ∨ i = 15 ∨ i = 16) with rfl | rfl | rfl | rfl | rfl | rfl | rfl | rfl | rfl | rfl | rfl | rfl | rfl | rfl | rfl | rfl | rfl
  · obtain rfl : rs1o0 = o := Option.some.inj ho
    obtain rfl : b0 = false := h0
    obtain rfl : b1 = false := by
      cases b1 with
      | false => rfl
      | true => exact Bool.noConfusion (show false = true from hC 1 rs1o1 rfl rfl ⟨0, .data⟩ (by simp [rs1o1]) rfl)
    obtain rfl : b2 = false := by
      cases b2 with
      | false => rfl
      | true => exact Bool.noConfusion (show false = true from hC 2 rs1o2 rfl rfl ⟨1, .data⟩ (by simp [rs1o2]) rfl)
    obtain rfl : b3 = false := by
      cases b3 with
      | false => rfl
      | true => exact Bool.noConfusion (show false = true from hC 3 rs1o3 rfl rfl ⟨2, .data⟩ (by simp [rs1o3]) rfl)
    obtain rfl : b14 = false := by
      cases b14 with
      | false => rfl
      | true => exact Bool.noConfusion (show false = true from hC 14 rs1o14 rfl rfl ⟨3, .data⟩ (by simp [rs1o14]) rfl)
    obtain rfl : b16 = false := by
      cases b16 with
      | false => rfl
      | true => exact Bool.noConfusion (show false = true from hC 16 rs1o16 rfl rfl ⟨0, .phase⟩ (by simp [rs1o16]) rfl)
    exact rs1_s0 w0 qb qo cap V0 V1 V2 sb sc sd se sf sh si sj sk sm sn so sp sq sr ss su sv sw sx sy sz ta tb tc td te tf tg b4 b5 b6 b7 b8 b9 b10 b11 b12 b13 b15 z1 z2 XA w  hB hd1 hd2 hXA
  · obtain rfl : rs1o1 = o := Option.some.inj ho
    obtain rfl : b1 = false := h0
    obtain rfl : b0 = true := h1 ⟨0, .data⟩ (by simp [rs1o1]) rfl
    obtain rfl : b2 = false := by
      cases b2 with
      | false => rfl
      | true => exact Bool.noConfusion (show false = true from hC 2 rs1o2 rfl rfl ⟨1, .data⟩ (by simp [rs1o2]) rfl)
    obtain rfl : b3 = false := by
      cases b3 with
      | false => rfl
      | true => exact Bool.noConfusion (show false = true from hC 3 rs1o3 rfl rfl ⟨2, .data⟩ (by simp [rs1o3]) rfl)
    obtain rfl : b14 = false := by
      cases b14 with
      | false => rfl
      | true => exact Bool.noConfusion (show false = true from hC 14 rs1o14 rfl rfl ⟨3, .data⟩ (by simp [rs1o14]) rfl)
    obtain rfl : b16 = false := by
      cases b16 with
      | false => rfl
      | true => exact Bool.noConfusion (show false = true from hC 16 rs1o16 rfl rfl ⟨1, .phase⟩ (by simp [rs1o16]) rfl)
    exact rs1_s1 w0 qb qo cap V0 V1 V2 sb sc sd se sf sh si sj sk sm sn so sp sq sr ss su sv sw sx sy sz ta tb tc td te tf tg b4 b5 b6 b7 b8 b9 b10 b11 b12 b13 b15 z1 z2 XA w  hB hd1 hd2 hXA
  · obtain rfl : rs1o2 = o := Option.some.inj ho
    obtain rfl : b2 = false := h0
    obtain rfl : b1 = true := h1 ⟨1, .data⟩ (by simp [rs1o2]) rfl
    obtain rfl : b0 = true := hC 1 rs1o1 rfl rfl ⟨0, .data⟩ (by simp [rs1o1]) rfl
    obtain rfl : b3 = false := by
      cases b3 with
      | false => rfl
      | true => exact Bool.noConfusion (show false = true from hC 3 rs1o3 rfl rfl ⟨2, .data⟩ (by simp [rs1o3]) rfl)
    obtain rfl : b14 = false := by
      cases b14 with
      | false => rfl
      | true => exact Bool.noConfusion (show false = true from hC 14 rs1o14 rfl rfl ⟨3, .data⟩ (by simp [rs1o14]) rfl)
    obtain rfl : b16 = false := by
      cases b16 with
      | false => rfl
      | true => exact Bool.noConfusion (show false = true from hC 16 rs1o16 rfl rfl ⟨2, .phase⟩ (by simp [rs1o16]) rfl)
    exact rs1_s2 w0 qb qo cap V0 V1 V2 sb sc sd se sf sh si sj sk sm sn so sp sq sr ss su sv sw sx sy sz ta tb tc td te tf tg b4 b5 b6 b7 b8 b9 b10 b11 b12 b13 b15 z1 z2 XA w  hB hd1 hd2 hXA
  · obtain rfl : rs1o3 = o := Option.some.inj ho
    obtain rfl : b3 = false := h0
    obtain rfl : b2 = true := h1 ⟨2, .data⟩ (by simp [rs1o3]) rfl
    obtain rfl : b1 = true := hC 2 rs1o2 rfl rfl ⟨1, .data⟩ (by simp [rs1o2]) rfl
    obtain rfl : b0 = true := hC 1 rs1o1 rfl rfl ⟨0, .data⟩ (by simp [rs1o1]) rfl
    obtain rfl : b14 = false := by
      cases b14 with
      | false => rfl
      | true => exact Bool.noConfusion (show false = true from hC 14 rs1o14 rfl rfl ⟨3, .data⟩ (by simp [rs1o14]) rfl)
    obtain rfl : b16 = false := by
      cases b16 with
      | false => rfl
      | true => exact Bool.noConfusion (show false = true from hC 16 rs1o16 rfl rfl ⟨3, .phase⟩ (by simp [rs1o16]) rfl)
    exact rs1_s3 w0 qb qo cap V0 V1 V2 sb sc sd se sf sh si sj sk sm sn so sp sq sr ss su sv sw sx sy sz ta tb tc td te tf tg b4 b5 b6 b7 b8 b9 b10 b11 b12 b13 b15 z1 z2 XA w hcv hB hd1 hd2 hXA
  · obtain rfl : rs1o4 = o := Option.some.inj ho
    obtain rfl : b4 = false := h0
    obtain rfl : b5 = false := by
      cases b5 with
      | false => rfl
      | true => exact Bool.noConfusion (show false = true from hC 5 rs1o5 rfl rfl ⟨4, .data⟩ (by simp [rs1o5]) rfl)
    obtain rfl : b6 = false := by
      cases b6 with
      | false => rfl
      | true => exact Bool.noConfusion (show false = true from hC 6 rs1o6 rfl rfl ⟨5, .data⟩ (by simp [rs1o6]) rfl)
    obtain rfl : b7 = false := by
      cases b7 with
      | false => rfl
      | true => exact Bool.noConfusion (show false = true from hC 7 rs1o7 rfl rfl ⟨6, .data⟩ (by simp [rs1o7]) rfl)
    obtain rfl : b8 = false := by
      cases b8 with
      | false => rfl
      | true => exact Bool.noConfusion (show false = true from hC 8 rs1o8 rfl rfl ⟨7, .data⟩ (by simp [rs1o8]) rfl)
    obtain rfl : b13 = false := by
      cases b13 with
      | false => rfl
      | true => exact Bool.noConfusion (show false = true from hC 13 rs1o13 rfl rfl ⟨8, .chain⟩ (by simp [rs1o13]) rfl)
    obtain rfl : b14 = false := by
      cases b14 with
      | false => rfl
      | true => exact Bool.noConfusion (show false = true from hC 14 rs1o14 rfl rfl ⟨8, .data⟩ (by simp [rs1o14]) rfl)
    obtain rfl : b16 = false := by
      cases b16 with
      | false => rfl
      | true => exact Bool.noConfusion (show false = true from hC 16 rs1o16 rfl rfl ⟨4, .phase⟩ (by simp [rs1o16]) rfl)
    exact rs1_s4 w0 qb qo cap V0 V1 V2 sb sc sd se sf sh si sj sk sm sn so sp sq sr ss su sv sw sx sy sz ta tb tc td te tf tg b0 b1 b2 b3 b9 b10 b11 b12 b15 z1 z2 XA w  hB hd1 hd2 hXA
  · obtain rfl : rs1o5 = o := Option.some.inj ho
    obtain rfl : b5 = false := h0
    obtain rfl : b4 = true := h1 ⟨4, .data⟩ (by simp [rs1o5]) rfl
    obtain rfl : b6 = false := by
      cases b6 with
      | false => rfl
      | true => exact Bool.noConfusion (show false = true from hC 6 rs1o6 rfl rfl ⟨5, .data⟩ (by simp [rs1o6]) rfl)
    obtain rfl : b7 = false := by
      cases b7 with
      | false => rfl
      | true => exact Bool.noConfusion (show false = true from hC 7 rs1o7 rfl rfl ⟨6, .data⟩ (by simp [rs1o7]) rfl)
    obtain rfl : b8 = false := by
      cases b8 with
      | false => rfl
      | true => exact Bool.noConfusion (show false = true from hC 8 rs1o8 rfl rfl ⟨7, .data⟩ (by simp [rs1o8]) rfl)
    obtain rfl : b13 = false := by
      cases b13 with
      | false => rfl
      | true => exact Bool.noConfusion (show false = true from hC 13 rs1o13 rfl rfl ⟨8, .chain⟩ (by simp [rs1o13]) rfl)
    obtain rfl : b14 = false := by
      cases b14 with
      | false => rfl
      | true => exact Bool.noConfusion (show false = true from hC 14 rs1o14 rfl rfl ⟨8, .data⟩ (by simp [rs1o14]) rfl)
    obtain rfl : b16 = false := by
      cases b16 with
      | false => rfl
      | true => exact Bool.noConfusion (show false = true from hC 16 rs1o16 rfl rfl ⟨5, .phase⟩ (by simp [rs1o16]) rfl)
    exact rs1_s5 w0 qb qo cap V0 V1 V2 sb sc sd se sf sh si sj sk sm sn so sp sq sr ss su sv sw sx sy sz ta tb tc td te tf tg b0 b1 b2 b3 b9 b10 b11 b12 b15 z1 z2 XA w  hB hd1 hd2 hXA
  · obtain rfl : rs1o6 = o := Option.some.inj ho
    obtain rfl : b6 = false := h0
    obtain rfl : b5 = true := h1 ⟨5, .data⟩ (by simp [rs1o6]) rfl
    obtain rfl : b4 = true := hC 5 rs1o5 rfl rfl ⟨4, .data⟩ (by simp [rs1o5]) rfl
    obtain rfl : b7 = false := by
      cases b7 with
      | false => rfl
      | true => exact Bool.noConfusion (show false = true from hC 7 rs1o7 rfl rfl ⟨6, .data⟩ (by simp [rs1o7]) rfl)
    obtain rfl : b8 = false := by
      cases b8 with
      | false => rfl
      | true => exact Bool.noConfusion (show false = true from hC 8 rs1o8 rfl rfl ⟨7, .data⟩ (by simp [rs1o8]) rfl)
    obtain rfl : b13 = false := by
      cases b13 with
      | false => rfl
      | true => exact Bool.noConfusion (show false = true from hC 13 rs1o13 rfl rfl ⟨8, .chain⟩ (by simp [rs1o13]) rfl)
    obtain rfl : b14 = false := by
      cases b14 with
      | false => rfl
      | true => exact Bool.noConfusion (show false = true from hC 14 rs1o14 rfl rfl ⟨8, .data⟩ (by simp [rs1o14]) rfl)
    obtain rfl : b16 = false := by
      cases b16 with
      | false => rfl
      | true => exact Bool.noConfusion (show false = true from hC 16 rs1o16 rfl rfl ⟨6, .phase⟩ (by simp [rs1o16]) rfl)
    exact rs1_s6 w0 qb qo cap V0 V1 V2 sb sc sd se sf sh si sj sk sm sn so sp sq sr ss su sv sw sx sy sz ta tb tc td te tf tg b0 b1 b2 b3 b9 b10 b11 b12 b15 z1 z2 XA w  hB hd1 hd2 hXA
  · obtain rfl : rs1o7 = o := Option.some.inj ho
    obtain rfl : b7 = false := h0
    obtain rfl : b6 = true := h1 ⟨6, .data⟩ (by simp [rs1o7]) rfl
    obtain rfl : b5 = true := hC 6 rs1o6 rfl rfl ⟨5, .data⟩ (by simp [rs1o6]) rfl
    obtain rfl : b4 = true := hC 5 rs1o5 rfl rfl ⟨4, .data⟩ (by simp [rs1o5]) rfl
    obtain rfl : b8 = false := by
      cases b8 with
      | false => rfl
      | true => exact Bool.noConfusion (show false = true from hC 8 rs1o8 rfl rfl ⟨7, .data⟩ (by simp [rs1o8]) rfl)
    obtain rfl : b13 = false := by
      cases b13 with
      | false => rfl
      | true => exact Bool.noConfusion (show false = true from hC 13 rs1o13 rfl rfl ⟨8, .chain⟩ (by simp [rs1o13]) rfl)
    obtain rfl : b14 = false := by
      cases b14 with
      | false => rfl
      | true => exact Bool.noConfusion (show false = true from hC 14 rs1o14 rfl rfl ⟨8, .data⟩ (by simp [rs1o14]) rfl)
    obtain rfl : b16 = false := by
      cases b16 with
      | false => rfl
      | true => exact Bool.noConfusion (show false = true from hC 16 rs1o16 rfl rfl ⟨7, .phase⟩ (by simp [rs1o16]) rfl)
    exact rs1_s7 w0 qb qo cap V0 V1 V2 sb sc sd se sf sh si sj sk sm sn so sp sq sr ss su sv sw sx sy sz ta tb tc td te tf tg b0 b1 b2 b3 b9 b10 b11 b12 b15 z1 z2 XA w hcv hB hd1 hd2 hXA
  · obtain rfl : rs1o8 = o := Option.some.inj ho
    obtain rfl : b8 = false := h0
    obtain rfl : b7 = true := h1 ⟨7, .data⟩ (by simp [rs1o8]) rfl
    obtain rfl : b6 = true := hC 7 rs1o7 rfl rfl ⟨6, .data⟩ (by simp [rs1o7]) rfl
    obtain rfl : b5 = true := hC 6 rs1o6 rfl rfl ⟨5, .data⟩ (by simp [rs1o6]) rfl
    obtain rfl : b4 = true := hC 5 rs1o5 rfl rfl ⟨4, .data⟩ (by simp [rs1o5]) rfl
    obtain rfl : b13 = false := by
      cases b13 with
      | false => rfl
      | true => exact Bool.noConfusion (show false = true from hC 13 rs1o13 rfl rfl ⟨8, .chain⟩ (by simp [rs1o13]) rfl)
    obtain rfl : b14 = false := by
      cases b14 with
      | false => rfl
      | true => exact Bool.noConfusion (show false = true from hC 14 rs1o14 rfl rfl ⟨8, .data⟩ (by simp [rs1o14]) rfl)
    obtain rfl : b16 = false := by
      cases b16 with
      | false => rfl
      | true => exact Bool.noConfusion (show false = true from hC 16 rs1o16 rfl rfl ⟨8, .phase⟩ (by simp [rs1o16]) rfl)
    exact rs1_s8 w0 qb qo cap V0 V1 V2 sb sc sd se sf sh si sj sk sm sn so sp sq sr ss su sv sw sx sy sz ta tb tc td te tf tg b0 b1 b2 b3 b9 b10 b11 b12 b15 z1 z2 XA w hr1 hB hd1 hd2 hXA
  · obtain rfl : rs1o9 = o := Option.some.inj ho
    obtain rfl : b9 = false := h0
    obtain rfl : b10 = false := by
      cases b10 with
      | false => rfl
      | true => exact Bool.noConfusion (show false = true from hC 10 rs1o10 rfl rfl ⟨9, .data⟩ (by simp [rs1o10]) rfl)
    obtain rfl : b11 = false := by
      cases b11 with
      | false => rfl
      | true => exact Bool.noConfusion (show false = true from hC 11 rs1o11 rfl rfl ⟨10, .data⟩ (by simp [rs1o11]) rfl)
    obtain rfl : b12 = false := by
      cases b12 with
      | false => rfl
      | true => exact Bool.noConfusion (show false = true from hC 12 rs1o12 rfl rfl ⟨11, .data⟩ (by simp [rs1o12]) rfl)
    obtain rfl : b13 = false := by
      cases b13 with
      | false => rfl
      | true => exact Bool.noConfusion (show false = true from hC 13 rs1o13 rfl rfl ⟨12, .data⟩ (by simp [rs1o13]) rfl)
    obtain rfl : b14 = false := by
      cases b14 with
      | false => rfl
      | true => exact Bool.noConfusion (show false = true from hC 14 rs1o14 rfl rfl ⟨13, .data⟩ (by simp [rs1o14]) rfl)
    obtain rfl : b16 = false := by
      cases b16 with
      | false => rfl
      | true => exact Bool.noConfusion (show false = true from hC 16 rs1o16 rfl rfl ⟨9, .phase⟩ (by simp [rs1o16]) rfl)
    exact rs1_s9 w0 qb qo cap V0 V1 V2 sb sc sd se sf sh si sj sk sm sn so sp sq sr ss su sv sw sx sy sz ta tb tc td te tf tg b0 b1 b2 b3 b4 b5 b6 b7 b8 b15 z1 z2 XA w  hB hd1 hd2 hXA
  · obtain rfl : rs1o10 = o := Option.some.inj ho
    obtain rfl : b10 = false := h0
    obtain rfl : b9 = true := h1 ⟨9, .data⟩ (by simp [rs1o10]) rfl
    obtain rfl : b11 = false := by
      cases b11 with
      | false => rfl
      | true => exact Bool.noConfusion (show false = true from hC 11 rs1o11 rfl rfl ⟨10, .data⟩ (by simp [rs1o11]) rfl)
    obtain rfl : b12 = false := by
      cases b12 with
      | false => rfl
      | true => exact Bool.noConfusion (show false = true from hC 12 rs1o12 rfl rfl ⟨11, .data⟩ (by simp [rs1o12]) rfl)
    obtain rfl : b13 = false := by
      cases b13 with
      | false => rfl
      | true => exact Bool.noConfusion (show false = true from hC 13 rs1o13 rfl rfl ⟨12, .data⟩ (by simp [rs1o13]) rfl)
    obtain rfl : b14 = false := by
      cases b14 with
      | false => rfl
      | true => exact Bool.noConfusion (show false = true from hC 14 rs1o14 rfl rfl ⟨13, .data⟩ (by simp [rs1o14]) rfl)
    obtain rfl : b16 = false := by
      cases b16 with
      | false => rfl
      | true => exact Bool.noConfusion (show false = true from hC 16 rs1o16 rfl rfl ⟨10, .phase⟩ (by simp [rs1o16]) rfl)
    exact rs1_s10 w0 qb qo cap V0 V1 V2 sb sc sd se sf sh si sj sk sm sn so sp sq sr ss su sv sw sx sy sz ta tb tc td te tf tg b0 b1 b2 b3 b4 b5 b6 b7 b8 b15 z1 z2 XA w  hB hd1 hd2 hXA
  · obtain rfl : rs1o11 = o := Option.some.inj ho
    obtain rfl : b11 = false := h0
    obtain rfl : b10 = true := h1 ⟨10, .data⟩ (by simp [rs1o11]) rfl
    obtain rfl : b9 = true := hC 10 rs1o10 rfl rfl ⟨9, .data⟩ (by simp [rs1o10]) rfl
    obtain rfl : b12 = false := by
      cases b12 with
      | false => rfl
      | true => exact Bool.noConfusion (show false = true from hC 12 rs1o12 rfl rfl ⟨11, .data⟩ (by simp [rs1o12]) rfl)
    obtain rfl : b13 = false := by
      cases b13 with
      | false => rfl
      | true => exact Bool.noConfusion (show false = true from hC 13 rs1o13 rfl rfl ⟨12, .data⟩ (by simp [rs1o13]) rfl)
    obtain rfl : b14 = false := by
      cases b14 with
      | false => rfl
      | true => exact Bool.noConfusion (show false = true from hC 14 rs1o14 rfl rfl ⟨13, .data⟩ (by simp [rs1o14]) rfl)
    obtain rfl : b16 = false := by
      cases b16 with
      | false => rfl
      | true => exact Bool.noConfusion (show false = true from hC 16 rs1o16 rfl rfl ⟨11, .phase⟩ (by simp [rs1o16]) rfl)
    exact rs1_s11 w0 qb qo cap V0 V1 V2 sb sc sd se sf sh si sj sk sm sn so sp sq sr ss su sv sw sx sy sz ta tb tc td te tf tg b0 b1 b2 b3 b4 b5 b6 b7 b8 b15 z1 z2 XA w  hB hd1 hd2 hXA
  · obtain rfl : rs1o12 = o := Option.some.inj ho
    obtain rfl : b12 = false := h0
    obtain rfl : b11 = true := h1 ⟨11, .data⟩ (by simp [rs1o12]) rfl
    obtain rfl : b10 = true := hC 11 rs1o11 rfl rfl ⟨10, .data⟩ (by simp [rs1o11]) rfl
    obtain rfl : b9 = true := hC 10 rs1o10 rfl rfl ⟨9, .data⟩ (by simp [rs1o10]) rfl
    obtain rfl : b13 = false := by
      cases b13 with
      | false => rfl
      | true => exact Bool.noConfusion (show false = true from hC 13 rs1o13 rfl rfl ⟨12, .data⟩ (by simp [rs1o13]) rfl)
    obtain rfl : b14 = false := by
      cases b14 with
      | false => rfl
      | true => exact Bool.noConfusion (show false = true from hC 14 rs1o14 rfl rfl ⟨13, .data⟩ (by simp [rs1o14]) rfl)
    obtain rfl : b16 = false := by
      cases b16 with
      | false => rfl
      | true => exact Bool.noConfusion (show false = true from hC 16 rs1o16 rfl rfl ⟨12, .phase⟩ (by simp [rs1o16]) rfl)
    exact rs1_s12 w0 qb qo cap V0 V1 V2 sb sc sd se sf sh si sj sk sm sn so sp sq sr ss su sv sw sx sy sz ta tb tc td te tf tg b0 b1 b2 b3 b4 b5 b6 b7 b8 b15 z1 z2 XA w hcv hB hd1 hd2 hXA
  · obtain rfl : rs1o13 = o := Option.some.inj ho
    obtain rfl : b13 = false := h0
    obtain rfl : b12 = true := h1 ⟨12, .data⟩ (by simp [rs1o13]) rfl
    obtain rfl : b8 = true := h1 ⟨8, .chain⟩ (by simp [rs1o13]) rfl
    obtain rfl : b11 = true := hC 12 rs1o12 rfl rfl ⟨11, .data⟩ (by simp [rs1o12]) rfl
    obtain rfl : b10 = true := hC 11 rs1o11 rfl rfl ⟨10, .data⟩ (by simp [rs1o11]) rfl
    obtain rfl : b9 = true := hC 10 rs1o10 rfl rfl ⟨9, .data⟩ (by simp [rs1o10]) rfl
    obtain rfl : b7 = true := hC 8 rs1o8 rfl rfl ⟨7, .data⟩ (by simp [rs1o8]) rfl
    obtain rfl : b6 = true := hC 7 rs1o7 rfl rfl ⟨6, .data⟩ (by simp [rs1o7]) rfl
    obtain rfl : b5 = true := hC 6 rs1o6 rfl rfl ⟨5, .data⟩ (by simp [rs1o6]) rfl
    obtain rfl : b4 = true := hC 5 rs1o5 rfl rfl ⟨4, .data⟩ (by simp [rs1o5]) rfl
    obtain rfl : b14 = false := by
      cases b14 with
      | false => rfl
      | true => exact Bool.noConfusion (show false = true from hC 14 rs1o14 rfl rfl ⟨13, .data⟩ (by simp [rs1o14]) rfl)
    obtain rfl : b16 = false := by
      cases b16 with
      | false => rfl
      | true => exact Bool.noConfusion (show false = true from hC 16 rs1o16 rfl rfl ⟨13, .chain⟩ (by simp [rs1o16]) rfl)
    exact rs1_s13 w0 qb qo cap V0 V1 V2 sb sc sd se sf sh si sj sk sm sn so sp sq sr ss su sv sw sx sy sz ta tb tc td te tf tg b0 b1 b2 b3 b15 z1 z2 XA w hr2 hB hd1 hd2 hXA
  · obtain rfl : rs1o14 = o := Option.some.inj ho
    obtain rfl : b14 = false := h0
    obtain rfl : b13 = true := h1 ⟨13, .data⟩ (by simp [rs1o14]) rfl
    obtain rfl : b8 = true := h1 ⟨8, .data⟩ (by simp [rs1o14]) rfl
    obtain rfl : b3 = true := h1 ⟨3, .data⟩ (by simp [rs1o14]) rfl
    obtain rfl : b12 = true := hC 13 rs1o13 rfl rfl ⟨12, .data⟩ (by simp [rs1o13]) rfl
    obtain rfl : b11 = true := hC 12 rs1o12 rfl rfl ⟨11, .data⟩ (by simp [rs1o12]) rfl
    obtain rfl : b10 = true := hC 11 rs1o11 rfl rfl ⟨10, .data⟩ (by simp [rs1o11]) rfl
    obtain rfl : b9 = true := hC 10 rs1o10 rfl rfl ⟨9, .data⟩ (by simp [rs1o10]) rfl
    obtain rfl : b7 = true := hC 8 rs1o8 rfl rfl ⟨7, .data⟩ (by simp [rs1o8]) rfl
    obtain rfl : b6 = true := hC 7 rs1o7 rfl rfl ⟨6, .data⟩ (by simp [rs1o7]) rfl
    obtain rfl : b5 = true := hC 6 rs1o6 rfl rfl ⟨5, .data⟩ (by simp [rs1o6]) rfl
    obtain rfl : b4 = true := hC 5 rs1o5 rfl rfl ⟨4, .data⟩ (by simp [rs1o5]) rfl
    obtain rfl : b2 = true := hC 3 rs1o3 rfl rfl ⟨2, .data⟩ (by simp [rs1o3]) rfl
    obtain rfl : b1 = true := hC 2 rs1o2 rfl rfl ⟨1, .data⟩ (by simp [rs1o2]) rfl
    obtain rfl : b0 = true := hC 1 rs1o1 rfl rfl ⟨0, .data⟩ (by simp [rs1o1]) rfl
    obtain rfl : b16 = false := by
      cases b16 with
      | false => rfl
      | true => exact Bool.noConfusion (show false = true from hC 16 rs1o16 rfl rfl ⟨14, .data⟩ (by simp [rs1o16]) rfl)
    exact rs1_s14 w0 qb qo cap V0 V1 V2 sb sc sd se sf sh si sj sk sm sn so sp sq sr ss su sv sw sx sy sz ta tb tc td te tf tg b15 z1 z2 XA w  hB hd1 hd2 hXA
  · obtain rfl : rs1o15 = o := Option.some.inj ho
    obtain rfl : b15 = false := h0
    obtain rfl : b16 = false := by
      cases b16 with
      | false => rfl
      | true => exact Bool.noConfusion (show false = true from hC 16 rs1o16 rfl rfl ⟨15, .data⟩ (by simp [rs1o16]) rfl)
    exact rs1_s15 w0 qb qo cap V0 V1 V2 sb sc sd se sf sh si sj sk sm sn so sp sq sr ss su sv sw sx sy sz ta tb tc td te tf tg b0 b1 b2 b3 b4 b5 b6 b7 b8 b9 b10 b11 b12 b13 b14 z1 z2 XA w  hB hd1 hd2 hXA
  · obtain rfl : rs1o16 = o := Option.some.inj ho
    obtain rfl : b16 = false := h0
    obtain rfl : b15 = true := h1 ⟨15, .data⟩ (by simp [rs1o16]) rfl
    obtain rfl : b14 = true := h1 ⟨14, .data⟩ (by simp [rs1o16]) rfl
    obtain rfl : b13 = true := h1 ⟨13, .chain⟩ (by simp [rs1o16]) rfl
    obtain rfl : b12 = true := h1 ⟨12, .phase⟩ (by simp [rs1o16]) rfl
    obtain rfl : b11 = true := h1 ⟨11, .phase⟩ (by simp [rs1o16]) rfl
    obtain rfl : b10 = true := h1 ⟨10, .phase⟩ (by simp [rs1o16]) rfl
    obtain rfl : b9 = true := h1 ⟨9, .phase⟩ (by simp [rs1o16]) rfl
    obtain rfl : b8 = true := h1 ⟨8, .phase⟩ (by simp [rs1o16]) rfl
    obtain rfl : b7 = true := h1 ⟨7, .phase⟩ (by simp [rs1o16]) rfl
    obtain rfl : b6 = true := h1 ⟨6, .phase⟩ (by simp [rs1o16]) rfl
    obtain rfl : b5 = true := h1 ⟨5, .phase⟩ (by simp [rs1o16]) rfl
    obtain rfl : b4 = true := h1 ⟨4, .phase⟩ (by simp [rs1o16]) rfl
    obtain rfl : b3 = true := h1 ⟨3, .phase⟩ (by simp [rs1o16]) rfl
    obtain rfl : b2 = true := h1 ⟨2, .phase⟩ (by simp [rs1o16]) rfl
    obtain rfl : b1 = true := h1 ⟨1, .phase⟩ (by simp [rs1o16]) rfl
    obtain rfl : b0 = true := h1 ⟨0, .phase⟩ (by simp [rs1o16]) rfl
    exact rs1_s16 w0 qb qo cap V0 V1 V2 sb sc sd se sf sh si sj sk sm sn so sp sq sr ss su sv sw sx sy sz ta tb tc td te tf tg  z1 z2 XA w  hB hd1 hd2 hXA
end
set_option maxRecDepth 20000 in
set_option maxHeartbeats 4000000 in
theorem rs1_wp {Q : Exit → Act → World → Prop} {rid : Nat} (w0 : World) (qb qo cap : Nat) (V0 V1 V2 : ByteArray) {sb sc sd se sf sh si sj sk sm sn so sp sq sr ss su sv sw sx sy sz ta tb tc td te tf tg : Value} (w : World) (hB : Below w0.heap.size w0 w) (hcv : ∀ wx, Below w0.heap.size w0 wx → wx.cell? ⟨qb, qo + 1, none⟩ = some (.string V0) ∧ wx.cell? ⟨qb, qo + 3, none⟩ = some (.string V1) ∧ wx.cell? ⟨qb, qo + 5, none⟩ = some (.string V2)) (hr1 : ∀ wx, Below w0.heap.size w0 wx → Calls Tryz.prog 93 #[.string V1] wx fun e w' => (∃ z : Int, e = .returned (.int .i64 z) ∧ decO2 V1.data.toList z) ∧ Below wx.heap.size wx w') (hr2 : ∀ wx, Below w0.heap.size w0 wx → Calls Tryz.prog 93 #[.string V2] wx fun e w' => (∃ z : Int, e = .returned (.int .i64 z) ∧ decO2 V2.data.toList z) ∧ Below wx.heap.size wx w')
    (fin : ∀ (z1 : Int) (z2 : Int) (XA : Nat) (w' : World), (Below w0.heap.size w0 w') → (∀ wx, Below w0.heap.size w0 wx → wx.cell? ⟨qb, qo + 1, none⟩ = some (.string V0) ∧ wx.cell? ⟨qb, qo + 3, none⟩ = some (.string V1) ∧ wx.cell? ⟨qb, qo + 5, none⟩ = some (.string V2)) → (∀ wx, Below w0.heap.size w0 wx → Calls Tryz.prog 93 #[.string V1] wx fun e w' => (∃ z : Int, e = .returned (.int .i64 z) ∧ decO2 V1.data.toList z) ∧ Below wx.heap.size wx w') → (∀ wx, Below w0.heap.size w0 wx → Calls Tryz.prog 93 #[.string V2] wx fun e w' => (∃ z : Int, e = .returned (.int .i64 z) ∧ decO2 V2.data.toList z) ∧ Below wx.heap.size wx w') → (decO2 V1.data.toList z1) → (decO2 V2.data.toList z2) → (RowAt w' XA 72 #[.string V0, .int .i64 z1, .int .i64 z2, .slice none 0 0] ∧ w0.heap.size ≤ XA) → Q .normal { tmps := #[.slice (some ⟨qb, qo, none⟩) 5 cap, sb, sc, .pointer (some ⟨XA, 0, none⟩), se, .slice (some ⟨qb, qo, none⟩) 5 cap, .pointer (some ⟨qb, qo, none⟩), .pointer (some ⟨qb, qo + 1, none⟩), .string V0, .slice (some ⟨qb, qo, none⟩) 5 cap, .pointer (some ⟨qb, qo + 2, none⟩), .pointer (some ⟨qb, qo + 3, none⟩), .string V1, .int .i64 z1, .slice (some ⟨qb, qo, none⟩) 5 cap, .pointer (some ⟨qb, qo + 4, none⟩), .pointer (some ⟨qb, qo + 5, none⟩), .string V2, .int .i64 z2, .agg #[.string V0, .int .i64 z1, .int .i64 z2, .slice none 0 0], sx, sy, sz, ta, tb, tc, td, te, tf, tg], defers := [] } w') :
    (Code.region rid rs1O true).wp Tryz.prog Q { tmps := #[.slice (some ⟨qb, qo, none⟩) 5 cap, sb, sc, sd, se, sf, sh, si, sj, sk, sm, sn, so, sp, sq, sr, ss, su, sv, sw, sx, sy, sz, ta, tb, tc, td, te, tf, tg], defers := [] } w := by
  refine wp_region_inv (ops := rs1O) (rs1I w0 qb qo cap V0 V1 V2 sb sc sd se sf sh si sj sk sm sn so sp sq sr ss su sv sw sx sy sz ta tb tc td te tf tg) (by kernel_rfl) (by kernel_rfl) (fun l f v hI => ?_) (fun l f v hC hI i h0 o ho h1 => rs1_step w0 qb qo cap V0 V1 V2 sb sc sd se sf sh si sj sk sm sn so sp sq sr ss su sv sw sx sy sz ta tb tc td te tf tg hcv hr1 hr2 l f v hC hI i h0 o ho h1) (fun l f v hI hall => ?_) ?_
  · obtain ⟨_, _, _, _, _, _, _, _, _, _, _, _, _, _, _, _, _, _, _, _, rfl, _⟩ := hI; rfl
  · obtain ⟨b0, b1, b2, b3, b4, b5, b6, b7, b8, b9, b10, b11, b12, b13, b14, b15, b16, z1, z2, XA, rfl, rfl, hB, hd1, hd2, hXA⟩ := hI
    obtain rfl : b0 = true := hall 0 (by simp)
    obtain rfl : b1 = true := hall 1 (by simp)
    obtain rfl : b2 = true := hall 2 (by simp)
    obtain rfl : b3 = true := hall 3 (by simp)
    obtain rfl : b4 = true := hall 4 (by simp)
    obtain rfl : b5 = true := hall 5 (by simp)
    obtain rfl : b6 = true := hall 6 (by simp)
    obtain rfl : b7 = true := hall 7 (by simp)
    obtain rfl : b8 = true := hall 8 (by simp)
    obtain rfl : b9 = true := hall 9 (by simp)
    obtain rfl : b10 = true := hall 10 (by simp)
    obtain rfl : b11 = true := hall 11 (by simp)
    obtain rfl : b12 = true := hall 12 (by simp)
    obtain rfl : b13 = true := hall 13 (by simp)
    obtain rfl : b14 = true := hall 14 (by simp)
    obtain rfl : b15 = true := hall 15 (by simp)
    obtain rfl : b16 = true := hall 16 (by simp)
    exact fin z1 z2 XA v hB hcv hr1 hr2 (hd1 rfl) (hd2 rfl) (hXA rfl)
  · exact ⟨false, false, false, false, false, false, false, false, false, false, false, false, false, false, false, false, false, 0, 0, 0, rfl, rfl, hB.drew, fun h => Bool.noConfusion h, fun h => Bool.noConfusion h, fun h => Bool.noConfusion h⟩
end Go.Proofs.YtkppgjndmbbobaaGreatDoor
