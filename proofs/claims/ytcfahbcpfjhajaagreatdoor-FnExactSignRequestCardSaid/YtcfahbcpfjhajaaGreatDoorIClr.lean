import Derived.Test.YtcfahbcpfjhajaaGreatDoorIClp
import Derived.Test.YtcfahbcpfjhajaaGreatDoorL1
namespace Go.Proofs.YtcfahbcpfjhajaaGreatDoor
open Go.RowKit
set_option linter.unusedVariables false
/-! The program's cloneRequest (by genclr.py). -/
def clro0 : Oper := { dst := some 3, op := Op.fieldAddr 25 (Operand.tmp 1) 0, type := 0, pos := "l10_request.go:380", after := #[], guard := none }
def clro1 : Oper := { dst := some 4, op := Op.load 9 (Operand.tmp 3), type := 9, pos := "l10_request.go:380", after := #[{ on := 0, ground := Ground.data }], guard := none }
def clro2 : Oper := { dst := some 5, op := Op.call { callee := Callee.value (Operand.func 57), args := #[Operand.tmp 4], argTypes := #[9] }, type := 9, pos := "l10_request.go:381", after := #[{ on := 1, ground := Ground.data }], guard := none }
def clro3 : Oper := { dst := some 6, op := Op.fieldAddr 25 (Operand.tmp 1) 1, type := 0, pos := "l10_request.go:380", after := #[], guard := none }
def clro4 : Oper := { dst := some 7, op := Op.load 9 (Operand.tmp 6), type := 9, pos := "l10_request.go:380", after := #[{ on := 3, ground := Ground.data }], guard := none }
def clro5 : Oper := { dst := some 8, op := Op.call { callee := Callee.value (Operand.func 57), args := #[Operand.tmp 7], argTypes := #[9] }, type := 9, pos := "l10_request.go:382", after := #[{ on := 4, ground := Ground.data }, { on := 2, ground := Ground.chain }], guard := none }
def clro6 : Oper := { dst := some 9, op := Op.fieldAddr 25 (Operand.tmp 1) 2, type := 0, pos := "l10_request.go:380", after := #[], guard := none }
def clro7 : Oper := { dst := some 10, op := Op.load 23 (Operand.tmp 9), type := 23, pos := "l10_request.go:380", after := #[{ on := 6, ground := Ground.data }], guard := none }
def clro8 : Oper := { dst := some 11, op := Op.call { callee := Callee.value (Operand.func 42), args := #[Operand.tmp 10], argTypes := #[23] }, type := 23, pos := "l10_request.go:383", after := #[{ on := 7, ground := Ground.data }, { on := 5, ground := Ground.chain }], guard := none }
def clro9 : Oper := { dst := some 12, op := Op.fieldAddr 25 (Operand.tmp 1) 3, type := 0, pos := "l10_request.go:380", after := #[], guard := none }
def clro10 : Oper := { dst := some 13, op := Op.load 23 (Operand.tmp 12), type := 23, pos := "l10_request.go:380", after := #[{ on := 9, ground := Ground.data }], guard := none }
def clro11 : Oper := { dst := some 14, op := Op.call { callee := Callee.value (Operand.func 42), args := #[Operand.tmp 13], argTypes := #[23] }, type := 23, pos := "l10_request.go:384", after := #[{ on := 10, ground := Ground.data }, { on := 8, ground := Ground.chain }], guard := none }
def clro12 : Oper := { dst := some 15, op := Op.fieldAddr 25 (Operand.tmp 1) 4, type := 0, pos := "l10_request.go:380", after := #[], guard := none }
def clro13 : Oper := { dst := some 16, op := Op.load 9 (Operand.tmp 15), type := 9, pos := "l10_request.go:380", after := #[{ on := 12, ground := Ground.data }], guard := none }
def clro14 : Oper := { dst := some 17, op := Op.call { callee := Callee.value (Operand.func 57), args := #[Operand.tmp 16], argTypes := #[9] }, type := 9, pos := "l10_request.go:385", after := #[{ on := 13, ground := Ground.data }, { on := 11, ground := Ground.chain }], guard := none }
def clro15 : Oper := { dst := some 18, op := Op.build 25 #[(0, Operand.tmp 5), (1, Operand.tmp 8), (2, Operand.tmp 11), (3, Operand.tmp 14), (4, Operand.tmp 17)], type := 25, pos := "l10_request.go:380", after := #[{ on := 2, ground := Ground.data }, { on := 5, ground := Ground.data }, { on := 8, ground := Ground.data }, { on := 11, ground := Ground.data }, { on := 14, ground := Ground.data }], guard := none }
def clro16 : Oper := { dst := none, op := Op.store 25 (Operand.tmp 2) (Operand.tmp 18), type := 0, pos := "l10_request.go:380", after := #[{ on := 15, ground := Ground.data }, { on := 14, ground := Ground.chain }, { on := 0, ground := Ground.phase }, { on := 1, ground := Ground.phase }, { on := 2, ground := Ground.phase }, { on := 3, ground := Ground.phase }, { on := 4, ground := Ground.phase }, { on := 5, ground := Ground.phase }, { on := 6, ground := Ground.phase }, { on := 7, ground := Ground.phase }, { on := 8, ground := Ground.phase }, { on := 9, ground := Ground.phase }, { on := 10, ground := Ground.phase }, { on := 11, ground := Ground.phase }, { on := 12, ground := Ground.phase }, { on := 13, ground := Ground.phase }, { on := 14, ground := Ground.phase }, { on := 15, ground := Ground.phase }], guard := none }
def clrO : Array Oper := #[clro0, clro1, clro2, clro3, clro4, clro5, clro6, clro7, clro8, clro9, clro10, clro11, clro12, clro13, clro14, clro15, clro16]
def clrI (w0 : World) (X1 X2 : Nat) (mt pt bd : ByteArray) (a1 : Option Addr) (n1 c1 : Nat) (o1 : Nat → Hp) (a2 : Option Addr) (n2 c2 : Nat) (o2 : Nat → Hp) (s0 s3 s4 s5 s6 s7 s8 s9 s10 s11 s12 s13 s14 s15 s16 s17 s18 : Value) (l : Array Bool) (f : Act) (w : World) : Prop :=
  ∃ (b0 b1 b2 b3 b4 b5 b6 b7 b8 b9 b10 b11 b12 b13 b14 b15 b16 : Bool) (aQ : Option Addr) (cQ : Nat) (BQ : Nat) (aH : Option Addr) (cH : Nat) (BH : Nat), l = #[b0, b1, b2, b3, b4, b5, b6, b7, b8, b9, b10, b11, b12, b13, b14, b15, b16] ∧ f = { tmps := #[s0, .pointer (some ⟨X1, 0, none⟩), .pointer (some ⟨X2, 0, none⟩), selS b0 (.pointer (some ⟨X1, 0, none⟩)) (s3), selS b1 (.string mt) (s4), selS b2 (.string mt) (s5), selS b3 (.pointer (some ⟨X1, 1, none⟩)) (s6), selS b4 (.string pt) (s7), selS b5 (.string pt) (s8), selS b6 (.pointer (some ⟨X1, 2, none⟩)) (s9), selS b7 (.slice a1 n1 c1) (s10), selS b8 (.slice aQ n1 cQ) (s11), selS b9 (.pointer (some ⟨X1, 3, none⟩)) (s12), selS b10 (.slice a2 n2 c2) (s13), selS b11 (.slice aH n2 cH) (s14), selS b12 (.pointer (some ⟨X1, 4, none⟩)) (s15), selS b13 (.string bd) (s16), selS b14 (.string bd) (s17), selS b15 (.agg #[.string mt, .string pt, .slice aQ n1 cQ, .slice aH n2 cH, .string bd]) (s18)], defers := [] } ∧ (Below w0.heap.size w0 w) ∧ (RowAt w X1 25 #[.string mt, .string pt, .slice a1 n1 c1, .slice a2 n2 c2, .string bd]) ∧ (RowAt w X2 25 (cond b16 #[.string mt, .string pt, .slice aQ n1 cQ, .slice aH n2 cH, .string bd] #[.string ⟨#[]⟩, .string ⟨#[]⟩, .slice none 0 0, .slice none 0 0, .string ⟨#[]⟩])) ∧ (b8 = true → OwnHp w BQ (.slice aQ n1 cQ) (hpList o1 n1) ∧ w0.heap.size ≤ BQ) ∧ (b11 = true → OwnHp w BH (.slice aH n2 cH) (hpList o2 n2) ∧ w0.heap.size ≤ BH) ∧ (b11 = true → ∀ g, (Value.slice aQ n1 cQ).ownBlock = some g → g < BH) ∧ (w0.heap.size ≤ X1 ∧ w0.heap.size ≤ X2 ∧ X1 ≠ X2) ∧ (∀ wx, Calls Tryz.prog 57 #[.string mt] wx fun e w' => e = .returned (.string mt) ∧ Below wx.heap.size wx w') ∧ (∀ wx, Calls Tryz.prog 57 #[.string pt] wx fun e w' => e = .returned (.string pt) ∧ Below wx.heap.size wx w') ∧ (∀ wx, Calls Tryz.prog 57 #[.string bd] wx fun e w' => e = .returned (.string bd) ∧ Below wx.heap.size wx w') ∧ (∀ wx, Below w0.heap.size w0 wx → Calls Tryz.prog 42 #[.slice a1 n1 c1] wx fun e w' => (∃ a' c', e = .returned (.slice a' n1 c') ∧ OwnHp w' wx.heap.size (.slice a' n1 c') (hpList o1 n1)) ∧ Below wx.heap.size wx w') ∧ (∀ wx, Below w0.heap.size w0 wx → Calls Tryz.prog 42 #[.slice a2 n2 c2] wx fun e w' => (∃ a' c', e = .returned (.slice a' n2 c') ∧ OwnHp w' wx.heap.size (.slice a' n2 c') (hpList o2 n2)) ∧ Below wx.heap.size wx w')
set_option maxRecDepth 20000 in
set_option maxHeartbeats 1000000 in
theorem clr_s0 {Q : Exit → Act → World → Prop} (w0 : World) (X1 X2 : Nat) (mt pt bd : ByteArray) (a1 : Option Addr) (n1 c1 : Nat) (o1 : Nat → Hp) (a2 : Option Addr) (n2 c2 : Nat) (o2 : Nat → Hp) (s0 s3 s4 s5 s6 s7 s8 s9 s10 s11 s12 s13 s14 s15 s16 s17 s18 : Value) (b3 b4 b6 b7 b9 b10 b12 b13 : Bool) (aQ : Option Addr) (cQ : Nat) (BQ : Nat) (aH : Option Addr) (cH : Nat) (BH : Nat) (w : World) (hB : Below w0.heap.size w0 w) (hx1 : RowAt w X1 25 #[.string mt, .string pt, .slice a1 n1 c1, .slice a2 n2 c2, .string bd]) (hx2 : RowAt w X2 25 (cond false #[.string mt, .string pt, .slice aQ n1 cQ, .slice aH n2 cH, .string bd] #[.string ⟨#[]⟩, .string ⟨#[]⟩, .slice none 0 0, .slice none 0 0, .string ⟨#[]⟩])) (hoq : false = true → OwnHp w BQ (.slice aQ n1 cQ) (hpList o1 n1) ∧ w0.heap.size ≤ BQ) (hoh : false = true → OwnHp w BH (.slice aH n2 cH) (hpList o2 n2) ∧ w0.heap.size ≤ BH) (hap : false = true → ∀ g, (Value.slice aQ n1 cQ).ownBlock = some g → g < BH) (hst : w0.heap.size ≤ X1 ∧ w0.heap.size ≤ X2 ∧ X1 ≠ X2) (hkm : ∀ wx, Calls Tryz.prog 57 #[.string mt] wx fun e w' => e = .returned (.string mt) ∧ Below wx.heap.size wx w') (hkp : ∀ wx, Calls Tryz.prog 57 #[.string pt] wx fun e w' => e = .returned (.string pt) ∧ Below wx.heap.size wx w') (hkb : ∀ wx, Calls Tryz.prog 57 #[.string bd] wx fun e w' => e = .returned (.string bd) ∧ Below wx.heap.size wx w') (hk1 : ∀ wx, Below w0.heap.size w0 wx → Calls Tryz.prog 42 #[.slice a1 n1 c1] wx fun e w' => (∃ a' c', e = .returned (.slice a' n1 c') ∧ OwnHp w' wx.heap.size (.slice a' n1 c') (hpList o1 n1)) ∧ Below wx.heap.size wx w') (hk2 : ∀ wx, Below w0.heap.size w0 wx → Calls Tryz.prog 42 #[.slice a2 n2 c2] wx fun e w' => (∃ a' c', e = .returned (.slice a' n2 c') ∧ OwnHp w' wx.heap.size (.slice a' n2 c') (hpList o2 n2)) ∧ Below wx.heap.size wx w') :
    wpOp Tryz.prog clrO Q 0 (clrI w0 X1 X2 mt pt bd a1 n1 c1 o1 a2 n2 c2 o2 s0 s3 s4 s5 s6 s7 s8 s9 s10 s11 s12 s13 s14 s15 s16 s17 s18 #[true, false, false, b3, b4, false, b6, b7, false, b9, b10, false, b12, b13, false, false, false]) { tmps := #[s0, .pointer (some ⟨X1, 0, none⟩), .pointer (some ⟨X2, 0, none⟩), s3, s4, s5, selS b3 (.pointer (some ⟨X1, 1, none⟩)) (s6), selS b4 (.string pt) (s7), s8, selS b6 (.pointer (some ⟨X1, 2, none⟩)) (s9), selS b7 (.slice a1 n1 c1) (s10), s11, selS b9 (.pointer (some ⟨X1, 3, none⟩)) (s12), selS b10 (.slice a2 n2 c2) (s13), s14, selS b12 (.pointer (some ⟨X1, 4, none⟩)) (s15), selS b13 (.string bd) (s16), s17, s18], defers := [] } w := by
  refine wpOp_step (o := { dst := some 3, op := Op.fieldAddr 25 (Operand.tmp 1) 0, type := 0, pos := "l10_request.go:380", after := #[], guard := none }) rfl (fun K hK => ?_)
  replace hK := hid hK
  go_simp
  exact hK.out _ _ ⟨true, false, false, b3, b4, false, b6, b7, false, b9, b10, false, b12, b13, false, false, false, aQ, cQ, BQ, aH, cH, BH, rfl, rfl, hB, hx1, hx2, hoq, hoh, hap, hst, hkm, hkp, hkb, hk1, hk2⟩
set_option maxRecDepth 20000 in
set_option maxHeartbeats 1000000 in
theorem clr_s1 {Q : Exit → Act → World → Prop} (w0 : World) (X1 X2 : Nat) (mt pt bd : ByteArray) (a1 : Option Addr) (n1 c1 : Nat) (o1 : Nat → Hp) (a2 : Option Addr) (n2 c2 : Nat) (o2 : Nat → Hp) (s0 s3 s4 s5 s6 s7 s8 s9 s10 s11 s12 s13 s14 s15 s16 s17 s18 : Value) (b3 b4 b6 b7 b9 b10 b12 b13 : Bool) (aQ : Option Addr) (cQ : Nat) (BQ : Nat) (aH : Option Addr) (cH : Nat) (BH : Nat) (w : World) (hB : Below w0.heap.size w0 w) (hx1 : RowAt w X1 25 #[.string mt, .string pt, .slice a1 n1 c1, .slice a2 n2 c2, .string bd]) (hx2 : RowAt w X2 25 (cond false #[.string mt, .string pt, .slice aQ n1 cQ, .slice aH n2 cH, .string bd] #[.string ⟨#[]⟩, .string ⟨#[]⟩, .slice none 0 0, .slice none 0 0, .string ⟨#[]⟩])) (hoq : false = true → OwnHp w BQ (.slice aQ n1 cQ) (hpList o1 n1) ∧ w0.heap.size ≤ BQ) (hoh : false = true → OwnHp w BH (.slice aH n2 cH) (hpList o2 n2) ∧ w0.heap.size ≤ BH) (hap : false = true → ∀ g, (Value.slice aQ n1 cQ).ownBlock = some g → g < BH) (hst : w0.heap.size ≤ X1 ∧ w0.heap.size ≤ X2 ∧ X1 ≠ X2) (hkm : ∀ wx, Calls Tryz.prog 57 #[.string mt] wx fun e w' => e = .returned (.string mt) ∧ Below wx.heap.size wx w') (hkp : ∀ wx, Calls Tryz.prog 57 #[.string pt] wx fun e w' => e = .returned (.string pt) ∧ Below wx.heap.size wx w') (hkb : ∀ wx, Calls Tryz.prog 57 #[.string bd] wx fun e w' => e = .returned (.string bd) ∧ Below wx.heap.size wx w') (hk1 : ∀ wx, Below w0.heap.size w0 wx → Calls Tryz.prog 42 #[.slice a1 n1 c1] wx fun e w' => (∃ a' c', e = .returned (.slice a' n1 c') ∧ OwnHp w' wx.heap.size (.slice a' n1 c') (hpList o1 n1)) ∧ Below wx.heap.size wx w') (hk2 : ∀ wx, Below w0.heap.size w0 wx → Calls Tryz.prog 42 #[.slice a2 n2 c2] wx fun e w' => (∃ a' c', e = .returned (.slice a' n2 c') ∧ OwnHp w' wx.heap.size (.slice a' n2 c') (hpList o2 n2)) ∧ Below wx.heap.size wx w') :
    wpOp Tryz.prog clrO Q 1 (clrI w0 X1 X2 mt pt bd a1 n1 c1 o1 a2 n2 c2 o2 s0 s3 s4 s5 s6 s7 s8 s9 s10 s11 s12 s13 s14 s15 s16 s17 s18 #[true, true, false, b3, b4, false, b6, b7, false, b9, b10, false, b12, b13, false, false, false]) { tmps := #[s0, .pointer (some ⟨X1, 0, none⟩), .pointer (some ⟨X2, 0, none⟩), .pointer (some ⟨X1, 0, none⟩), s4, s5, selS b3 (.pointer (some ⟨X1, 1, none⟩)) (s6), selS b4 (.string pt) (s7), s8, selS b6 (.pointer (some ⟨X1, 2, none⟩)) (s9), selS b7 (.slice a1 n1 c1) (s10), s11, selS b9 (.pointer (some ⟨X1, 3, none⟩)) (s12), selS b10 (.slice a2 n2 c2) (s13), s14, selS b12 (.pointer (some ⟨X1, 4, none⟩)) (s15), selS b13 (.string bd) (s16), s17, s18], defers := [] } w := by
  have q0 := hx1.cell 0
  have q1 := hx1.cell 1
  have q2 := hx1.cell 2
  have q3 := hx1.cell 3
  have q4 := hx1.cell 4
  refine wpOp_step (o := { dst := some 4, op := Op.load 9 (Operand.tmp 3), type := 9, pos := "l10_request.go:380", after := #[{ on := 0, ground := Ground.data }], guard := none }) rfl (fun K hK => ?_)
  replace hK := hid hK
  go_simp
  exact hK.out _ _ ⟨true, true, false, b3, b4, false, b6, b7, false, b9, b10, false, b12, b13, false, false, false, aQ, cQ, BQ, aH, cH, BH, rfl, rfl, hB, hx1, hx2, hoq, hoh, hap, hst, hkm, hkp, hkb, hk1, hk2⟩
set_option maxRecDepth 20000 in
set_option maxHeartbeats 1000000 in
theorem clr_s2 {Q : Exit → Act → World → Prop} (w0 : World) (X1 X2 : Nat) (mt pt bd : ByteArray) (a1 : Option Addr) (n1 c1 : Nat) (o1 : Nat → Hp) (a2 : Option Addr) (n2 c2 : Nat) (o2 : Nat → Hp) (s0 s3 s4 s5 s6 s7 s8 s9 s10 s11 s12 s13 s14 s15 s16 s17 s18 : Value) (b3 b4 b6 b7 b9 b10 b12 b13 : Bool) (aQ : Option Addr) (cQ : Nat) (BQ : Nat) (aH : Option Addr) (cH : Nat) (BH : Nat) (w : World) (hB : Below w0.heap.size w0 w) (hx1 : RowAt w X1 25 #[.string mt, .string pt, .slice a1 n1 c1, .slice a2 n2 c2, .string bd]) (hx2 : RowAt w X2 25 (cond false #[.string mt, .string pt, .slice aQ n1 cQ, .slice aH n2 cH, .string bd] #[.string ⟨#[]⟩, .string ⟨#[]⟩, .slice none 0 0, .slice none 0 0, .string ⟨#[]⟩])) (hoq : false = true → OwnHp w BQ (.slice aQ n1 cQ) (hpList o1 n1) ∧ w0.heap.size ≤ BQ) (hoh : false = true → OwnHp w BH (.slice aH n2 cH) (hpList o2 n2) ∧ w0.heap.size ≤ BH) (hap : false = true → ∀ g, (Value.slice aQ n1 cQ).ownBlock = some g → g < BH) (hst : w0.heap.size ≤ X1 ∧ w0.heap.size ≤ X2 ∧ X1 ≠ X2) (hkm : ∀ wx, Calls Tryz.prog 57 #[.string mt] wx fun e w' => e = .returned (.string mt) ∧ Below wx.heap.size wx w') (hkp : ∀ wx, Calls Tryz.prog 57 #[.string pt] wx fun e w' => e = .returned (.string pt) ∧ Below wx.heap.size wx w') (hkb : ∀ wx, Calls Tryz.prog 57 #[.string bd] wx fun e w' => e = .returned (.string bd) ∧ Below wx.heap.size wx w') (hk1 : ∀ wx, Below w0.heap.size w0 wx → Calls Tryz.prog 42 #[.slice a1 n1 c1] wx fun e w' => (∃ a' c', e = .returned (.slice a' n1 c') ∧ OwnHp w' wx.heap.size (.slice a' n1 c') (hpList o1 n1)) ∧ Below wx.heap.size wx w') (hk2 : ∀ wx, Below w0.heap.size w0 wx → Calls Tryz.prog 42 #[.slice a2 n2 c2] wx fun e w' => (∃ a' c', e = .returned (.slice a' n2 c') ∧ OwnHp w' wx.heap.size (.slice a' n2 c') (hpList o2 n2)) ∧ Below wx.heap.size wx w') :
    wpOp Tryz.prog clrO Q 2 (clrI w0 X1 X2 mt pt bd a1 n1 c1 o1 a2 n2 c2 o2 s0 s3 s4 s5 s6 s7 s8 s9 s10 s11 s12 s13 s14 s15 s16 s17 s18 #[true, true, true, b3, b4, false, b6, b7, false, b9, b10, false, b12, b13, false, false, false]) { tmps := #[s0, .pointer (some ⟨X1, 0, none⟩), .pointer (some ⟨X2, 0, none⟩), .pointer (some ⟨X1, 0, none⟩), .string mt, s5, selS b3 (.pointer (some ⟨X1, 1, none⟩)) (s6), selS b4 (.string pt) (s7), s8, selS b6 (.pointer (some ⟨X1, 2, none⟩)) (s9), selS b7 (.slice a1 n1 c1) (s10), s11, selS b9 (.pointer (some ⟨X1, 3, none⟩)) (s12), selS b10 (.slice a2 n2 c2) (s13), s14, selS b12 (.pointer (some ⟨X1, 4, none⟩)) (s15), selS b13 (.string bd) (s16), s17, s18], defers := [] } w := by
  refine wpOp_step (o := { dst := some 5, op := Op.call { callee := Callee.value (Operand.func 57), args := #[Operand.tmp 4], argTypes := #[9] }, type := 9, pos := "l10_request.go:381", after := #[{ on := 1, ground := Ground.data }], guard := none }) rfl (fun K hK => ?_)
  replace hK := hid hK
  go_simp
  refine (hkm _).mono ?_
  rintro e w2 ⟨rfl, hb2⟩
  dsimp only
  exact hK.out _ _ ⟨true, true, true, b3, b4, false, b6, b7, false, b9, b10, false, b12, b13, false, false, false, aQ, cQ, BQ, aH, cH, BH, rfl, rfl, hB.trans (hb2.mono hB.size), RowAt.nxS hb2 hx1, RowAt.nxS hb2 hx2, fun h => Bool.noConfusion h, fun h => Bool.noConfusion h, fun h => Bool.noConfusion h, hst, hkm, hkp, hkb, hk1, hk2⟩
set_option maxRecDepth 20000 in
set_option maxHeartbeats 1000000 in
theorem clr_s3 {Q : Exit → Act → World → Prop} (w0 : World) (X1 X2 : Nat) (mt pt bd : ByteArray) (a1 : Option Addr) (n1 c1 : Nat) (o1 : Nat → Hp) (a2 : Option Addr) (n2 c2 : Nat) (o2 : Nat → Hp) (s0 s3 s4 s5 s6 s7 s8 s9 s10 s11 s12 s13 s14 s15 s16 s17 s18 : Value) (b0 b1 b2 b6 b7 b9 b10 b12 b13 : Bool) (aQ : Option Addr) (cQ : Nat) (BQ : Nat) (aH : Option Addr) (cH : Nat) (BH : Nat) (w : World) (hB : Below w0.heap.size w0 w) (hx1 : RowAt w X1 25 #[.string mt, .string pt, .slice a1 n1 c1, .slice a2 n2 c2, .string bd]) (hx2 : RowAt w X2 25 (cond false #[.string mt, .string pt, .slice aQ n1 cQ, .slice aH n2 cH, .string bd] #[.string ⟨#[]⟩, .string ⟨#[]⟩, .slice none 0 0, .slice none 0 0, .string ⟨#[]⟩])) (hoq : false = true → OwnHp w BQ (.slice aQ n1 cQ) (hpList o1 n1) ∧ w0.heap.size ≤ BQ) (hoh : false = true → OwnHp w BH (.slice aH n2 cH) (hpList o2 n2) ∧ w0.heap.size ≤ BH) (hap : false = true → ∀ g, (Value.slice aQ n1 cQ).ownBlock = some g → g < BH) (hst : w0.heap.size ≤ X1 ∧ w0.heap.size ≤ X2 ∧ X1 ≠ X2) (hkm : ∀ wx, Calls Tryz.prog 57 #[.string mt] wx fun e w' => e = .returned (.string mt) ∧ Below wx.heap.size wx w') (hkp : ∀ wx, Calls Tryz.prog 57 #[.string pt] wx fun e w' => e = .returned (.string pt) ∧ Below wx.heap.size wx w') (hkb : ∀ wx, Calls Tryz.prog 57 #[.string bd] wx fun e w' => e = .returned (.string bd) ∧ Below wx.heap.size wx w') (hk1 : ∀ wx, Below w0.heap.size w0 wx → Calls Tryz.prog 42 #[.slice a1 n1 c1] wx fun e w' => (∃ a' c', e = .returned (.slice a' n1 c') ∧ OwnHp w' wx.heap.size (.slice a' n1 c') (hpList o1 n1)) ∧ Below wx.heap.size wx w') (hk2 : ∀ wx, Below w0.heap.size w0 wx → Calls Tryz.prog 42 #[.slice a2 n2 c2] wx fun e w' => (∃ a' c', e = .returned (.slice a' n2 c') ∧ OwnHp w' wx.heap.size (.slice a' n2 c') (hpList o2 n2)) ∧ Below wx.heap.size wx w') :
    wpOp Tryz.prog clrO Q 3 (clrI w0 X1 X2 mt pt bd a1 n1 c1 o1 a2 n2 c2 o2 s0 s3 s4 s5 s6 s7 s8 s9 s10 s11 s12 s13 s14 s15 s16 s17 s18 #[b0, b1, b2, true, false, false, b6, b7, false, b9, b10, false, b12, b13, false, false, false]) { tmps := #[s0, .pointer (some ⟨X1, 0, none⟩), .pointer (some ⟨X2, 0, none⟩), selS b0 (.pointer (some ⟨X1, 0, none⟩)) (s3), selS b1 (.string mt) (s4), selS b2 (.string mt) (s5), s6, s7, s8, selS b6 (.pointer (some ⟨X1, 2, none⟩)) (s9), selS b7 (.slice a1 n1 c1) (s10), s11, selS b9 (.pointer (some ⟨X1, 3, none⟩)) (s12), selS b10 (.slice a2 n2 c2) (s13), s14, selS b12 (.pointer (some ⟨X1, 4, none⟩)) (s15), selS b13 (.string bd) (s16), s17, s18], defers := [] } w := by
  refine wpOp_step (o := { dst := some 6, op := Op.fieldAddr 25 (Operand.tmp 1) 1, type := 0, pos := "l10_request.go:380", after := #[], guard := none }) rfl (fun K hK => ?_)
  replace hK := hid hK
  go_simp
  exact hK.out _ _ ⟨b0, b1, b2, true, false, false, b6, b7, false, b9, b10, false, b12, b13, false, false, false, aQ, cQ, BQ, aH, cH, BH, rfl, rfl, hB, hx1, hx2, hoq, hoh, hap, hst, hkm, hkp, hkb, hk1, hk2⟩
set_option maxRecDepth 20000 in
set_option maxHeartbeats 1000000 in
theorem clr_s4 {Q : Exit → Act → World → Prop} (w0 : World) (X1 X2 : Nat) (mt pt bd : ByteArray) (a1 : Option Addr) (n1 c1 : Nat) (o1 : Nat → Hp) (a2 : Option Addr) (n2 c2 : Nat) (o2 : Nat → Hp) (s0 s3 s4 s5 s6 s7 s8 s9 s10 s11 s12 s13 s14 s15 s16 s17 s18 : Value) (b0 b1 b2 b6 b7 b9 b10 b12 b13 : Bool) (aQ : Option Addr) (cQ : Nat) (BQ : Nat) (aH : Option Addr) (cH : Nat) (BH : Nat) (w : World) (hB : Below w0.heap.size w0 w) (hx1 : RowAt w X1 25 #[.string mt, .string pt, .slice a1 n1 c1, .slice a2 n2 c2, .string bd]) (hx2 : RowAt w X2 25 (cond false #[.string mt, .string pt, .slice aQ n1 cQ, .slice aH n2 cH, .string bd] #[.string ⟨#[]⟩, .string ⟨#[]⟩, .slice none 0 0, .slice none 0 0, .string ⟨#[]⟩])) (hoq : false = true → OwnHp w BQ (.slice aQ n1 cQ) (hpList o1 n1) ∧ w0.heap.size ≤ BQ) (hoh : false = true → OwnHp w BH (.slice aH n2 cH) (hpList o2 n2) ∧ w0.heap.size ≤ BH) (hap : false = true → ∀ g, (Value.slice aQ n1 cQ).ownBlock = some g → g < BH) (hst : w0.heap.size ≤ X1 ∧ w0.heap.size ≤ X2 ∧ X1 ≠ X2) (hkm : ∀ wx, Calls Tryz.prog 57 #[.string mt] wx fun e w' => e = .returned (.string mt) ∧ Below wx.heap.size wx w') (hkp : ∀ wx, Calls Tryz.prog 57 #[.string pt] wx fun e w' => e = .returned (.string pt) ∧ Below wx.heap.size wx w') (hkb : ∀ wx, Calls Tryz.prog 57 #[.string bd] wx fun e w' => e = .returned (.string bd) ∧ Below wx.heap.size wx w') (hk1 : ∀ wx, Below w0.heap.size w0 wx → Calls Tryz.prog 42 #[.slice a1 n1 c1] wx fun e w' => (∃ a' c', e = .returned (.slice a' n1 c') ∧ OwnHp w' wx.heap.size (.slice a' n1 c') (hpList o1 n1)) ∧ Below wx.heap.size wx w') (hk2 : ∀ wx, Below w0.heap.size w0 wx → Calls Tryz.prog 42 #[.slice a2 n2 c2] wx fun e w' => (∃ a' c', e = .returned (.slice a' n2 c') ∧ OwnHp w' wx.heap.size (.slice a' n2 c') (hpList o2 n2)) ∧ Below wx.heap.size wx w') :
    wpOp Tryz.prog clrO Q 4 (clrI w0 X1 X2 mt pt bd a1 n1 c1 o1 a2 n2 c2 o2 s0 s3 s4 s5 s6 s7 s8 s9 s10 s11 s12 s13 s14 s15 s16 s17 s18 #[b0, b1, b2, true, true, false, b6, b7, false, b9, b10, false, b12, b13, false, false, false]) { tmps := #[s0, .pointer (some ⟨X1, 0, none⟩), .pointer (some ⟨X2, 0, none⟩), selS b0 (.pointer (some ⟨X1, 0, none⟩)) (s3), selS b1 (.string mt) (s4), selS b2 (.string mt) (s5), .pointer (some ⟨X1, 1, none⟩), s7, s8, selS b6 (.pointer (some ⟨X1, 2, none⟩)) (s9), selS b7 (.slice a1 n1 c1) (s10), s11, selS b9 (.pointer (some ⟨X1, 3, none⟩)) (s12), selS b10 (.slice a2 n2 c2) (s13), s14, selS b12 (.pointer (some ⟨X1, 4, none⟩)) (s15), selS b13 (.string bd) (s16), s17, s18], defers := [] } w := by
  have q0 := hx1.cell 0
  have q1 := hx1.cell 1
  have q2 := hx1.cell 2
  have q3 := hx1.cell 3
  have q4 := hx1.cell 4
  refine wpOp_step (o := { dst := some 7, op := Op.load 9 (Operand.tmp 6), type := 9, pos := "l10_request.go:380", after := #[{ on := 3, ground := Ground.data }], guard := none }) rfl (fun K hK => ?_)
  replace hK := hid hK
  go_simp
  exact hK.out _ _ ⟨b0, b1, b2, true, true, false, b6, b7, false, b9, b10, false, b12, b13, false, false, false, aQ, cQ, BQ, aH, cH, BH, rfl, rfl, hB, hx1, hx2, hoq, hoh, hap, hst, hkm, hkp, hkb, hk1, hk2⟩
set_option maxRecDepth 20000 in
set_option maxHeartbeats 1000000 in
theorem clr_s5 {Q : Exit → Act → World → Prop} (w0 : World) (X1 X2 : Nat) (mt pt bd : ByteArray) (a1 : Option Addr) (n1 c1 : Nat) (o1 : Nat → Hp) (a2 : Option Addr) (n2 c2 : Nat) (o2 : Nat → Hp) (s0 s3 s4 s5 s6 s7 s8 s9 s10 s11 s12 s13 s14 s15 s16 s17 s18 : Value) (b6 b7 b9 b10 b12 b13 : Bool) (aQ : Option Addr) (cQ : Nat) (BQ : Nat) (aH : Option Addr) (cH : Nat) (BH : Nat) (w : World) (hB : Below w0.heap.size w0 w) (hx1 : RowAt w X1 25 #[.string mt, .string pt, .slice a1 n1 c1, .slice a2 n2 c2, .string bd]) (hx2 : RowAt w X2 25 (cond false #[.string mt, .string pt, .slice aQ n1 cQ, .slice aH n2 cH, .string bd] #[.string ⟨#[]⟩, .string ⟨#[]⟩, .slice none 0 0, .slice none 0 0, .string ⟨#[]⟩])) (hoq : false = true → OwnHp w BQ (.slice aQ n1 cQ) (hpList o1 n1) ∧ w0.heap.size ≤ BQ) (hoh : false = true → OwnHp w BH (.slice aH n2 cH) (hpList o2 n2) ∧ w0.heap.size ≤ BH) (hap : false = true → ∀ g, (Value.slice aQ n1 cQ).ownBlock = some g → g < BH) (hst : w0.heap.size ≤ X1 ∧ w0.heap.size ≤ X2 ∧ X1 ≠ X2) (hkm : ∀ wx, Calls Tryz.prog 57 #[.string mt] wx fun e w' => e = .returned (.string mt) ∧ Below wx.heap.size wx w') (hkp : ∀ wx, Calls Tryz.prog 57 #[.string pt] wx fun e w' => e = .returned (.string pt) ∧ Below wx.heap.size wx w') (hkb : ∀ wx, Calls Tryz.prog 57 #[.string bd] wx fun e w' => e = .returned (.string bd) ∧ Below wx.heap.size wx w') (hk1 : ∀ wx, Below w0.heap.size w0 wx → Calls Tryz.prog 42 #[.slice a1 n1 c1] wx fun e w' => (∃ a' c', e = .returned (.slice a' n1 c') ∧ OwnHp w' wx.heap.size (.slice a' n1 c') (hpList o1 n1)) ∧ Below wx.heap.size wx w') (hk2 : ∀ wx, Below w0.heap.size w0 wx → Calls Tryz.prog 42 #[.slice a2 n2 c2] wx fun e w' => (∃ a' c', e = .returned (.slice a' n2 c') ∧ OwnHp w' wx.heap.size (.slice a' n2 c') (hpList o2 n2)) ∧ Below wx.heap.size wx w') :
    wpOp Tryz.prog clrO Q 5 (clrI w0 X1 X2 mt pt bd a1 n1 c1 o1 a2 n2 c2 o2 s0 s3 s4 s5 s6 s7 s8 s9 s10 s11 s12 s13 s14 s15 s16 s17 s18 #[true, true, true, true, true, true, b6, b7, false, b9, b10, false, b12, b13, false, false, false]) { tmps := #[s0, .pointer (some ⟨X1, 0, none⟩), .pointer (some ⟨X2, 0, none⟩), .pointer (some ⟨X1, 0, none⟩), .string mt, .string mt, .pointer (some ⟨X1, 1, none⟩), .string pt, s8, selS b6 (.pointer (some ⟨X1, 2, none⟩)) (s9), selS b7 (.slice a1 n1 c1) (s10), s11, selS b9 (.pointer (some ⟨X1, 3, none⟩)) (s12), selS b10 (.slice a2 n2 c2) (s13), s14, selS b12 (.pointer (some ⟨X1, 4, none⟩)) (s15), selS b13 (.string bd) (s16), s17, s18], defers := [] } w := by
  refine wpOp_step (o := { dst := some 8, op := Op.call { callee := Callee.value (Operand.func 57), args := #[Operand.tmp 7], argTypes := #[9] }, type := 9, pos := "l10_request.go:382", after := #[{ on := 4, ground := Ground.data }, { on := 2, ground := Ground.chain }], guard := none }) rfl (fun K hK => ?_)
  replace hK := hid hK
  go_simp
  refine (hkp _).mono ?_
  rintro e w2 ⟨rfl, hb2⟩
  dsimp only
  exact hK.out _ _ ⟨true, true, true, true, true, true, b6, b7, false, b9, b10, false, b12, b13, false, false, false, aQ, cQ, BQ, aH, cH, BH, rfl, rfl, hB.trans (hb2.mono hB.size), RowAt.nxS hb2 hx1, RowAt.nxS hb2 hx2, fun h => Bool.noConfusion h, fun h => Bool.noConfusion h, fun h => Bool.noConfusion h, hst, hkm, hkp, hkb, hk1, hk2⟩
set_option maxRecDepth 20000 in
set_option maxHeartbeats 1000000 in
theorem clr_s6 {Q : Exit → Act → World → Prop} (w0 : World) (X1 X2 : Nat) (mt pt bd : ByteArray) (a1 : Option Addr) (n1 c1 : Nat) (o1 : Nat → Hp) (a2 : Option Addr) (n2 c2 : Nat) (o2 : Nat → Hp) (s0 s3 s4 s5 s6 s7 s8 s9 s10 s11 s12 s13 s14 s15 s16 s17 s18 : Value) (b0 b1 b2 b3 b4 b5 b9 b10 b12 b13 : Bool) (aQ : Option Addr) (cQ : Nat) (BQ : Nat) (aH : Option Addr) (cH : Nat) (BH : Nat) (w : World) (hB : Below w0.heap.size w0 w) (hx1 : RowAt w X1 25 #[.string mt, .string pt, .slice a1 n1 c1, .slice a2 n2 c2, .string bd]) (hx2 : RowAt w X2 25 (cond false #[.string mt, .string pt, .slice aQ n1 cQ, .slice aH n2 cH, .string bd] #[.string ⟨#[]⟩, .string ⟨#[]⟩, .slice none 0 0, .slice none 0 0, .string ⟨#[]⟩])) (hoq : false = true → OwnHp w BQ (.slice aQ n1 cQ) (hpList o1 n1) ∧ w0.heap.size ≤ BQ) (hoh : false = true → OwnHp w BH (.slice aH n2 cH) (hpList o2 n2) ∧ w0.heap.size ≤ BH) (hap : false = true → ∀ g, (Value.slice aQ n1 cQ).ownBlock = some g → g < BH) (hst : w0.heap.size ≤ X1 ∧ w0.heap.size ≤ X2 ∧ X1 ≠ X2) (hkm : ∀ wx, Calls Tryz.prog 57 #[.string mt] wx fun e w' => e = .returned (.string mt) ∧ Below wx.heap.size wx w') (hkp : ∀ wx, Calls Tryz.prog 57 #[.string pt] wx fun e w' => e = .returned (.string pt) ∧ Below wx.heap.size wx w') (hkb : ∀ wx, Calls Tryz.prog 57 #[.string bd] wx fun e w' => e = .returned (.string bd) ∧ Below wx.heap.size wx w') (hk1 : ∀ wx, Below w0.heap.size w0 wx → Calls Tryz.prog 42 #[.slice a1 n1 c1] wx fun e w' => (∃ a' c', e = .returned (.slice a' n1 c') ∧ OwnHp w' wx.heap.size (.slice a' n1 c') (hpList o1 n1)) ∧ Below wx.heap.size wx w') (hk2 : ∀ wx, Below w0.heap.size w0 wx → Calls Tryz.prog 42 #[.slice a2 n2 c2] wx fun e w' => (∃ a' c', e = .returned (.slice a' n2 c') ∧ OwnHp w' wx.heap.size (.slice a' n2 c') (hpList o2 n2)) ∧ Below wx.heap.size wx w') :
    wpOp Tryz.prog clrO Q 6 (clrI w0 X1 X2 mt pt bd a1 n1 c1 o1 a2 n2 c2 o2 s0 s3 s4 s5 s6 s7 s8 s9 s10 s11 s12 s13 s14 s15 s16 s17 s18 #[b0, b1, b2, b3, b4, b5, true, false, false, b9, b10, false, b12, b13, false, false, false]) { tmps := #[s0, .pointer (some ⟨X1, 0, none⟩), .pointer (some ⟨X2, 0, none⟩), selS b0 (.pointer (some ⟨X1, 0, none⟩)) (s3), selS b1 (.string mt) (s4), selS b2 (.string mt) (s5), selS b3 (.pointer (some ⟨X1, 1, none⟩)) (s6), selS b4 (.string pt) (s7), selS b5 (.string pt) (s8), s9, s10, s11, selS b9 (.pointer (some ⟨X1, 3, none⟩)) (s12), selS b10 (.slice a2 n2 c2) (s13), s14, selS b12 (.pointer (some ⟨X1, 4, none⟩)) (s15), selS b13 (.string bd) (s16), s17, s18], defers := [] } w := by
  refine wpOp_step (o := { dst := some 9, op := Op.fieldAddr 25 (Operand.tmp 1) 2, type := 0, pos := "l10_request.go:380", after := #[], guard := none }) rfl (fun K hK => ?_)
  replace hK := hid hK
  go_simp
  exact hK.out _ _ ⟨b0, b1, b2, b3, b4, b5, true, false, false, b9, b10, false, b12, b13, false, false, false, aQ, cQ, BQ, aH, cH, BH, rfl, rfl, hB, hx1, hx2, hoq, hoh, hap, hst, hkm, hkp, hkb, hk1, hk2⟩
set_option maxRecDepth 20000 in
set_option maxHeartbeats 1000000 in
theorem clr_s7 {Q : Exit → Act → World → Prop} (w0 : World) (X1 X2 : Nat) (mt pt bd : ByteArray) (a1 : Option Addr) (n1 c1 : Nat) (o1 : Nat → Hp) (a2 : Option Addr) (n2 c2 : Nat) (o2 : Nat → Hp) (s0 s3 s4 s5 s6 s7 s8 s9 s10 s11 s12 s13 s14 s15 s16 s17 s18 : Value) (b0 b1 b2 b3 b4 b5 b9 b10 b12 b13 : Bool) (aQ : Option Addr) (cQ : Nat) (BQ : Nat) (aH : Option Addr) (cH : Nat) (BH : Nat) (w : World) (hB : Below w0.heap.size w0 w) (hx1 : RowAt w X1 25 #[.string mt, .string pt, .slice a1 n1 c1, .slice a2 n2 c2, .string bd]) (hx2 : RowAt w X2 25 (cond false #[.string mt, .string pt, .slice aQ n1 cQ, .slice aH n2 cH, .string bd] #[.string ⟨#[]⟩, .string ⟨#[]⟩, .slice none 0 0, .slice none 0 0, .string ⟨#[]⟩])) (hoq : false = true → OwnHp w BQ (.slice aQ n1 cQ) (hpList o1 n1) ∧ w0.heap.size ≤ BQ) (hoh : false = true → OwnHp w BH (.slice aH n2 cH) (hpList o2 n2) ∧ w0.heap.size ≤ BH) (hap : false = true → ∀ g, (Value.slice aQ n1 cQ).ownBlock = some g → g < BH) (hst : w0.heap.size ≤ X1 ∧ w0.heap.size ≤ X2 ∧ X1 ≠ X2) (hkm : ∀ wx, Calls Tryz.prog 57 #[.string mt] wx fun e w' => e = .returned (.string mt) ∧ Below wx.heap.size wx w') (hkp : ∀ wx, Calls Tryz.prog 57 #[.string pt] wx fun e w' => e = .returned (.string pt) ∧ Below wx.heap.size wx w') (hkb : ∀ wx, Calls Tryz.prog 57 #[.string bd] wx fun e w' => e = .returned (.string bd) ∧ Below wx.heap.size wx w') (hk1 : ∀ wx, Below w0.heap.size w0 wx → Calls Tryz.prog 42 #[.slice a1 n1 c1] wx fun e w' => (∃ a' c', e = .returned (.slice a' n1 c') ∧ OwnHp w' wx.heap.size (.slice a' n1 c') (hpList o1 n1)) ∧ Below wx.heap.size wx w') (hk2 : ∀ wx, Below w0.heap.size w0 wx → Calls Tryz.prog 42 #[.slice a2 n2 c2] wx fun e w' => (∃ a' c', e = .returned (.slice a' n2 c') ∧ OwnHp w' wx.heap.size (.slice a' n2 c') (hpList o2 n2)) ∧ Below wx.heap.size wx w') :
    wpOp Tryz.prog clrO Q 7 (clrI w0 X1 X2 mt pt bd a1 n1 c1 o1 a2 n2 c2 o2 s0 s3 s4 s5 s6 s7 s8 s9 s10 s11 s12 s13 s14 s15 s16 s17 s18 #[b0, b1, b2, b3, b4, b5, true, true, false, b9, b10, false, b12, b13, false, false, false]) { tmps := #[s0, .pointer (some ⟨X1, 0, none⟩), .pointer (some ⟨X2, 0, none⟩), selS b0 (.pointer (some ⟨X1, 0, none⟩)) (s3), selS b1 (.string mt) (s4), selS b2 (.string mt) (s5), selS b3 (.pointer (some ⟨X1, 1, none⟩)) (s6), selS b4 (.string pt) (s7), selS b5 (.string pt) (s8), .pointer (some ⟨X1, 2, none⟩), s10, s11, selS b9 (.pointer (some ⟨X1, 3, none⟩)) (s12), selS b10 (.slice a2 n2 c2) (s13), s14, selS b12 (.pointer (some ⟨X1, 4, none⟩)) (s15), selS b13 (.string bd) (s16), s17, s18], defers := [] } w := by
  have q0 := hx1.cell 0
  have q1 := hx1.cell 1
  have q2 := hx1.cell 2
  have q3 := hx1.cell 3
  have q4 := hx1.cell 4
  refine wpOp_step (o := { dst := some 10, op := Op.load 23 (Operand.tmp 9), type := 23, pos := "l10_request.go:380", after := #[{ on := 6, ground := Ground.data }], guard := none }) rfl (fun K hK => ?_)
  replace hK := hid hK
  go_simp
  exact hK.out _ _ ⟨b0, b1, b2, b3, b4, b5, true, true, false, b9, b10, false, b12, b13, false, false, false, aQ, cQ, BQ, aH, cH, BH, rfl, rfl, hB, hx1, hx2, hoq, hoh, hap, hst, hkm, hkp, hkb, hk1, hk2⟩
set_option maxRecDepth 20000 in
set_option maxHeartbeats 1000000 in
theorem clr_s8 {Q : Exit → Act → World → Prop} (w0 : World) (X1 X2 : Nat) (mt pt bd : ByteArray) (a1 : Option Addr) (n1 c1 : Nat) (o1 : Nat → Hp) (a2 : Option Addr) (n2 c2 : Nat) (o2 : Nat → Hp) (s0 s3 s4 s5 s6 s7 s8 s9 s10 s11 s12 s13 s14 s15 s16 s17 s18 : Value) (b9 b10 b12 b13 : Bool) (aQ : Option Addr) (cQ : Nat) (BQ : Nat) (aH : Option Addr) (cH : Nat) (BH : Nat) (w : World) (hB : Below w0.heap.size w0 w) (hx1 : RowAt w X1 25 #[.string mt, .string pt, .slice a1 n1 c1, .slice a2 n2 c2, .string bd]) (hx2 : RowAt w X2 25 (cond false #[.string mt, .string pt, .slice aQ n1 cQ, .slice aH n2 cH, .string bd] #[.string ⟨#[]⟩, .string ⟨#[]⟩, .slice none 0 0, .slice none 0 0, .string ⟨#[]⟩])) (hoq : false = true → OwnHp w BQ (.slice aQ n1 cQ) (hpList o1 n1) ∧ w0.heap.size ≤ BQ) (hoh : false = true → OwnHp w BH (.slice aH n2 cH) (hpList o2 n2) ∧ w0.heap.size ≤ BH) (hap : false = true → ∀ g, (Value.slice aQ n1 cQ).ownBlock = some g → g < BH) (hst : w0.heap.size ≤ X1 ∧ w0.heap.size ≤ X2 ∧ X1 ≠ X2) (hkm : ∀ wx, Calls Tryz.prog 57 #[.string mt] wx fun e w' => e = .returned (.string mt) ∧ Below wx.heap.size wx w') (hkp : ∀ wx, Calls Tryz.prog 57 #[.string pt] wx fun e w' => e = .returned (.string pt) ∧ Below wx.heap.size wx w') (hkb : ∀ wx, Calls Tryz.prog 57 #[.string bd] wx fun e w' => e = .returned (.string bd) ∧ Below wx.heap.size wx w') (hk1 : ∀ wx, Below w0.heap.size w0 wx → Calls Tryz.prog 42 #[.slice a1 n1 c1] wx fun e w' => (∃ a' c', e = .returned (.slice a' n1 c') ∧ OwnHp w' wx.heap.size (.slice a' n1 c') (hpList o1 n1)) ∧ Below wx.heap.size wx w') (hk2 : ∀ wx, Below w0.heap.size w0 wx → Calls Tryz.prog 42 #[.slice a2 n2 c2] wx fun e w' => (∃ a' c', e = .returned (.slice a' n2 c') ∧ OwnHp w' wx.heap.size (.slice a' n2 c') (hpList o2 n2)) ∧ Below wx.heap.size wx w') :
    wpOp Tryz.prog clrO Q 8 (clrI w0 X1 X2 mt pt bd a1 n1 c1 o1 a2 n2 c2 o2 s0 s3 s4 s5 s6 s7 s8 s9 s10 s11 s12 s13 s14 s15 s16 s17 s18 #[true, true, true, true, true, true, true, true, true, b9, b10, false, b12, b13, false, false, false]) { tmps := #[s0, .pointer (some ⟨X1, 0, none⟩), .pointer (some ⟨X2, 0, none⟩), .pointer (some ⟨X1, 0, none⟩), .string mt, .string mt, .pointer (some ⟨X1, 1, none⟩), .string pt, .string pt, .pointer (some ⟨X1, 2, none⟩), .slice a1 n1 c1, s11, selS b9 (.pointer (some ⟨X1, 3, none⟩)) (s12), selS b10 (.slice a2 n2 c2) (s13), s14, selS b12 (.pointer (some ⟨X1, 4, none⟩)) (s15), selS b13 (.string bd) (s16), s17, s18], defers := [] } w := by
  refine wpOp_step (o := { dst := some 11, op := Op.call { callee := Callee.value (Operand.func 42), args := #[Operand.tmp 10], argTypes := #[23] }, type := 23, pos := "l10_request.go:383", after := #[{ on := 7, ground := Ground.data }, { on := 5, ground := Ground.chain }], guard := none }) rfl (fun K hK => ?_)
  replace hK := hid hK
  go_simp
  refine (hk1 _ hB).mono ?_
  rintro e w2 ⟨⟨a3, c3, rfl, hO3⟩, hb2⟩
  dsimp only
  exact hK.out _ _ ⟨true, true, true, true, true, true, true, true, true, b9, b10, false, b12, b13, false, false, false, a3, c3, w.heap.size, aH, cH, BH, rfl, rfl, hB.trans (hb2.mono hB.size), RowAt.nxS hb2 hx1, RowAt.nxS hb2 hx2, fun _ => ⟨hO3, hB.size⟩, fun h => Bool.noConfusion h, fun h => Bool.noConfusion h, hst, hkm, hkp, hkb, hk1, hk2⟩
set_option maxRecDepth 20000 in
set_option maxHeartbeats 1000000 in
theorem clr_s9 {Q : Exit → Act → World → Prop} (w0 : World) (X1 X2 : Nat) (mt pt bd : ByteArray) (a1 : Option Addr) (n1 c1 : Nat) (o1 : Nat → Hp) (a2 : Option Addr) (n2 c2 : Nat) (o2 : Nat → Hp) (s0 s3 s4 s5 s6 s7 s8 s9 s10 s11 s12 s13 s14 s15 s16 s17 s18 : Value) (b0 b1 b2 b3 b4 b5 b6 b7 b8 b12 b13 : Bool) (aQ : Option Addr) (cQ : Nat) (BQ : Nat) (aH : Option Addr) (cH : Nat) (BH : Nat) (w : World) (hB : Below w0.heap.size w0 w) (hx1 : RowAt w X1 25 #[.string mt, .string pt, .slice a1 n1 c1, .slice a2 n2 c2, .string bd]) (hx2 : RowAt w X2 25 (cond false #[.string mt, .string pt, .slice aQ n1 cQ, .slice aH n2 cH, .string bd] #[.string ⟨#[]⟩, .string ⟨#[]⟩, .slice none 0 0, .slice none 0 0, .string ⟨#[]⟩])) (hoq : b8 = true → OwnHp w BQ (.slice aQ n1 cQ) (hpList o1 n1) ∧ w0.heap.size ≤ BQ) (hoh : false = true → OwnHp w BH (.slice aH n2 cH) (hpList o2 n2) ∧ w0.heap.size ≤ BH) (hap : false = true → ∀ g, (Value.slice aQ n1 cQ).ownBlock = some g → g < BH) (hst : w0.heap.size ≤ X1 ∧ w0.heap.size ≤ X2 ∧ X1 ≠ X2) (hkm : ∀ wx, Calls Tryz.prog 57 #[.string mt] wx fun e w' => e = .returned (.string mt) ∧ Below wx.heap.size wx w') (hkp : ∀ wx, Calls Tryz.prog 57 #[.string pt] wx fun e w' => e = .returned (.string pt) ∧ Below wx.heap.size wx w') (hkb : ∀ wx, Calls Tryz.prog 57 #[.string bd] wx fun e w' => e = .returned (.string bd) ∧ Below wx.heap.size wx w') (hk1 : ∀ wx, Below w0.heap.size w0 wx → Calls Tryz.prog 42 #[.slice a1 n1 c1] wx fun e w' => (∃ a' c', e = .returned (.slice a' n1 c') ∧ OwnHp w' wx.heap.size (.slice a' n1 c') (hpList o1 n1)) ∧ Below wx.heap.size wx w') (hk2 : ∀ wx, Below w0.heap.size w0 wx → Calls Tryz.prog 42 #[.slice a2 n2 c2] wx fun e w' => (∃ a' c', e = .returned (.slice a' n2 c') ∧ OwnHp w' wx.heap.size (.slice a' n2 c') (hpList o2 n2)) ∧ Below wx.heap.size wx w') :
    wpOp Tryz.prog clrO Q 9 (clrI w0 X1 X2 mt pt bd a1 n1 c1 o1 a2 n2 c2 o2 s0 s3 s4 s5 s6 s7 s8 s9 s10 s11 s12 s13 s14 s15 s16 s17 s18 #[b0, b1, b2, b3, b4, b5, b6, b7, b8, true, false, false, b12, b13, false, false, false]) { tmps := #[s0, .pointer (some ⟨X1, 0, none⟩), .pointer (some ⟨X2, 0, none⟩), selS b0 (.pointer (some ⟨X1, 0, none⟩)) (s3), selS b1 (.string mt) (s4), selS b2 (.string mt) (s5), selS b3 (.pointer (some ⟨X1, 1, none⟩)) (s6), selS b4 (.string pt) (s7), selS b5 (.string pt) (s8), selS b6 (.pointer (some ⟨X1, 2, none⟩)) (s9), selS b7 (.slice a1 n1 c1) (s10), selS b8 (.slice aQ n1 cQ) (s11), s12, s13, s14, selS b12 (.pointer (some ⟨X1, 4, none⟩)) (s15), selS b13 (.string bd) (s16), s17, s18], defers := [] } w := by
  refine wpOp_step (o := { dst := some 12, op := Op.fieldAddr 25 (Operand.tmp 1) 3, type := 0, pos := "l10_request.go:380", after := #[], guard := none }) rfl (fun K hK => ?_)
  replace hK := hid hK
  go_simp
  exact hK.out _ _ ⟨b0, b1, b2, b3, b4, b5, b6, b7, b8, true, false, false, b12, b13, false, false, false, aQ, cQ, BQ, aH, cH, BH, rfl, rfl, hB, hx1, hx2, hoq, hoh, hap, hst, hkm, hkp, hkb, hk1, hk2⟩
set_option maxRecDepth 20000 in
set_option maxHeartbeats 1000000 in
theorem clr_s10 {Q : Exit → Act → World → Prop} (w0 : World) (X1 X2 : Nat) (mt pt bd : ByteArray) (a1 : Option Addr) (n1 c1 : Nat) (o1 : Nat → Hp) (a2 : Option Addr) (n2 c2 : Nat) (o2 : Nat → Hp) (s0 s3 s4 s5 s6 s7 s8 s9 s10 s11 s12 s13 s14 s15 s16 s17 s18 : Value) (b0 b1 b2 b3 b4 b5 b6 b7 b8 b12 b13 : Bool) (aQ : Option Addr) (cQ : Nat) (BQ : Nat) (aH : Option Addr) (cH : Nat) (BH : Nat) (w : World) (hB : Below w0.heap.size w0 w) (hx1 : RowAt w X1 25 #[.string mt, .string pt, .slice a1 n1 c1, .slice a2 n2 c2, .string bd]) (hx2 : RowAt w X2 25 (cond false #[.string mt, .string pt, .slice aQ n1 cQ, .slice aH n2 cH, .string bd] #[.string ⟨#[]⟩, .string ⟨#[]⟩, .slice none 0 0, .slice none 0 0, .string ⟨#[]⟩])) (hoq : b8 = true → OwnHp w BQ (.slice aQ n1 cQ) (hpList o1 n1) ∧ w0.heap.size ≤ BQ) (hoh : false = true → OwnHp w BH (.slice aH n2 cH) (hpList o2 n2) ∧ w0.heap.size ≤ BH) (hap : false = true → ∀ g, (Value.slice aQ n1 cQ).ownBlock = some g → g < BH) (hst : w0.heap.size ≤ X1 ∧ w0.heap.size ≤ X2 ∧ X1 ≠ X2) (hkm : ∀ wx, Calls Tryz.prog 57 #[.string mt] wx fun e w' => e = .returned (.string mt) ∧ Below wx.heap.size wx w') (hkp : ∀ wx, Calls Tryz.prog 57 #[.string pt] wx fun e w' => e = .returned (.string pt) ∧ Below wx.heap.size wx w') (hkb : ∀ wx, Calls Tryz.prog 57 #[.string bd] wx fun e w' => e = .returned (.string bd) ∧ Below wx.heap.size wx w') (hk1 : ∀ wx, Below w0.heap.size w0 wx → Calls Tryz.prog 42 #[.slice a1 n1 c1] wx fun e w' => (∃ a' c', e = .returned (.slice a' n1 c') ∧ OwnHp w' wx.heap.size (.slice a' n1 c') (hpList o1 n1)) ∧ Below wx.heap.size wx w') (hk2 : ∀ wx, Below w0.heap.size w0 wx → Calls Tryz.prog 42 #[.slice a2 n2 c2] wx fun e w' => (∃ a' c', e = .returned (.slice a' n2 c') ∧ OwnHp w' wx.heap.size (.slice a' n2 c') (hpList o2 n2)) ∧ Below wx.heap.size wx w') :
    wpOp Tryz.prog clrO Q 10 (clrI w0 X1 X2 mt pt bd a1 n1 c1 o1 a2 n2 c2 o2 s0 s3 s4 s5 s6 s7 s8 s9 s10 s11 s12 s13 s14 s15 s16 s17 s18 #[b0, b1, b2, b3, b4, b5, b6, b7, b8, true, true, false, b12, b13, false, false, false]) { tmps := #[s0, .pointer (some ⟨X1, 0, none⟩), .pointer (some ⟨X2, 0, none⟩), selS b0 (.pointer (some ⟨X1, 0, none⟩)) (s3), selS b1 (.string mt) (s4), selS b2 (.string mt) (s5), selS b3 (.pointer (some ⟨X1, 1, none⟩)) (s6), selS b4 (.string pt) (s7), selS b5 (.string pt) (s8), selS b6 (.pointer (some ⟨X1, 2, none⟩)) (s9), selS b7 (.slice a1 n1 c1) (s10), selS b8 (.slice aQ n1 cQ) (s11), .pointer (some ⟨X1, 3, none⟩), s13, s14, selS b12 (.pointer (some ⟨X1, 4, none⟩)) (s15), selS b13 (.string bd) (s16), s17, s18], defers := [] } w := by
  have q0 := hx1.cell 0
  have q1 := hx1.cell 1
  have q2 := hx1.cell 2
  have q3 := hx1.cell 3
  have q4 := hx1.cell 4
  refine wpOp_step (o := { dst := some 13, op := Op.load 23 (Operand.tmp 12), type := 23, pos := "l10_request.go:380", after := #[{ on := 9, ground := Ground.data }], guard := none }) rfl (fun K hK => ?_)
  replace hK := hid hK
  go_simp
  exact hK.out _ _ ⟨b0, b1, b2, b3, b4, b5, b6, b7, b8, true, true, false, b12, b13, false, false, false, aQ, cQ, BQ, aH, cH, BH, rfl, rfl, hB, hx1, hx2, hoq, hoh, hap, hst, hkm, hkp, hkb, hk1, hk2⟩
set_option maxRecDepth 20000 in
set_option maxHeartbeats 1000000 in
theorem clr_s11 {Q : Exit → Act → World → Prop} (w0 : World) (X1 X2 : Nat) (mt pt bd : ByteArray) (a1 : Option Addr) (n1 c1 : Nat) (o1 : Nat → Hp) (a2 : Option Addr) (n2 c2 : Nat) (o2 : Nat → Hp) (s0 s3 s4 s5 s6 s7 s8 s9 s10 s11 s12 s13 s14 s15 s16 s17 s18 : Value) (b12 b13 : Bool) (aQ : Option Addr) (cQ : Nat) (BQ : Nat) (aH : Option Addr) (cH : Nat) (BH : Nat) (w : World) (hB : Below w0.heap.size w0 w) (hx1 : RowAt w X1 25 #[.string mt, .string pt, .slice a1 n1 c1, .slice a2 n2 c2, .string bd]) (hx2 : RowAt w X2 25 (cond false #[.string mt, .string pt, .slice aQ n1 cQ, .slice aH n2 cH, .string bd] #[.string ⟨#[]⟩, .string ⟨#[]⟩, .slice none 0 0, .slice none 0 0, .string ⟨#[]⟩])) (hoq : true = true → OwnHp w BQ (.slice aQ n1 cQ) (hpList o1 n1) ∧ w0.heap.size ≤ BQ) (hoh : false = true → OwnHp w BH (.slice aH n2 cH) (hpList o2 n2) ∧ w0.heap.size ≤ BH) (hap : false = true → ∀ g, (Value.slice aQ n1 cQ).ownBlock = some g → g < BH) (hst : w0.heap.size ≤ X1 ∧ w0.heap.size ≤ X2 ∧ X1 ≠ X2) (hkm : ∀ wx, Calls Tryz.prog 57 #[.string mt] wx fun e w' => e = .returned (.string mt) ∧ Below wx.heap.size wx w') (hkp : ∀ wx, Calls Tryz.prog 57 #[.string pt] wx fun e w' => e = .returned (.string pt) ∧ Below wx.heap.size wx w') (hkb : ∀ wx, Calls Tryz.prog 57 #[.string bd] wx fun e w' => e = .returned (.string bd) ∧ Below wx.heap.size wx w') (hk1 : ∀ wx, Below w0.heap.size w0 wx → Calls Tryz.prog 42 #[.slice a1 n1 c1] wx fun e w' => (∃ a' c', e = .returned (.slice a' n1 c') ∧ OwnHp w' wx.heap.size (.slice a' n1 c') (hpList o1 n1)) ∧ Below wx.heap.size wx w') (hk2 : ∀ wx, Below w0.heap.size w0 wx → Calls Tryz.prog 42 #[.slice a2 n2 c2] wx fun e w' => (∃ a' c', e = .returned (.slice a' n2 c') ∧ OwnHp w' wx.heap.size (.slice a' n2 c') (hpList o2 n2)) ∧ Below wx.heap.size wx w') :
    wpOp Tryz.prog clrO Q 11 (clrI w0 X1 X2 mt pt bd a1 n1 c1 o1 a2 n2 c2 o2 s0 s3 s4 s5 s6 s7 s8 s9 s10 s11 s12 s13 s14 s15 s16 s17 s18 #[true, true, true, true, true, true, true, true, true, true, true, true, b12, b13, false, false, false]) { tmps := #[s0, .pointer (some ⟨X1, 0, none⟩), .pointer (some ⟨X2, 0, none⟩), .pointer (some ⟨X1, 0, none⟩), .string mt, .string mt, .pointer (some ⟨X1, 1, none⟩), .string pt, .string pt, .pointer (some ⟨X1, 2, none⟩), .slice a1 n1 c1, .slice aQ n1 cQ, .pointer (some ⟨X1, 3, none⟩), .slice a2 n2 c2, s14, selS b12 (.pointer (some ⟨X1, 4, none⟩)) (s15), selS b13 (.string bd) (s16), s17, s18], defers := [] } w := by
  refine wpOp_step (o := { dst := some 14, op := Op.call { callee := Callee.value (Operand.func 42), args := #[Operand.tmp 13], argTypes := #[23] }, type := 23, pos := "l10_request.go:384", after := #[{ on := 10, ground := Ground.data }, { on := 8, ground := Ground.chain }], guard := none }) rfl (fun K hK => ?_)
  replace hK := hid hK
  go_simp
  refine (hk2 _ hB).mono ?_
  rintro e w2 ⟨⟨a3, c3, rfl, hO3⟩, hb2⟩
  dsimp only
  exact hK.out _ _ ⟨true, true, true, true, true, true, true, true, true, true, true, true, b12, b13, false, false, false, aQ, cQ, BQ, a3, c3, w.heap.size, rfl, rfl, hB.trans (hb2.mono hB.size), RowAt.nxS hb2 hx1, RowAt.nxS hb2 hx2, fun h => ⟨OwnHp.next hb2 (hoq h).1, (hoq h).2⟩, fun _ => ⟨hO3, hB.size⟩, fun _ g hg => (World.ownsRow.lt (hoq rfl).1 g hg).2, hst, hkm, hkp, hkb, hk1, hk2⟩
set_option maxRecDepth 20000 in
set_option maxHeartbeats 1000000 in
theorem clr_s12 {Q : Exit → Act → World → Prop} (w0 : World) (X1 X2 : Nat) (mt pt bd : ByteArray) (a1 : Option Addr) (n1 c1 : Nat) (o1 : Nat → Hp) (a2 : Option Addr) (n2 c2 : Nat) (o2 : Nat → Hp) (s0 s3 s4 s5 s6 s7 s8 s9 s10 s11 s12 s13 s14 s15 s16 s17 s18 : Value) (b0 b1 b2 b3 b4 b5 b6 b7 b8 b9 b10 b11 : Bool) (aQ : Option Addr) (cQ : Nat) (BQ : Nat) (aH : Option Addr) (cH : Nat) (BH : Nat) (w : World) (hB : Below w0.heap.size w0 w) (hx1 : RowAt w X1 25 #[.string mt, .string pt, .slice a1 n1 c1, .slice a2 n2 c2, .string bd]) (hx2 : RowAt w X2 25 (cond false #[.string mt, .string pt, .slice aQ n1 cQ, .slice aH n2 cH, .string bd] #[.string ⟨#[]⟩, .string ⟨#[]⟩, .slice none 0 0, .slice none 0 0, .string ⟨#[]⟩])) (hoq : b8 = true → OwnHp w BQ (.slice aQ n1 cQ) (hpList o1 n1) ∧ w0.heap.size ≤ BQ) (hoh : b11 = true → OwnHp w BH (.slice aH n2 cH) (hpList o2 n2) ∧ w0.heap.size ≤ BH) (hap : b11 = true → ∀ g, (Value.slice aQ n1 cQ).ownBlock = some g → g < BH) (hst : w0.heap.size ≤ X1 ∧ w0.heap.size ≤ X2 ∧ X1 ≠ X2) (hkm : ∀ wx, Calls Tryz.prog 57 #[.string mt] wx fun e w' => e = .returned (.string mt) ∧ Below wx.heap.size wx w') (hkp : ∀ wx, Calls Tryz.prog 57 #[.string pt] wx fun e w' => e = .returned (.string pt) ∧ Below wx.heap.size wx w') (hkb : ∀ wx, Calls Tryz.prog 57 #[.string bd] wx fun e w' => e = .returned (.string bd) ∧ Below wx.heap.size wx w') (hk1 : ∀ wx, Below w0.heap.size w0 wx → Calls Tryz.prog 42 #[.slice a1 n1 c1] wx fun e w' => (∃ a' c', e = .returned (.slice a' n1 c') ∧ OwnHp w' wx.heap.size (.slice a' n1 c') (hpList o1 n1)) ∧ Below wx.heap.size wx w') (hk2 : ∀ wx, Below w0.heap.size w0 wx → Calls Tryz.prog 42 #[.slice a2 n2 c2] wx fun e w' => (∃ a' c', e = .returned (.slice a' n2 c') ∧ OwnHp w' wx.heap.size (.slice a' n2 c') (hpList o2 n2)) ∧ Below wx.heap.size wx w') :
    wpOp Tryz.prog clrO Q 12 (clrI w0 X1 X2 mt pt bd a1 n1 c1 o1 a2 n2 c2 o2 s0 s3 s4 s5 s6 s7 s8 s9 s10 s11 s12 s13 s14 s15 s16 s17 s18 #[b0, b1, b2, b3, b4, b5, b6, b7, b8, b9, b10, b11, true, false, false, false, false]) { tmps := #[s0, .pointer (some ⟨X1, 0, none⟩), .pointer (some ⟨X2, 0, none⟩), selS b0 (.pointer (some ⟨X1, 0, none⟩)) (s3), selS b1 (.string mt) (s4), selS b2 (.string mt) (s5), selS b3 (.pointer (some ⟨X1, 1, none⟩)) (s6), selS b4 (.string pt) (s7), selS b5 (.string pt) (s8), selS b6 (.pointer (some ⟨X1, 2, none⟩)) (s9), selS b7 (.slice a1 n1 c1) (s10), selS b8 (.slice aQ n1 cQ) (s11), selS b9 (.pointer (some ⟨X1, 3, none⟩)) (s12), selS b10 (.slice a2 n2 c2) (s13), selS b11 (.slice aH n2 cH) (s14), s15, s16, s17, s18], defers := [] } w := by
  refine wpOp_step (o := { dst := some 15, op := Op.fieldAddr 25 (Operand.tmp 1) 4, type := 0, pos := "l10_request.go:380", after := #[], guard := none }) rfl (fun K hK => ?_)
  replace hK := hid hK
  go_simp
  exact hK.out _ _ ⟨b0, b1, b2, b3, b4, b5, b6, b7, b8, b9, b10, b11, true, false, false, false, false, aQ, cQ, BQ, aH, cH, BH, rfl, rfl, hB, hx1, hx2, hoq, hoh, hap, hst, hkm, hkp, hkb, hk1, hk2⟩
set_option maxRecDepth 20000 in
set_option maxHeartbeats 1000000 in
theorem clr_s13 {Q : Exit → Act → World → Prop} (w0 : World) (X1 X2 : Nat) (mt pt bd : ByteArray) (a1 : Option Addr) (n1 c1 : Nat) (o1 : Nat → Hp) (a2 : Option Addr) (n2 c2 : Nat) (o2 : Nat → Hp) (s0 s3 s4 s5 s6 s7 s8 s9 s10 s11 s12 s13 s14 s15 s16 s17 s18 : Value) (b0 b1 b2 b3 b4 b5 b6 b7 b8 b9 b10 b11 : Bool) (aQ : Option Addr) (cQ : Nat) (BQ : Nat) (aH : Option Addr) (cH : Nat) (BH : Nat) (w : World) (hB : Below w0.heap.size w0 w) (hx1 : RowAt w X1 25 #[.string mt, .string pt, .slice a1 n1 c1, .slice a2 n2 c2, .string bd]) (hx2 : RowAt w X2 25 (cond false #[.string mt, .string pt, .slice aQ n1 cQ, .slice aH n2 cH, .string bd] #[.string ⟨#[]⟩, .string ⟨#[]⟩, .slice none 0 0, .slice none 0 0, .string ⟨#[]⟩])) (hoq : b8 = true → OwnHp w BQ (.slice aQ n1 cQ) (hpList o1 n1) ∧ w0.heap.size ≤ BQ) (hoh : b11 = true → OwnHp w BH (.slice aH n2 cH) (hpList o2 n2) ∧ w0.heap.size ≤ BH) (hap : b11 = true → ∀ g, (Value.slice aQ n1 cQ).ownBlock = some g → g < BH) (hst : w0.heap.size ≤ X1 ∧ w0.heap.size ≤ X2 ∧ X1 ≠ X2) (hkm : ∀ wx, Calls Tryz.prog 57 #[.string mt] wx fun e w' => e = .returned (.string mt) ∧ Below wx.heap.size wx w') (hkp : ∀ wx, Calls Tryz.prog 57 #[.string pt] wx fun e w' => e = .returned (.string pt) ∧ Below wx.heap.size wx w') (hkb : ∀ wx, Calls Tryz.prog 57 #[.string bd] wx fun e w' => e = .returned (.string bd) ∧ Below wx.heap.size wx w') (hk1 : ∀ wx, Below w0.heap.size w0 wx → Calls Tryz.prog 42 #[.slice a1 n1 c1] wx fun e w' => (∃ a' c', e = .returned (.slice a' n1 c') ∧ OwnHp w' wx.heap.size (.slice a' n1 c') (hpList o1 n1)) ∧ Below wx.heap.size wx w') (hk2 : ∀ wx, Below w0.heap.size w0 wx → Calls Tryz.prog 42 #[.slice a2 n2 c2] wx fun e w' => (∃ a' c', e = .returned (.slice a' n2 c') ∧ OwnHp w' wx.heap.size (.slice a' n2 c') (hpList o2 n2)) ∧ Below wx.heap.size wx w') :
    wpOp Tryz.prog clrO Q 13 (clrI w0 X1 X2 mt pt bd a1 n1 c1 o1 a2 n2 c2 o2 s0 s3 s4 s5 s6 s7 s8 s9 s10 s11 s12 s13 s14 s15 s16 s17 s18 #[b0, b1, b2, b3, b4, b5, b6, b7, b8, b9, b10, b11, true, true, false, false, false]) { tmps := #[s0, .pointer (some ⟨X1, 0, none⟩), .pointer (some ⟨X2, 0, none⟩), selS b0 (.pointer (some ⟨X1, 0, none⟩)) (s3), selS b1 (.string mt) (s4), selS b2 (.string mt) (s5), selS b3 (.pointer (some ⟨X1, 1, none⟩)) (s6), selS b4 (.string pt) (s7), selS b5 (.string pt) (s8), selS b6 (.pointer (some ⟨X1, 2, none⟩)) (s9), selS b7 (.slice a1 n1 c1) (s10), selS b8 (.slice aQ n1 cQ) (s11), selS b9 (.pointer (some ⟨X1, 3, none⟩)) (s12), selS b10 (.slice a2 n2 c2) (s13), selS b11 (.slice aH n2 cH) (s14), .pointer (some ⟨X1, 4, none⟩), s16, s17, s18], defers := [] } w := by
  have q0 := hx1.cell 0
  have q1 := hx1.cell 1
  have q2 := hx1.cell 2
  have q3 := hx1.cell 3
  have q4 := hx1.cell 4
  refine wpOp_step (o := { dst := some 16, op := Op.load 9 (Operand.tmp 15), type := 9, pos := "l10_request.go:380", after := #[{ on := 12, ground := Ground.data }], guard := none }) rfl (fun K hK => ?_)
  replace hK := hid hK
  go_simp
  exact hK.out _ _ ⟨b0, b1, b2, b3, b4, b5, b6, b7, b8, b9, b10, b11, true, true, false, false, false, aQ, cQ, BQ, aH, cH, BH, rfl, rfl, hB, hx1, hx2, hoq, hoh, hap, hst, hkm, hkp, hkb, hk1, hk2⟩
set_option maxRecDepth 20000 in
set_option maxHeartbeats 1000000 in
theorem clr_s14 {Q : Exit → Act → World → Prop} (w0 : World) (X1 X2 : Nat) (mt pt bd : ByteArray) (a1 : Option Addr) (n1 c1 : Nat) (o1 : Nat → Hp) (a2 : Option Addr) (n2 c2 : Nat) (o2 : Nat → Hp) (s0 s3 s4 s5 s6 s7 s8 s9 s10 s11 s12 s13 s14 s15 s16 s17 s18 : Value) (aQ : Option Addr) (cQ : Nat) (BQ : Nat) (aH : Option Addr) (cH : Nat) (BH : Nat) (w : World) (hB : Below w0.heap.size w0 w) (hx1 : RowAt w X1 25 #[.string mt, .string pt, .slice a1 n1 c1, .slice a2 n2 c2, .string bd]) (hx2 : RowAt w X2 25 (cond false #[.string mt, .string pt, .slice aQ n1 cQ, .slice aH n2 cH, .string bd] #[.string ⟨#[]⟩, .string ⟨#[]⟩, .slice none 0 0, .slice none 0 0, .string ⟨#[]⟩])) (hoq : true = true → OwnHp w BQ (.slice aQ n1 cQ) (hpList o1 n1) ∧ w0.heap.size ≤ BQ) (hoh : true = true → OwnHp w BH (.slice aH n2 cH) (hpList o2 n2) ∧ w0.heap.size ≤ BH) (hap : true = true → ∀ g, (Value.slice aQ n1 cQ).ownBlock = some g → g < BH) (hst : w0.heap.size ≤ X1 ∧ w0.heap.size ≤ X2 ∧ X1 ≠ X2) (hkm : ∀ wx, Calls Tryz.prog 57 #[.string mt] wx fun e w' => e = .returned (.string mt) ∧ Below wx.heap.size wx w') (hkp : ∀ wx, Calls Tryz.prog 57 #[.string pt] wx fun e w' => e = .returned (.string pt) ∧ Below wx.heap.size wx w') (hkb : ∀ wx, Calls Tryz.prog 57 #[.string bd] wx fun e w' => e = .returned (.string bd) ∧ Below wx.heap.size wx w') (hk1 : ∀ wx, Below w0.heap.size w0 wx → Calls Tryz.prog 42 #[.slice a1 n1 c1] wx fun e w' => (∃ a' c', e = .returned (.slice a' n1 c') ∧ OwnHp w' wx.heap.size (.slice a' n1 c') (hpList o1 n1)) ∧ Below wx.heap.size wx w') (hk2 : ∀ wx, Below w0.heap.size w0 wx → Calls Tryz.prog 42 #[.slice a2 n2 c2] wx fun e w' => (∃ a' c', e = .returned (.slice a' n2 c') ∧ OwnHp w' wx.heap.size (.slice a' n2 c') (hpList o2 n2)) ∧ Below wx.heap.size wx w') :
    wpOp Tryz.prog clrO Q 14 (clrI w0 X1 X2 mt pt bd a1 n1 c1 o1 a2 n2 c2 o2 s0 s3 s4 s5 s6 s7 s8 s9 s10 s11 s12 s13 s14 s15 s16 s17 s18 #[true, true, true, true, true, true, true, true, true, true, true, true, true, true, true, false, false]) { tmps := #[s0, .pointer (some ⟨X1, 0, none⟩), .pointer (some ⟨X2, 0, none⟩), .pointer (some ⟨X1, 0, none⟩), .string mt, .string mt, .pointer (some ⟨X1, 1, none⟩), .string pt, .string pt, .pointer (some ⟨X1, 2, none⟩), .slice a1 n1 c1, .slice aQ n1 cQ, .pointer (some ⟨X1, 3, none⟩), .slice a2 n2 c2, .slice aH n2 cH, .pointer (some ⟨X1, 4, none⟩), .string bd, s17, s18], defers := [] } w := by
  refine wpOp_step (o := { dst := some 17, op := Op.call { callee := Callee.value (Operand.func 57), args := #[Operand.tmp 16], argTypes := #[9] }, type := 9, pos := "l10_request.go:385", after := #[{ on := 13, ground := Ground.data }, { on := 11, ground := Ground.chain }], guard := none }) rfl (fun K hK => ?_)
  replace hK := hid hK
  go_simp
  refine (hkb _).mono ?_
  rintro e w2 ⟨rfl, hb2⟩
  dsimp only
  exact hK.out _ _ ⟨true, true, true, true, true, true, true, true, true, true, true, true, true, true, true, false, false, aQ, cQ, BQ, aH, cH, BH, rfl, rfl, hB.trans (hb2.mono hB.size), RowAt.nxS hb2 hx1, RowAt.nxS hb2 hx2, fun h => ⟨OwnHp.next hb2 (hoq h).1, (hoq h).2⟩, fun h => ⟨OwnHp.next hb2 (hoh h).1, (hoh h).2⟩, hap, hst, hkm, hkp, hkb, hk1, hk2⟩
set_option maxRecDepth 20000 in
set_option maxHeartbeats 1000000 in
theorem clr_s15 {Q : Exit → Act → World → Prop} (w0 : World) (X1 X2 : Nat) (mt pt bd : ByteArray) (a1 : Option Addr) (n1 c1 : Nat) (o1 : Nat → Hp) (a2 : Option Addr) (n2 c2 : Nat) (o2 : Nat → Hp) (s0 s3 s4 s5 s6 s7 s8 s9 s10 s11 s12 s13 s14 s15 s16 s17 s18 : Value) (aQ : Option Addr) (cQ : Nat) (BQ : Nat) (aH : Option Addr) (cH : Nat) (BH : Nat) (w : World) (hB : Below w0.heap.size w0 w) (hx1 : RowAt w X1 25 #[.string mt, .string pt, .slice a1 n1 c1, .slice a2 n2 c2, .string bd]) (hx2 : RowAt w X2 25 (cond false #[.string mt, .string pt, .slice aQ n1 cQ, .slice aH n2 cH, .string bd] #[.string ⟨#[]⟩, .string ⟨#[]⟩, .slice none 0 0, .slice none 0 0, .string ⟨#[]⟩])) (hoq : true = true → OwnHp w BQ (.slice aQ n1 cQ) (hpList o1 n1) ∧ w0.heap.size ≤ BQ) (hoh : true = true → OwnHp w BH (.slice aH n2 cH) (hpList o2 n2) ∧ w0.heap.size ≤ BH) (hap : true = true → ∀ g, (Value.slice aQ n1 cQ).ownBlock = some g → g < BH) (hst : w0.heap.size ≤ X1 ∧ w0.heap.size ≤ X2 ∧ X1 ≠ X2) (hkm : ∀ wx, Calls Tryz.prog 57 #[.string mt] wx fun e w' => e = .returned (.string mt) ∧ Below wx.heap.size wx w') (hkp : ∀ wx, Calls Tryz.prog 57 #[.string pt] wx fun e w' => e = .returned (.string pt) ∧ Below wx.heap.size wx w') (hkb : ∀ wx, Calls Tryz.prog 57 #[.string bd] wx fun e w' => e = .returned (.string bd) ∧ Below wx.heap.size wx w') (hk1 : ∀ wx, Below w0.heap.size w0 wx → Calls Tryz.prog 42 #[.slice a1 n1 c1] wx fun e w' => (∃ a' c', e = .returned (.slice a' n1 c') ∧ OwnHp w' wx.heap.size (.slice a' n1 c') (hpList o1 n1)) ∧ Below wx.heap.size wx w') (hk2 : ∀ wx, Below w0.heap.size w0 wx → Calls Tryz.prog 42 #[.slice a2 n2 c2] wx fun e w' => (∃ a' c', e = .returned (.slice a' n2 c') ∧ OwnHp w' wx.heap.size (.slice a' n2 c') (hpList o2 n2)) ∧ Below wx.heap.size wx w') :
    wpOp Tryz.prog clrO Q 15 (clrI w0 X1 X2 mt pt bd a1 n1 c1 o1 a2 n2 c2 o2 s0 s3 s4 s5 s6 s7 s8 s9 s10 s11 s12 s13 s14 s15 s16 s17 s18 #[true, true, true, true, true, true, true, true, true, true, true, true, true, true, true, true, false]) { tmps := #[s0, .pointer (some ⟨X1, 0, none⟩), .pointer (some ⟨X2, 0, none⟩), .pointer (some ⟨X1, 0, none⟩), .string mt, .string mt, .pointer (some ⟨X1, 1, none⟩), .string pt, .string pt, .pointer (some ⟨X1, 2, none⟩), .slice a1 n1 c1, .slice aQ n1 cQ, .pointer (some ⟨X1, 3, none⟩), .slice a2 n2 c2, .slice aH n2 cH, .pointer (some ⟨X1, 4, none⟩), .string bd, .string bd, s18], defers := [] } w := by
  refine wpOp_step (o := { dst := some 18, op := Op.build 25 #[(0, Operand.tmp 5), (1, Operand.tmp 8), (2, Operand.tmp 11), (3, Operand.tmp 14), (4, Operand.tmp 17)], type := 25, pos := "l10_request.go:380", after := #[{ on := 2, ground := Ground.data }, { on := 5, ground := Ground.data }, { on := 8, ground := Ground.data }, { on := 11, ground := Ground.data }, { on := 14, ground := Ground.data }], guard := none }) rfl (fun K hK => ?_)
  replace hK := hid hK
  go_simp
  exact hK.out _ _ ⟨true, true, true, true, true, true, true, true, true, true, true, true, true, true, true, true, false, aQ, cQ, BQ, aH, cH, BH, rfl, rfl, hB, hx1, hx2, hoq, hoh, hap, hst, hkm, hkp, hkb, hk1, hk2⟩
set_option maxRecDepth 20000 in
set_option maxHeartbeats 1000000 in
theorem clr_s16 {Q : Exit → Act → World → Prop} (w0 : World) (X1 X2 : Nat) (mt pt bd : ByteArray) (a1 : Option Addr) (n1 c1 : Nat) (o1 : Nat → Hp) (a2 : Option Addr) (n2 c2 : Nat) (o2 : Nat → Hp) (s0 s3 s4 s5 s6 s7 s8 s9 s10 s11 s12 s13 s14 s15 s16 s17 s18 : Value) (aQ : Option Addr) (cQ : Nat) (BQ : Nat) (aH : Option Addr) (cH : Nat) (BH : Nat) (w : World) (hB : Below w0.heap.size w0 w) (hx1 : RowAt w X1 25 #[.string mt, .string pt, .slice a1 n1 c1, .slice a2 n2 c2, .string bd]) (hx2 : RowAt w X2 25 (cond false #[.string mt, .string pt, .slice aQ n1 cQ, .slice aH n2 cH, .string bd] #[.string ⟨#[]⟩, .string ⟨#[]⟩, .slice none 0 0, .slice none 0 0, .string ⟨#[]⟩])) (hoq : true = true → OwnHp w BQ (.slice aQ n1 cQ) (hpList o1 n1) ∧ w0.heap.size ≤ BQ) (hoh : true = true → OwnHp w BH (.slice aH n2 cH) (hpList o2 n2) ∧ w0.heap.size ≤ BH) (hap : true = true → ∀ g, (Value.slice aQ n1 cQ).ownBlock = some g → g < BH) (hst : w0.heap.size ≤ X1 ∧ w0.heap.size ≤ X2 ∧ X1 ≠ X2) (hkm : ∀ wx, Calls Tryz.prog 57 #[.string mt] wx fun e w' => e = .returned (.string mt) ∧ Below wx.heap.size wx w') (hkp : ∀ wx, Calls Tryz.prog 57 #[.string pt] wx fun e w' => e = .returned (.string pt) ∧ Below wx.heap.size wx w') (hkb : ∀ wx, Calls Tryz.prog 57 #[.string bd] wx fun e w' => e = .returned (.string bd) ∧ Below wx.heap.size wx w') (hk1 : ∀ wx, Below w0.heap.size w0 wx → Calls Tryz.prog 42 #[.slice a1 n1 c1] wx fun e w' => (∃ a' c', e = .returned (.slice a' n1 c') ∧ OwnHp w' wx.heap.size (.slice a' n1 c') (hpList o1 n1)) ∧ Below wx.heap.size wx w') (hk2 : ∀ wx, Below w0.heap.size w0 wx → Calls Tryz.prog 42 #[.slice a2 n2 c2] wx fun e w' => (∃ a' c', e = .returned (.slice a' n2 c') ∧ OwnHp w' wx.heap.size (.slice a' n2 c') (hpList o2 n2)) ∧ Below wx.heap.size wx w') :
    wpOp Tryz.prog clrO Q 16 (clrI w0 X1 X2 mt pt bd a1 n1 c1 o1 a2 n2 c2 o2 s0 s3 s4 s5 s6 s7 s8 s9 s10 s11 s12 s13 s14 s15 s16 s17 s18 #[true, true, true, true, true, true, true, true, true, true, true, true, true, true, true, true, true]) { tmps := #[s0, .pointer (some ⟨X1, 0, none⟩), .pointer (some ⟨X2, 0, none⟩), .pointer (some ⟨X1, 0, none⟩), .string mt, .string mt, .pointer (some ⟨X1, 1, none⟩), .string pt, .string pt, .pointer (some ⟨X1, 2, none⟩), .slice a1 n1 c1, .slice aQ n1 cQ, .pointer (some ⟨X1, 3, none⟩), .slice a2 n2 c2, .slice aH n2 cH, .pointer (some ⟨X1, 4, none⟩), .string bd, .string bd, .agg #[.string mt, .string pt, .slice aQ n1 cQ, .slice aH n2 cH, .string bd]], defers := [] } w := by
  have h2 : RowAt w X2 25 #[.string ⟨#[]⟩, .string ⟨#[]⟩, .slice none 0 0, .slice none 0 0, .string ⟨#[]⟩] := hx2
  have q0 := h2.cell 0
  have q1 := h2.cell 1
  have q2 := h2.cell 2
  have q3 := h2.cell 3
  have q4 := h2.cell 4
  have f0 := h2.free 0
  have f1 := h2.free 1
  have f2 := h2.free 2
  have f3 := h2.free 3
  have f4 := h2.free 4
  have W1 := OwnHp.neRowS (hoq rfl).1 h2 (by decide)
  have W2 := OwnHp.neRowS (hoh rfl).1 h2 (by decide)
  refine wpOp_step (o := { dst := none, op := Op.store 25 (Operand.tmp 2) (Operand.tmp 18), type := 0, pos := "l10_request.go:380", after := #[{ on := 15, ground := Ground.data }, { on := 14, ground := Ground.chain }, { on := 0, ground := Ground.phase }, { on := 1, ground := Ground.phase }, { on := 2, ground := Ground.phase }, { on := 3, ground := Ground.phase }, { on := 4, ground := Ground.phase }, { on := 5, ground := Ground.phase }, { on := 6, ground := Ground.phase }, { on := 7, ground := Ground.phase }, { on := 8, ground := Ground.phase }, { on := 9, ground := Ground.phase }, { on := 10, ground := Ground.phase }, { on := 11, ground := Ground.phase }, { on := 12, ground := Ground.phase }, { on := 13, ground := Ground.phase }, { on := 14, ground := Ground.phase }, { on := 15, ground := Ground.phase }], guard := none }) rfl (fun K hK => ?_)
  replace hK := hid hK
  go_simp
  exact hK.out _ _ ⟨true, true, true, true, true, true, true, true, true, true, true, true, true, true, true, true, true, aQ, cQ, BQ, aH, cH, BH, rfl, rfl, (((((hB.setCell (by simp; omega) _).setCell (by simp; omega) _).setCell (by simp; omega) _).setCell (by simp; omega) _).setCell (by simp; omega) _), (((((hx1.other ⟨X2, 0, none⟩ _ (by simp; omega)).other ⟨X2, 1, none⟩ _ (by simp; omega)).other ⟨X2, 2, none⟩ _ (by simp; omega)).other ⟨X2, 3, none⟩ _ (by simp; omega)).other ⟨X2, 4, none⟩ _ (by simp; omega)), (((((h2.set 0 _).set 1 _).set 2 _).set 3 _).set 4 _), fun _ => ⟨(OwnHp.setCellS (k := 4) (OwnHp.setCellS (k := 3) (OwnHp.setCellS (k := 2) (OwnHp.setCellS (k := 1) (OwnHp.setCellS (k := 0) (hoq rfl).1 W1) W1) W1) W1) W1), (hoq rfl).2⟩, fun _ => ⟨(OwnHp.setCellS (k := 4) (OwnHp.setCellS (k := 3) (OwnHp.setCellS (k := 2) (OwnHp.setCellS (k := 1) (OwnHp.setCellS (k := 0) (hoh rfl).1 W2) W2) W2) W2) W2), (hoh rfl).2⟩, hap, hst, hkm, hkp, hkb, hk1, hk2⟩
set_option maxRecDepth 20000 in
set_option maxHeartbeats 2000000 in
theorem clr_step {Q : Exit → Act → World → Prop} (w0 : World) (X1 X2 : Nat) (mt pt bd : ByteArray) (a1 : Option Addr) (n1 c1 : Nat) (o1 : Nat → Hp) (a2 : Option Addr) (n2 c2 : Nat) (o2 : Nat → Hp) (s0 s3 s4 s5 s6 s7 s8 s9 s10 s11 s12 s13 s14 s15 s16 s17 s18 : Value) (l : Array Bool) (f : Act) (w : World) (hC : Closed clrO l) (hI : clrI w0 X1 X2 mt pt bd a1 n1 c1 o1 a2 n2 c2 o2 s0 s3 s4 s5 s6 s7 s8 s9 s10 s11 s12 s13 s14 s15 s16 s17 s18 l f w) (i : Nat) (h0 : l.getD i true = false) (o : Oper) (ho : clrO[i]? = some o) (h1 : ∀ e ∈ o.after, Region.binds .any e = true → l.getD e.on false = true) : wpOp Tryz.prog clrO Q i (clrI w0 X1 X2 mt pt bd a1 n1 c1 o1 a2 n2 c2 o2 s0 s3 s4 s5 s6 s7 s8 s9 s10 s11 s12 s13 s14 s15 s16 s17 s18 (l.setIfInBounds i true)) f w := by
  obtain ⟨b0, b1, b2, b3, b4, b5, b6, b7, b8, b9, b10, b11, b12, b13, b14, b15, b16, aQ, cQ, BQ, aH, cH, BH, rfl, rfl, hB, hx1, hx2, hoq, hoh, hap, hst, hkm, hkp, hkb, hk1, hk2⟩ := hI
  have hi : i < 17 := by
    rcases Nat.lt_or_ge i 17 with h | h
    · exact h
    · rw [show clrO[i]? = none from Array.getElem?_eq_none h] at ho; cases ho
  rcases (by omega : i = 0 ∨ i = 1 ∨ i = 2 ∨ i = 3 ∨ i = 4 ∨ i = 5 ∨ i = 6 ∨ i = 7 ∨ i = 8 ∨ i = 9 ∨ i = 10 ∨ i = 11 ∨ i = 12 ∨ i = 13 ∨ i = 14 ∨ i = 15 ∨ i = 16) with rfl | rfl | rfl | rfl | rfl | rfl | rfl | rfl | rfl | rfl | rfl | rfl | rfl | rfl | rfl | rfl | rfl
  · obtain rfl : clro0 = o := Option.some.inj ho
    obtain rfl : b0 = false := h0
    obtain rfl : b1 = false := by
      cases b1 with
      | false => rfl
      | true => exact Bool.noConfusion (show false = true from hC 1 clro1 rfl rfl ⟨0, .data⟩ (by simp [clro1]) rfl)
    obtain rfl : b2 = false := by
      cases b2 with
      | false => rfl
      | true => exact Bool.noConfusion (show false = true from hC 2 clro2 rfl rfl ⟨1, .data⟩ (by simp [clro2]) rfl)
    obtain rfl : b5 = false := by
      cases b5 with
      | false => rfl
      | true => exact Bool.noConfusion (show false = true from hC 5 clro5 rfl rfl ⟨2, .chain⟩ (by simp [clro5]) rfl)
    obtain rfl : b8 = false := by
      cases b8 with
      | false => rfl
      | true => exact Bool.noConfusion (show false = true from hC 8 clro8 rfl rfl ⟨5, .chain⟩ (by simp [clro8]) rfl)
    obtain rfl : b11 = false := by
      cases b11 with
      | false => rfl
      | true => exact Bool.noConfusion (show false = true from hC 11 clro11 rfl rfl ⟨8, .chain⟩ (by simp [clro11]) rfl)
    obtain rfl : b14 = false := by
      cases b14 with
      | false => rfl
      | true => exact Bool.noConfusion (show false = true from hC 14 clro14 rfl rfl ⟨11, .chain⟩ (by simp [clro14]) rfl)
    obtain rfl : b15 = false := by
      cases b15 with
      | false => rfl
      | true => exact Bool.noConfusion (show false = true from hC 15 clro15 rfl rfl ⟨2, .data⟩ (by simp [clro15]) rfl)
    obtain rfl : b16 = false := by
      cases b16 with
      | false => rfl
      | true => exact Bool.noConfusion (show false = true from hC 16 clro16 rfl rfl ⟨0, .phase⟩ (by simp [clro16]) rfl)
    exact clr_s0 w0 X1 X2 mt pt bd a1 n1 c1 o1 a2 n2 c2 o2 s0 s3 s4 s5 s6 s7 s8 s9 s10 s11 s12 s13 s14 s15 s16 s17 s18 b3 b4 b6 b7 b9 b10 b12 b13 aQ cQ BQ aH cH BH w hB hx1 hx2 hoq hoh hap hst hkm hkp hkb hk1 hk2
  · obtain rfl : clro1 = o := Option.some.inj ho
    obtain rfl : b1 = false := h0
    obtain rfl : b0 = true := h1 ⟨0, .data⟩ (by simp [clro1]) rfl
    obtain rfl : b2 = false := by
      cases b2 with
      | false => rfl
      | true => exact Bool.noConfusion (show false = true from hC 2 clro2 rfl rfl ⟨1, .data⟩ (by simp [clro2]) rfl)
    obtain rfl : b5 = false := by
      cases b5 with
      | false => rfl
      | true => exact Bool.noConfusion (show false = true from hC 5 clro5 rfl rfl ⟨2, .chain⟩ (by simp [clro5]) rfl)
    obtain rfl : b8 = false := by
      cases b8 with
      | false => rfl
      | true => exact Bool.noConfusion (show false = true from hC 8 clro8 rfl rfl ⟨5, .chain⟩ (by simp [clro8]) rfl)
    obtain rfl : b11 = false := by
      cases b11 with
      | false => rfl
      | true => exact Bool.noConfusion (show false = true from hC 11 clro11 rfl rfl ⟨8, .chain⟩ (by simp [clro11]) rfl)
    obtain rfl : b14 = false := by
      cases b14 with
      | false => rfl
      | true => exact Bool.noConfusion (show false = true from hC 14 clro14 rfl rfl ⟨11, .chain⟩ (by simp [clro14]) rfl)
    obtain rfl : b15 = false := by
      cases b15 with
      | false => rfl
      | true => exact Bool.noConfusion (show false = true from hC 15 clro15 rfl rfl ⟨2, .data⟩ (by simp [clro15]) rfl)
    obtain rfl : b16 = false := by
      cases b16 with
      | false => rfl
      | true => exact Bool.noConfusion (show false = true from hC 16 clro16 rfl rfl ⟨1, .phase⟩ (by simp [clro16]) rfl)
    exact clr_s1 w0 X1 X2 mt pt bd a1 n1 c1 o1 a2 n2 c2 o2 s0 s3 s4 s5 s6 s7 s8 s9 s10 s11 s12 s13 s14 s15 s16 s17 s18 b3 b4 b6 b7 b9 b10 b12 b13 aQ cQ BQ aH cH BH w hB hx1 hx2 hoq hoh hap hst hkm hkp hkb hk1 hk2
  · obtain rfl : clro2 = o := Option.some.inj ho
    obtain rfl : b2 = false := h0
    obtain rfl : b1 = true := h1 ⟨1, .data⟩ (by simp [clro2]) rfl
    obtain rfl : b0 = true := hC 1 clro1 rfl rfl ⟨0, .data⟩ (by simp [clro1]) rfl
    obtain rfl : b5 = false := by
      cases b5 with
      | false => rfl
      | true => exact Bool.noConfusion (show false = true from hC 5 clro5 rfl rfl ⟨2, .chain⟩ (by simp [clro5]) rfl)
    obtain rfl : b8 = false := by
      cases b8 with
      | false => rfl
      | true => exact Bool.noConfusion (show false = true from hC 8 clro8 rfl rfl ⟨5, .chain⟩ (by simp [clro8]) rfl)
    obtain rfl : b11 = false := by
      cases b11 with
      | false => rfl
      | true => exact Bool.noConfusion (show false = true from hC 11 clro11 rfl rfl ⟨8, .chain⟩ (by simp [clro11]) rfl)
    obtain rfl : b14 = false := by
      cases b14 with
      | false => rfl
      | true => exact Bool.noConfusion (show false = true from hC 14 clro14 rfl rfl ⟨11, .chain⟩ (by simp [clro14]) rfl)
    obtain rfl : b15 = false := by
      cases b15 with
      | false => rfl
      | true => exact Bool.noConfusion (show false = true from hC 15 clro15 rfl rfl ⟨2, .data⟩ (by simp [clro15]) rfl)
    obtain rfl : b16 = false := by
      cases b16 with
      | false => rfl
      | true => exact Bool.noConfusion (show false = true from hC 16 clro16 rfl rfl ⟨2, .phase⟩ (by simp [clro16]) rfl)
    exact clr_s2 w0 X1 X2 mt pt bd a1 n1 c1 o1 a2 n2 c2 o2 s0 s3 s4 s5 s6 s7 s8 s9 s10 s11 s12 s13 s14 s15 s16 s17 s18 b3 b4 b6 b7 b9 b10 b12 b13 aQ cQ BQ aH cH BH w hB hx1 hx2 hoq hoh hap hst hkm hkp hkb hk1 hk2
  · obtain rfl : clro3 = o := Option.some.inj ho
    obtain rfl : b3 = false := h0
    obtain rfl : b4 = false := by
      cases b4 with
      | false => rfl
      | true => exact Bool.noConfusion (show false = true from hC 4 clro4 rfl rfl ⟨3, .data⟩ (by simp [clro4]) rfl)
    obtain rfl : b5 = false := by
      cases b5 with
      | false => rfl
      | true => exact Bool.noConfusion (show false = true from hC 5 clro5 rfl rfl ⟨4, .data⟩ (by simp [clro5]) rfl)
    obtain rfl : b8 = false := by
      cases b8 with
      | false => rfl
      | true => exact Bool.noConfusion (show false = true from hC 8 clro8 rfl rfl ⟨5, .chain⟩ (by simp [clro8]) rfl)
    obtain rfl : b11 = false := by
      cases b11 with
      | false => rfl
      | true => exact Bool.noConfusion (show false = true from hC 11 clro11 rfl rfl ⟨8, .chain⟩ (by simp [clro11]) rfl)
    obtain rfl : b14 = false := by
      cases b14 with
      | false => rfl
      | true => exact Bool.noConfusion (show false = true from hC 14 clro14 rfl rfl ⟨11, .chain⟩ (by simp [clro14]) rfl)
    obtain rfl : b15 = false := by
      cases b15 with
      | false => rfl
      | true => exact Bool.noConfusion (show false = true from hC 15 clro15 rfl rfl ⟨5, .data⟩ (by simp [clro15]) rfl)
    obtain rfl : b16 = false := by
      cases b16 with
      | false => rfl
      | true => exact Bool.noConfusion (show false = true from hC 16 clro16 rfl rfl ⟨3, .phase⟩ (by simp [clro16]) rfl)
    exact clr_s3 w0 X1 X2 mt pt bd a1 n1 c1 o1 a2 n2 c2 o2 s0 s3 s4 s5 s6 s7 s8 s9 s10 s11 s12 s13 s14 s15 s16 s17 s18 b0 b1 b2 b6 b7 b9 b10 b12 b13 aQ cQ BQ aH cH BH w hB hx1 hx2 hoq hoh hap hst hkm hkp hkb hk1 hk2
  · obtain rfl : clro4 = o := Option.some.inj ho
    obtain rfl : b4 = false := h0
    obtain rfl : b3 = true := h1 ⟨3, .data⟩ (by simp [clro4]) rfl
    obtain rfl : b5 = false := by
      cases b5 with
      | false => rfl
      | true => exact Bool.noConfusion (show false = true from hC 5 clro5 rfl rfl ⟨4, .data⟩ (by simp [clro5]) rfl)
    obtain rfl : b8 = false := by
      cases b8 with
      | false => rfl
      | true => exact Bool.noConfusion (show false = true from hC 8 clro8 rfl rfl ⟨5, .chain⟩ (by simp [clro8]) rfl)
    obtain rfl : b11 = false := by
      cases b11 with
      | false => rfl
      | true => exact Bool.noConfusion (show false = true from hC 11 clro11 rfl rfl ⟨8, .chain⟩ (by simp [clro11]) rfl)
    obtain rfl : b14 = false := by
      cases b14 with
      | false => rfl
      | true => exact Bool.noConfusion (show false = true from hC 14 clro14 rfl rfl ⟨11, .chain⟩ (by simp [clro14]) rfl)
    obtain rfl : b15 = false := by
      cases b15 with
      | false => rfl
      | true => exact Bool.noConfusion (show false = true from hC 15 clro15 rfl rfl ⟨5, .data⟩ (by simp [clro15]) rfl)
    obtain rfl : b16 = false := by
      cases b16 with
      | false => rfl
      | true => exact Bool.noConfusion (show false = true from hC 16 clro16 rfl rfl ⟨4, .phase⟩ (by simp [clro16]) rfl)
    exact clr_s4 w0 X1 X2 mt pt bd a1 n1 c1 o1 a2 n2 c2 o2 s0 s3 s4 s5 s6 s7 s8 s9 s10 s11 s12 s13 s14 s15 s16 s17 s18 b0 b1 b2 b6 b7 b9 b10 b12 b13 aQ cQ BQ aH cH BH w hB hx1 hx2 hoq hoh hap hst hkm hkp hkb hk1 hk2
  · obtain rfl : clro5 = o := Option.some.inj ho
    obtain rfl : b5 = false := h0
    obtain rfl : b4 = true := h1 ⟨4, .data⟩ (by simp [clro5]) rfl
    obtain rfl : b2 = true := h1 ⟨2, .chain⟩ (by simp [clro5]) rfl
    obtain rfl : b3 = true := hC 4 clro4 rfl rfl ⟨3, .data⟩ (by simp [clro4]) rfl
    obtain rfl : b1 = true := hC 2 clro2 rfl rfl ⟨1, .data⟩ (by simp [clro2]) rfl
    obtain rfl : b0 = true := hC 1 clro1 rfl rfl ⟨0, .data⟩ (by simp [clro1]) rfl
    obtain rfl : b8 = false := by
      cases b8 with
      | false => rfl
      | true => exact Bool.noConfusion (show false = true from hC 8 clro8 rfl rfl ⟨5, .chain⟩ (by simp [clro8]) rfl)
    obtain rfl : b11 = false := by
      cases b11 with
      | false => rfl
      | true => exact Bool.noConfusion (show false = true from hC 11 clro11 rfl rfl ⟨8, .chain⟩ (by simp [clro11]) rfl)
    obtain rfl : b14 = false := by
      cases b14 with
      | false => rfl
      | true => exact Bool.noConfusion (show false = true from hC 14 clro14 rfl rfl ⟨11, .chain⟩ (by simp [clro14]) rfl)
    obtain rfl : b15 = false := by
      cases b15 with
      | false => rfl
      | true => exact Bool.noConfusion (show false = true from hC 15 clro15 rfl rfl ⟨5, .data⟩ (by simp [clro15]) rfl)
    obtain rfl : b16 = false := by
      cases b16 with
      | false => rfl
      | true => exact Bool.noConfusion (show false = true from hC 16 clro16 rfl rfl ⟨5, .phase⟩ (by simp [clro16]) rfl)
    exact clr_s5 w0 X1 X2 mt pt bd a1 n1 c1 o1 a2 n2 c2 o2 s0 s3 s4 s5 s6 s7 s8 s9 s10 s11 s12 s13 s14 s15 s16 s17 s18 b6 b7 b9 b10 b12 b13 aQ cQ BQ aH cH BH w hB hx1 hx2 hoq hoh hap hst hkm hkp hkb hk1 hk2
  · obtain rfl : clro6 = o := Option.some.inj ho
    obtain rfl : b6 = false := h0
    obtain rfl : b7 = false := by
      cases b7 with
      | false => rfl
      | true => exact Bool.noConfusion (show false = true from hC 7 clro7 rfl rfl ⟨6, .data⟩ (by simp [clro7]) rfl)
    obtain rfl : b8 = false := by
      cases b8 with
      | false => rfl
      | true => exact Bool.noConfusion (show false = true from hC 8 clro8 rfl rfl ⟨7, .data⟩ (by simp [clro8]) rfl)
    obtain rfl : b11 = false := by
      cases b11 with
      | false => rfl
      | true => exact Bool.noConfusion (show false = true from hC 11 clro11 rfl rfl ⟨8, .chain⟩ (by simp [clro11]) rfl)
    obtain rfl : b14 = false := by
      cases b14 with
      | false => rfl
      | true => exact Bool.noConfusion (show false = true from hC 14 clro14 rfl rfl ⟨11, .chain⟩ (by simp [clro14]) rfl)
    obtain rfl : b15 = false := by
      cases b15 with
      | false => rfl
      | true => exact Bool.noConfusion (show false = true from hC 15 clro15 rfl rfl ⟨8, .data⟩ (by simp [clro15]) rfl)
    obtain rfl : b16 = false := by
      cases b16 with
      | false => rfl
      | true => exact Bool.noConfusion (show false = true from hC 16 clro16 rfl rfl ⟨6, .phase⟩ (by simp [clro16]) rfl)
    exact clr_s6 w0 X1 X2 mt pt bd a1 n1 c1 o1 a2 n2 c2 o2 s0 s3 s4 s5 s6 s7 s8 s9 s10 s11 s12 s13 s14 s15 s16 s17 s18 b0 b1 b2 b3 b4 b5 b9 b10 b12 b13 aQ cQ BQ aH cH BH w hB hx1 hx2 hoq hoh hap hst hkm hkp hkb hk1 hk2
  · obtain rfl : clro7 = o := Option.some.inj ho
    obtain rfl : b7 = false := h0
    obtain rfl : b6 = true := h1 ⟨6, .data⟩ (by simp [clro7]) rfl
    obtain rfl : b8 = false := by
      cases b8 with
      | false => rfl
      | true => exact Bool.noConfusion (show false = true from hC 8 clro8 rfl rfl ⟨7, .data⟩ (by simp [clro8]) rfl)
    obtain rfl : b11 = false := by
      cases b11 with
      | false => rfl
      | true => exact Bool.noConfusion (show false = true from hC 11 clro11 rfl rfl ⟨8, .chain⟩ (by simp [clro11]) rfl)
    obtain rfl : b14 = false := by
      cases b14 with
      | false => rfl
      | true => exact Bool.noConfusion (show false = true from hC 14 clro14 rfl rfl ⟨11, .chain⟩ (by simp [clro14]) rfl)
    obtain rfl : b15 = false := by
      cases b15 with
      | false => rfl
      | true => exact Bool.noConfusion (show false = true from hC 15 clro15 rfl rfl ⟨8, .data⟩ (by simp [clro15]) rfl)
    obtain rfl : b16 = false := by
      cases b16 with
      | false => rfl
      | true => exact Bool.noConfusion (show false = true from hC 16 clro16 rfl rfl ⟨7, .phase⟩ (by simp [clro16]) rfl)
    exact clr_s7 w0 X1 X2 mt pt bd a1 n1 c1 o1 a2 n2 c2 o2 s0 s3 s4 s5 s6 s7 s8 s9 s10 s11 s12 s13 s14 s15 s16 s17 s18 b0 b1 b2 b3 b4 b5 b9 b10 b12 b13 aQ cQ BQ aH cH BH w hB hx1 hx2 hoq hoh hap hst hkm hkp hkb hk1 hk2
  · obtain rfl : clro8 = o := Option.some.inj ho
    obtain rfl : b8 = false := h0
    obtain rfl : b7 = true := h1 ⟨7, .data⟩ (by simp [clro8]) rfl
    obtain rfl : b5 = true := h1 ⟨5, .chain⟩ (by simp [clro8]) rfl
    obtain rfl : b6 = true := hC 7 clro7 rfl rfl ⟨6, .data⟩ (by simp [clro7]) rfl
    obtain rfl : b2 = true := hC 5 clro5 rfl rfl ⟨2, .chain⟩ (by simp [clro5]) rfl
    obtain rfl : b4 = true := hC 5 clro5 rfl rfl ⟨4, .data⟩ (by simp [clro5]) rfl
    obtain rfl : b3 = true := hC 4 clro4 rfl rfl ⟨3, .data⟩ (by simp [clro4]) rfl
    obtain rfl : b1 = true := hC 2 clro2 rfl rfl ⟨1, .data⟩ (by simp [clro2]) rfl
    obtain rfl : b0 = true := hC 1 clro1 rfl rfl ⟨0, .data⟩ (by simp [clro1]) rfl
    obtain rfl : b11 = false := by
      cases b11 with
      | false => rfl
      | true => exact Bool.noConfusion (show false = true from hC 11 clro11 rfl rfl ⟨8, .chain⟩ (by simp [clro11]) rfl)
    obtain rfl : b14 = false := by
      cases b14 with
      | false => rfl
      | true => exact Bool.noConfusion (show false = true from hC 14 clro14 rfl rfl ⟨11, .chain⟩ (by simp [clro14]) rfl)
    obtain rfl : b15 = false := by
      cases b15 with
      | false => rfl
      | true => exact Bool.noConfusion (show false = true from hC 15 clro15 rfl rfl ⟨8, .data⟩ (by simp [clro15]) rfl)
    obtain rfl : b16 = false := by
      cases b16 with
      | false => rfl
      | true => exact Bool.noConfusion (show false = true from hC 16 clro16 rfl rfl ⟨8, .phase⟩ (by simp [clro16]) rfl)
    exact clr_s8 w0 X1 X2 mt pt bd a1 n1 c1 o1 a2 n2 c2 o2 s0 s3 s4 s5 s6 s7 s8 s9 s10 s11 s12 s13 s14 s15 s16 s17 s18 b9 b10 b12 b13 aQ cQ BQ aH cH BH w hB hx1 hx2 hoq hoh hap hst hkm hkp hkb hk1 hk2
  · obtain rfl : clro9 = o := Option.some.inj ho
    obtain rfl : b9 = false := h0
    obtain rfl : b10 = false := by
      cases b10 with
      | false => rfl
      | true => exact Bool.noConfusion (show false = true from hC 10 clro10 rfl rfl ⟨9, .data⟩ (by simp [clro10]) rfl)
    obtain rfl : b11 = false := by
      cases b11 with
      | false => rfl
      | true => exact Bool.noConfusion (show false = true from hC 11 clro11 rfl rfl ⟨10, .data⟩ (by simp [clro11]) rfl)
    obtain rfl : b14 = false := by
      cases b14 with
      | false => rfl
      | true => exact Bool.noConfusion (show false = true from hC 14 clro14 rfl rfl ⟨11, .chain⟩ (by simp [clro14]) rfl)
    obtain rfl : b15 = false := by
      cases b15 with
      | false => rfl
      | true => exact Bool.noConfusion (show false = true from hC 15 clro15 rfl rfl ⟨11, .data⟩ (by simp [clro15]) rfl)
    obtain rfl : b16 = false := by
      cases b16 with
      | false => rfl
      | true => exact Bool.noConfusion (show false = true from hC 16 clro16 rfl rfl ⟨9, .phase⟩ (by simp [clro16]) rfl)
    exact clr_s9 w0 X1 X2 mt pt bd a1 n1 c1 o1 a2 n2 c2 o2 s0 s3 s4 s5 s6 s7 s8 s9 s10 s11 s12 s13 s14 s15 s16 s17 s18 b0 b1 b2 b3 b4 b5 b6 b7 b8 b12 b13 aQ cQ BQ aH cH BH w hB hx1 hx2 hoq hoh hap hst hkm hkp hkb hk1 hk2
  · obtain rfl : clro10 = o := Option.some.inj ho
    obtain rfl : b10 = false := h0
    obtain rfl : b9 = true := h1 ⟨9, .data⟩ (by simp [clro10]) rfl
    obtain rfl : b11 = false := by
      cases b11 with
      | false => rfl
      | true => exact Bool.noConfusion (show false = true from hC 11 clro11 rfl rfl ⟨10, .data⟩ (by simp [clro11]) rfl)
    obtain rfl : b14 = false := by
      cases b14 with
      | false => rfl
      | true => exact Bool.noConfusion (show false = true from hC 14 clro14 rfl rfl ⟨11, .chain⟩ (by simp [clro14]) rfl)
    obtain rfl : b15 = false := by
      cases b15 with
      | false => rfl
      | true => exact Bool.noConfusion (show false = true from hC 15 clro15 rfl rfl ⟨11, .data⟩ (by simp [clro15]) rfl)
    obtain rfl : b16 = false := by
      cases b16 with
      | false => rfl
      | true => exact Bool.noConfusion (show false = true from hC 16 clro16 rfl rfl ⟨10, .phase⟩ (by simp [clro16]) rfl)
    exact clr_s10 w0 X1 X2 mt pt bd a1 n1 c1 o1 a2 n2 c2 o2 s0 s3 s4 s5 s6 s7 s8 s9 s10 s11 s12 s13 s14 s15 s16 s17 s18 b0 b1 b2 b3 b4 b5 b6 b7 b8 b12 b13 aQ cQ BQ aH cH BH w hB hx1 hx2 hoq hoh hap hst hkm hkp hkb hk1 hk2
  · obtain rfl : clro11 = o := Option.some.inj ho
    obtain rfl : b11 = false := h0
    obtain rfl : b10 = true := h1 ⟨10, .data⟩ (by simp [clro11]) rfl
    obtain rfl : b8 = true := h1 ⟨8, .chain⟩ (by simp [clro11]) rfl
    obtain rfl : b9 = true := hC 10 clro10 rfl rfl ⟨9, .data⟩ (by simp [clro10]) rfl
    obtain rfl : b5 = true := hC 8 clro8 rfl rfl ⟨5, .chain⟩ (by simp [clro8]) rfl
    obtain rfl : b7 = true := hC 8 clro8 rfl rfl ⟨7, .data⟩ (by simp [clro8]) rfl
    obtain rfl : b6 = true := hC 7 clro7 rfl rfl ⟨6, .data⟩ (by simp [clro7]) rfl
    obtain rfl : b2 = true := hC 5 clro5 rfl rfl ⟨2, .chain⟩ (by simp [clro5]) rfl
    obtain rfl : b4 = true := hC 5 clro5 rfl rfl ⟨4, .data⟩ (by simp [clro5]) rfl
    obtain rfl : b3 = true := hC 4 clro4 rfl rfl ⟨3, .data⟩ (by simp [clro4]) rfl
    obtain rfl : b1 = true := hC 2 clro2 rfl rfl ⟨1, .data⟩ (by simp [clro2]) rfl
    obtain rfl : b0 = true := hC 1 clro1 rfl rfl ⟨0, .data⟩ (by simp [clro1]) rfl
    obtain rfl : b14 = false := by
      cases b14 with
      | false => rfl
      | true => exact Bool.noConfusion (show false = true from hC 14 clro14 rfl rfl ⟨11, .chain⟩ (by simp [clro14]) rfl)
    obtain rfl : b15 = false := by
      cases b15 with
      | false => rfl
      | true => exact Bool.noConfusion (show false = true from hC 15 clro15 rfl rfl ⟨11, .data⟩ (by simp [clro15]) rfl)
    obtain rfl : b16 = false := by
      cases b16 with
      | false => rfl
      | true => exact Bool.noConfusion (show false = true from hC 16 clro16 rfl rfl ⟨11, .phase⟩ (by simp [clro16]) rfl)
    exact clr_s11 w0 X1 X2 mt pt bd a1 n1 c1 o1 a2 n2 c2 o2 s0 s3 s4 s5 s6 s7 s8 s9 s10 s11 s12 s13 s14 s15 s16 s17 s18 b12 b13 aQ cQ BQ aH cH BH w hB hx1 hx2 hoq hoh hap hst hkm hkp hkb hk1 hk2
  · obtain rfl : clro12 = o := Option.some.inj ho
    obtain rfl : b12 = false := h0
    obtain rfl : b13 = false := by
      cases b13 with
      | false => rfl
      | true => exact Bool.noConfusion (show false = true from hC 13 clro13 rfl rfl ⟨12, .data⟩ (by simp [clro13]) rfl)
    obtain rfl : b14 = false := by
      cases b14 with
      | false => rfl
      | true => exact Bool.noConfusion (show false = true from hC 14 clro14 rfl rfl ⟨13, .data⟩ (by simp [clro14]) rfl)
    obtain rfl : b15 = false := by
      cases b15 with
      | false => rfl
      | true => exact Bool.noConfusion (show false = true from hC 15 clro15 rfl rfl ⟨14, .data⟩ (by simp [clro15]) rfl)
    obtain rfl : b16 = false := by
      cases b16 with
      | false => rfl
      | true => exact Bool.noConfusion (show false = true from hC 16 clro16 rfl rfl ⟨12, .phase⟩ (by simp [clro16]) rfl)
    exact clr_s12 w0 X1 X2 mt pt bd a1 n1 c1 o1 a2 n2 c2 o2 s0 s3 s4 s5 s6 s7 s8 s9 s10 s11 s12 s13 s14 s15 s16 s17 s18 b0 b1 b2 b3 b4 b5 b6 b7 b8 b9 b10 b11 aQ cQ BQ aH cH BH w hB hx1 hx2 hoq hoh hap hst hkm hkp hkb hk1 hk2
  · obtain rfl : clro13 = o := Option.some.inj ho
    obtain rfl : b13 = false := h0
    obtain rfl : b12 = true := h1 ⟨12, .data⟩ (by simp [clro13]) rfl
    obtain rfl : b14 = false := by
      cases b14 with
      | false => rfl
      | true => exact Bool.noConfusion (show false = true from hC 14 clro14 rfl rfl ⟨13, .data⟩ (by simp [clro14]) rfl)
    obtain rfl : b15 = false := by
      cases b15 with
      | false => rfl
      | true => exact Bool.noConfusion (show false = true from hC 15 clro15 rfl rfl ⟨14, .data⟩ (by simp [clro15]) rfl)
    obtain rfl : b16 = false := by
      cases b16 with
      | false => rfl
      | true => exact Bool.noConfusion (show false = true from hC 16 clro16 rfl rfl ⟨13, .phase⟩ (by simp [clro16]) rfl)
    exact clr_s13 w0 X1 X2 mt pt bd a1 n1 c1 o1 a2 n2 c2 o2 s0 s3 s4 s5 s6 s7 s8 s9 s10 s11 s12 s13 s14 s15 s16 s17 s18 b0 b1 b2 b3 b4 b5 b6 b7 b8 b9 b10 b11 aQ cQ BQ aH cH BH w hB hx1 hx2 hoq hoh hap hst hkm hkp hkb hk1 hk2
  · obtain rfl : clro14 = o := Option.some.inj ho
    obtain rfl : b14 = false := h0
    obtain rfl : b13 = true := h1 ⟨13, .data⟩ (by simp [clro14]) rfl
    obtain rfl : b11 = true := h1 ⟨11, .chain⟩ (by simp [clro14]) rfl
    obtain rfl : b12 = true := hC 13 clro13 rfl rfl ⟨12, .data⟩ (by simp [clro13]) rfl
    obtain rfl : b8 = true := hC 11 clro11 rfl rfl ⟨8, .chain⟩ (by simp [clro11]) rfl
    obtain rfl : b10 = true := hC 11 clro11 rfl rfl ⟨10, .data⟩ (by simp [clro11]) rfl
    obtain rfl : b9 = true := hC 10 clro10 rfl rfl ⟨9, .data⟩ (by simp [clro10]) rfl
    obtain rfl : b5 = true := hC 8 clro8 rfl rfl ⟨5, .chain⟩ (by simp [clro8]) rfl
    obtain rfl : b7 = true := hC 8 clro8 rfl rfl ⟨7, .data⟩ (by simp [clro8]) rfl
    obtain rfl : b6 = true := hC 7 clro7 rfl rfl ⟨6, .data⟩ (by simp [clro7]) rfl
    obtain rfl : b2 = true := hC 5 clro5 rfl rfl ⟨2, .chain⟩ (by simp [clro5]) rfl
    obtain rfl : b4 = true := hC 5 clro5 rfl rfl ⟨4, .data⟩ (by simp [clro5]) rfl
    obtain rfl : b3 = true := hC 4 clro4 rfl rfl ⟨3, .data⟩ (by simp [clro4]) rfl
    obtain rfl : b1 = true := hC 2 clro2 rfl rfl ⟨1, .data⟩ (by simp [clro2]) rfl
    obtain rfl : b0 = true := hC 1 clro1 rfl rfl ⟨0, .data⟩ (by simp [clro1]) rfl
    obtain rfl : b15 = false := by
      cases b15 with
      | false => rfl
      | true => exact Bool.noConfusion (show false = true from hC 15 clro15 rfl rfl ⟨14, .data⟩ (by simp [clro15]) rfl)
    obtain rfl : b16 = false := by
      cases b16 with
      | false => rfl
      | true => exact Bool.noConfusion (show false = true from hC 16 clro16 rfl rfl ⟨14, .chain⟩ (by simp [clro16]) rfl)
    exact clr_s14 w0 X1 X2 mt pt bd a1 n1 c1 o1 a2 n2 c2 o2 s0 s3 s4 s5 s6 s7 s8 s9 s10 s11 s12 s13 s14 s15 s16 s17 s18  aQ cQ BQ aH cH BH w hB hx1 hx2 hoq hoh hap hst hkm hkp hkb hk1 hk2
  · obtain rfl : clro15 = o := Option.some.inj ho
    obtain rfl : b15 = false := h0
    obtain rfl : b14 = true := h1 ⟨14, .data⟩ (by simp [clro15]) rfl
    obtain rfl : b11 = true := h1 ⟨11, .data⟩ (by simp [clro15]) rfl
    obtain rfl : b8 = true := h1 ⟨8, .data⟩ (by simp [clro15]) rfl
    obtain rfl : b5 = true := h1 ⟨5, .data⟩ (by simp [clro15]) rfl
    obtain rfl : b2 = true := h1 ⟨2, .data⟩ (by simp [clro15]) rfl
    obtain rfl : b13 = true := hC 14 clro14 rfl rfl ⟨13, .data⟩ (by simp [clro14]) rfl
    obtain rfl : b12 = true := hC 13 clro13 rfl rfl ⟨12, .data⟩ (by simp [clro13]) rfl
    obtain rfl : b10 = true := hC 11 clro11 rfl rfl ⟨10, .data⟩ (by simp [clro11]) rfl
    obtain rfl : b9 = true := hC 10 clro10 rfl rfl ⟨9, .data⟩ (by simp [clro10]) rfl
    obtain rfl : b7 = true := hC 8 clro8 rfl rfl ⟨7, .data⟩ (by simp [clro8]) rfl
    obtain rfl : b6 = true := hC 7 clro7 rfl rfl ⟨6, .data⟩ (by simp [clro7]) rfl
    obtain rfl : b4 = true := hC 5 clro5 rfl rfl ⟨4, .data⟩ (by simp [clro5]) rfl
    obtain rfl : b3 = true := hC 4 clro4 rfl rfl ⟨3, .data⟩ (by simp [clro4]) rfl
    obtain rfl : b1 = true := hC 2 clro2 rfl rfl ⟨1, .data⟩ (by simp [clro2]) rfl
    obtain rfl : b0 = true := hC 1 clro1 rfl rfl ⟨0, .data⟩ (by simp [clro1]) rfl
    obtain rfl : b16 = false := by
      cases b16 with
      | false => rfl
      | true => exact Bool.noConfusion (show false = true from hC 16 clro16 rfl rfl ⟨15, .data⟩ (by simp [clro16]) rfl)
    exact clr_s15 w0 X1 X2 mt pt bd a1 n1 c1 o1 a2 n2 c2 o2 s0 s3 s4 s5 s6 s7 s8 s9 s10 s11 s12 s13 s14 s15 s16 s17 s18  aQ cQ BQ aH cH BH w hB hx1 hx2 hoq hoh hap hst hkm hkp hkb hk1 hk2
  · obtain rfl : clro16 = o := Option.some.inj ho
    obtain rfl : b16 = false := h0
    obtain rfl : b15 = true := h1 ⟨15, .data⟩ (by simp [clro16]) rfl
    obtain rfl : b14 = true := h1 ⟨14, .chain⟩ (by simp [clro16]) rfl
    obtain rfl : b13 = true := h1 ⟨13, .phase⟩ (by simp [clro16]) rfl
    obtain rfl : b12 = true := h1 ⟨12, .phase⟩ (by simp [clro16]) rfl
    obtain rfl : b11 = true := h1 ⟨11, .phase⟩ (by simp [clro16]) rfl
    obtain rfl : b10 = true := h1 ⟨10, .phase⟩ (by simp [clro16]) rfl
    obtain rfl : b9 = true := h1 ⟨9, .phase⟩ (by simp [clro16]) rfl
    obtain rfl : b8 = true := h1 ⟨8, .phase⟩ (by simp [clro16]) rfl
    obtain rfl : b7 = true := h1 ⟨7, .phase⟩ (by simp [clro16]) rfl
    obtain rfl : b6 = true := h1 ⟨6, .phase⟩ (by simp [clro16]) rfl
    obtain rfl : b5 = true := h1 ⟨5, .phase⟩ (by simp [clro16]) rfl
    obtain rfl : b4 = true := h1 ⟨4, .phase⟩ (by simp [clro16]) rfl
    obtain rfl : b3 = true := h1 ⟨3, .phase⟩ (by simp [clro16]) rfl
    obtain rfl : b2 = true := h1 ⟨2, .phase⟩ (by simp [clro16]) rfl
    obtain rfl : b1 = true := h1 ⟨1, .phase⟩ (by simp [clro16]) rfl
    obtain rfl : b0 = true := h1 ⟨0, .phase⟩ (by simp [clro16]) rfl
    exact clr_s16 w0 X1 X2 mt pt bd a1 n1 c1 o1 a2 n2 c2 o2 s0 s3 s4 s5 s6 s7 s8 s9 s10 s11 s12 s13 s14 s15 s16 s17 s18  aQ cQ BQ aH cH BH w hB hx1 hx2 hoq hoh hap hst hkm hkp hkb hk1 hk2
set_option maxRecDepth 20000 in
set_option maxHeartbeats 4000000 in
theorem clr_wp {Q : Exit → Act → World → Prop} {rid : Nat} (w0 : World) (X1 X2 : Nat) (mt pt bd : ByteArray) (a1 : Option Addr) (n1 c1 : Nat) (o1 : Nat → Hp) (a2 : Option Addr) (n2 c2 : Nat) (o2 : Nat → Hp) {s0 s3 s4 s5 s6 s7 s8 s9 s10 s11 s12 s13 s14 s15 s16 s17 s18 : Value} (w : World) (hB : Below w0.heap.size w0 w) (hx1 : RowAt w X1 25 #[.string mt, .string pt, .slice a1 n1 c1, .slice a2 n2 c2, .string bd]) (hx2 : RowAt w X2 25 #[.string ⟨#[]⟩, .string ⟨#[]⟩, .slice none 0 0, .slice none 0 0, .string ⟨#[]⟩]) (hst : w0.heap.size ≤ X1 ∧ w0.heap.size ≤ X2 ∧ X1 ≠ X2) (hkm : ∀ wx, Calls Tryz.prog 57 #[.string mt] wx fun e w' => e = .returned (.string mt) ∧ Below wx.heap.size wx w') (hkp : ∀ wx, Calls Tryz.prog 57 #[.string pt] wx fun e w' => e = .returned (.string pt) ∧ Below wx.heap.size wx w') (hkb : ∀ wx, Calls Tryz.prog 57 #[.string bd] wx fun e w' => e = .returned (.string bd) ∧ Below wx.heap.size wx w') (hk1 : ∀ wx, Below w0.heap.size w0 wx → Calls Tryz.prog 42 #[.slice a1 n1 c1] wx fun e w' => (∃ a' c', e = .returned (.slice a' n1 c') ∧ OwnHp w' wx.heap.size (.slice a' n1 c') (hpList o1 n1)) ∧ Below wx.heap.size wx w') (hk2 : ∀ wx, Below w0.heap.size w0 wx → Calls Tryz.prog 42 #[.slice a2 n2 c2] wx fun e w' => (∃ a' c', e = .returned (.slice a' n2 c') ∧ OwnHp w' wx.heap.size (.slice a' n2 c') (hpList o2 n2)) ∧ Below wx.heap.size wx w')
    (fin : ∀ (aQ : Option Addr) (cQ : Nat) (BQ : Nat) (aH : Option Addr) (cH : Nat) (BH : Nat) (w' : World), (Below w0.heap.size w0 w') → (RowAt w' X1 25 #[.string mt, .string pt, .slice a1 n1 c1, .slice a2 n2 c2, .string bd]) → (RowAt w' X2 25 #[.string mt, .string pt, .slice aQ n1 cQ, .slice aH n2 cH, .string bd]) → (OwnHp w' BQ (.slice aQ n1 cQ) (hpList o1 n1) ∧ w0.heap.size ≤ BQ) → (OwnHp w' BH (.slice aH n2 cH) (hpList o2 n2) ∧ w0.heap.size ≤ BH) → (∀ g, (Value.slice aQ n1 cQ).ownBlock = some g → g < BH) → (w0.heap.size ≤ X1 ∧ w0.heap.size ≤ X2 ∧ X1 ≠ X2) → (∀ wx, Calls Tryz.prog 57 #[.string mt] wx fun e w' => e = .returned (.string mt) ∧ Below wx.heap.size wx w') → (∀ wx, Calls Tryz.prog 57 #[.string pt] wx fun e w' => e = .returned (.string pt) ∧ Below wx.heap.size wx w') → (∀ wx, Calls Tryz.prog 57 #[.string bd] wx fun e w' => e = .returned (.string bd) ∧ Below wx.heap.size wx w') → (∀ wx, Below w0.heap.size w0 wx → Calls Tryz.prog 42 #[.slice a1 n1 c1] wx fun e w' => (∃ a' c', e = .returned (.slice a' n1 c') ∧ OwnHp w' wx.heap.size (.slice a' n1 c') (hpList o1 n1)) ∧ Below wx.heap.size wx w') → (∀ wx, Below w0.heap.size w0 wx → Calls Tryz.prog 42 #[.slice a2 n2 c2] wx fun e w' => (∃ a' c', e = .returned (.slice a' n2 c') ∧ OwnHp w' wx.heap.size (.slice a' n2 c') (hpList o2 n2)) ∧ Below wx.heap.size wx w') → Q .normal { tmps := #[s0, .pointer (some ⟨X1, 0, none⟩), .pointer (some ⟨X2, 0, none⟩), .pointer (some ⟨X1, 0, none⟩), .string mt, .string mt, .pointer (some ⟨X1, 1, none⟩), .string pt, .string pt, .pointer (some ⟨X1, 2, none⟩), .slice a1 n1 c1, .slice aQ n1 cQ, .pointer (some ⟨X1, 3, none⟩), .slice a2 n2 c2, .slice aH n2 cH, .pointer (some ⟨X1, 4, none⟩), .string bd, .string bd, .agg #[.string mt, .string pt, .slice aQ n1 cQ, .slice aH n2 cH, .string bd]], defers := [] } w') :
    (Code.region rid clrO true).wp Tryz.prog Q { tmps := #[s0, .pointer (some ⟨X1, 0, none⟩), .pointer (some ⟨X2, 0, none⟩), s3, s4, s5, s6, s7, s8, s9, s10, s11, s12, s13, s14, s15, s16, s17, s18], defers := [] } w := by
  refine wp_region_inv (ops := clrO) (clrI w0 X1 X2 mt pt bd a1 n1 c1 o1 a2 n2 c2 o2 s0 s3 s4 s5 s6 s7 s8 s9 s10 s11 s12 s13 s14 s15 s16 s17 s18) (by kernel_rfl) (by kernel_rfl) (fun l f v hI => ?_) (fun l f v hC hI i h0 o ho h1 => clr_step w0 X1 X2 mt pt bd a1 n1 c1 o1 a2 n2 c2 o2 s0 s3 s4 s5 s6 s7 s8 s9 s10 s11 s12 s13 s14 s15 s16 s17 s18 l f v hC hI i h0 o ho h1) (fun l f v hI hall => ?_) ?_
  · obtain ⟨_, _, _, _, _, _, _, _, _, _, _, _, _, _, _, _, _, _, _, _, _, _, _, rfl, _⟩ := hI; rfl
  · obtain ⟨b0, b1, b2, b3, b4, b5, b6, b7, b8, b9, b10, b11, b12, b13, b14, b15, b16, aQ, cQ, BQ, aH, cH, BH, rfl, rfl, hB, hx1, hx2, hoq, hoh, hap, hst, hkm, hkp, hkb, hk1, hk2⟩ := hI
    obtain rfl : b0 = true := hall 0 (by simp)
    obtain rfl : b1 = true := hall 1 (by simp)
    obtain rfl : b2 = true := hall 2 (by simp)
    obtain rfl : b3 = true := hall 3 (by simp)
    obtain rfl : b4 = true := hall 4 (by simp)
    obtain rfl : b5 = true := hall 5 (by simp)
    obtain rfl : b6 = true := hall 6 (by simp)
    obtain rfl : b7 = true := hall 7 (by simp)
    obtain rfl : b8 = true := hall 8 (by simp)
    obtain rfl : b9 = true := hall 9 (by simp)
    obtain rfl : b10 = true := hall 10 (by simp)
    obtain rfl : b11 = true := hall 11 (by simp)
    obtain rfl : b12 = true := hall 12 (by simp)
    obtain rfl : b13 = true := hall 13 (by simp)
    obtain rfl : b14 = true := hall 14 (by simp)
    obtain rfl : b15 = true := hall 15 (by simp)
    obtain rfl : b16 = true := hall 16 (by simp)
    exact fin aQ cQ BQ aH cH BH v hB hx1 hx2 (hoq rfl) (hoh rfl) (hap rfl) hst hkm hkp hkb hk1 hk2
  · exact ⟨false, false, false, false, false, false, false, false, false, false, false, false, false, false, false, false, false, none, 0, 0, none, 0, 0, rfl, rfl, hB.drew, hx1.drew, hx2.drew, fun h => Bool.noConfusion h, fun h => Bool.noConfusion h, fun h => Bool.noConfusion h, hst, hkm, hkp, hkb, hk1, hk2⟩
set_option maxRecDepth 20000 in
set_option maxHeartbeats 4000000 in
theorem iCloneRq (mt pt bd : ByteArray) (a1 : Option Addr) (n1 c1 : Nat) (o1 : Nat → Hp) (a2 : Option Addr) (n2 c2 : Nat) (o2 : Nat → Hp) (hb : RqB ⟨mt, pt, ⟨a1, n1, c1, o1⟩, ⟨a2, n2, c2, o2⟩, bd⟩ 1000000) (w : World) (h : RqIn w ⟨mt, pt, ⟨a1, n1, c1, o1⟩, ⟨a2, n2, c2, o2⟩, bd⟩) :
    Calls Tryz.prog 41 #[.agg #[.string mt, .string pt, .slice a1 n1 c1, .slice a2 n2 c2, .string bd]] w fun e w' => (∃ aQ cQ BQ aH cH BH, e = .returned (.agg #[.string mt, .string pt, .slice aQ n1 cQ, .slice aH n2 cH, .string bd]) ∧ OwnHp w' BQ (.slice aQ n1 cQ) (hpList o1 n1) ∧ OwnHp w' BH (.slice aH n2 cH) (hpList o2 n2) ∧ w.heap.size ≤ BQ ∧ w.heap.size ≤ BH ∧ ∀ g, (Value.slice aQ n1 cQ).ownBlock = some g → g < BH) ∧ Below w.heap.size w w' := by
  obtain ⟨W1, hW1⟩ : ∃ W, W = (w.alloc (.cells #[.string mt, .string pt, .slice a1 n1 c1, .slice a2 n2 c2, .string bd] 25)).alloc (.cells #[.string ⟨#[]⟩, .string ⟨#[]⟩, .slice none 0 0, .slice none 0 0, .string ⟨#[]⟩] 25) := ⟨_, rfl⟩
  have X1 : Hid (RowAt W1 w.heap.size 25 #[.string mt, .string pt, .slice a1 n1 c1, .slice a2 n2 c2, .string bd]) := by rw [hW1]; exact (RowAt.new _ _ _).alloc _
  have X2 : Hid (RowAt W1 (w.heap.size + 1) 25 #[.string ⟨#[]⟩, .string ⟨#[]⟩, .slice none 0 0, .slice none 0 0, .string ⟨#[]⟩]) := by rw [hW1]; exact RowAt.next _ _ _ (by simp only [size_al])
  have B1 : Hid (Below w.heap.size w W1) := by rw [hW1]; exact ((Below.refl _ _).alloc (Nat.le_refl _) _).alloc (by simp) _
  have HB := hid hb
  have HI := hid h
  have HW1 := hid hW1
  clear hW1 hb h
  go_enter Tryz.func41, Tryz.ntmps41
  go_upto_region 1 with fail
  rw [← HW1.out]
  refine clr_wp w w.heap.size (w.heap.size + 1) mt pt bd a1 n1 c1 o1 a2 n2 c2 o2 W1 B1.out X1.out X2.out ⟨by omega, by omega, by omega⟩ (fun wx => clone_any mt wx (by have := HB.out.mt; dsimp only at this; omega)) (fun wx => clone_any pt wx (by have := HB.out.pt; dsimp only at this; omega)) (fun wx => clone_any bd wx (by have := HB.out.bd; dsimp only at this; omega)) (fun wx hbx => iClonePairs a1 n1 c1 o1 HB.out.qs.1 (fun i hi => by have := HB.out.qs.2 i hi; dsimp only at this; omega) wx (HI.out.below hbx).qs) (fun wx hbx => iClonePairs a2 n2 c2 o2 HB.out.hs.1 (fun i hi => by have := HB.out.hs.2 i hi; dsimp only at this; omega) wx (HI.out.below hbx).hs) ?_
  intro aQ cQ BQ aH cH BH w2 hB2 _ h2 hoq hoh hap _ _ _ _ _ _

  have X2b := hid h2
  have OQ := hid hoq
  have OH := hid hoh
  have AP := hid hap
  have B2 := hid hB2
  clear hB2 h2 hoq hoh hap
  go_wp2
  refine bodyPost_ret (v := .agg #[.string mt, .string pt, .slice aQ n1 cQ, .slice aH n2 cH, .string bd]) ?_ rfl ⟨⟨aQ, cQ, BQ, aH, cH, BH, rfl, OQ.out.1, OH.out.1, OQ.out.2, OH.out.2, AP.out⟩, B2.out⟩
  exact results_cell_row Tryz.results41 _ _ (w.heap.size + 1) _ _ _ _ rfl X2b.out Tryz.underlying25 rfl (by kernel_rfl)
end Go.Proofs.YtcfahbcpfjhajaaGreatDoor
