import Derived.Test.YtkedjhpaeojclaaWnL2
namespace Go.Proofs.Ytkedjhpaeojclaa
open Go.RowKit
set_option linter.unusedVariables false
def w8o0 : Oper := { dst := some 46, op := Op.fieldAddr 24 (Operand.tmp 5) 1, type := 0, pos := "laws.go:1124", after := #[], guard := none }
def w8o1 : Oper := { dst := some 47, op := Op.load 2 (Operand.tmp 46), type := 2, pos := "laws.go:1124", after := #[{ on := 0, ground := Ground.data }], guard := none }
def w8o2 : Oper := { dst := some 48, op := Op.fieldAddr 24 (Operand.tmp 6) 1, type := 0, pos := "laws.go:1124", after := #[], guard := none }
def w8o3 : Oper := { dst := some 49, op := Op.load 2 (Operand.tmp 48), type := 2, pos := "laws.go:1124", after := #[{ on := 2, ground := Ground.data }], guard := none }
def w8o4 : Oper := { dst := some 50, op := Op.binOp BinOp.neq 2 (Operand.tmp 47) (Operand.tmp 49) 2, type := 4, pos := "laws.go:1124", after := #[{ on := 1, ground := Ground.data }, { on := 3, ground := Ground.data }], guard := none }
def w8o5 : Oper := { dst := some 51, op := Op.move (Operand.tmp 50), type := 4, pos := "laws.go:1124", after := #[{ on := 4, ground := Ground.data }], guard := none }
def w8o6 : Oper := { dst := some 52, op := Op.fieldAddr 24 (Operand.tmp 5) 2, type := 0, pos := "laws.go:1124", after := #[{ on := 5, ground := Ground.guard }], guard := some (5, false) }
def w8o7 : Oper := { dst := some 53, op := Op.load 2 (Operand.tmp 52), type := 2, pos := "laws.go:1124", after := #[{ on := 6, ground := Ground.data }, { on := 5, ground := Ground.guard }], guard := some (5, false) }
def w8o8 : Oper := { dst := some 54, op := Op.fieldAddr 24 (Operand.tmp 6) 2, type := 0, pos := "laws.go:1124", after := #[{ on := 5, ground := Ground.guard }], guard := some (5, false) }
def w8o9 : Oper := { dst := some 55, op := Op.load 2 (Operand.tmp 54), type := 2, pos := "laws.go:1124", after := #[{ on := 8, ground := Ground.data }, { on := 5, ground := Ground.guard }], guard := some (5, false) }
def w8o10 : Oper := { dst := some 56, op := Op.binOp BinOp.neq 2 (Operand.tmp 53) (Operand.tmp 55) 2, type := 4, pos := "laws.go:1124", after := #[{ on := 7, ground := Ground.data }, { on := 9, ground := Ground.data }, { on := 5, ground := Ground.guard }], guard := some (5, false) }
def w8o11 : Oper := { dst := some 57, op := Op.pick (Operand.tmp 51) (Operand.const (Value.bool true)) (Operand.tmp 56), type := 4, pos := "laws.go:1124", after := #[{ on := 5, ground := Ground.data }, { on := 10, ground := Ground.data }], guard := none }
def w8o12 : Oper := { dst := some 58, op := Op.move (Operand.tmp 57), type := 4, pos := "laws.go:1124", after := #[{ on := 11, ground := Ground.data }, { on := 5, ground := Ground.chain }], guard := none }
def w8o13 : Oper := { dst := some 59, op := Op.load 24 (Operand.tmp 6), type := 24, pos := "laws.go:1124", after := #[{ on := 12, ground := Ground.guard }], guard := some (12, true) }
def w8o14 : Oper := { dst := some 60, op := Op.load 24 (Operand.tmp 5), type := 24, pos := "laws.go:1124", after := #[{ on := 12, ground := Ground.guard }], guard := some (12, true) }
def w8o15 : Oper := { dst := some 61, op := Op.call { callee := Callee.value (Operand.func 6), args := #[Operand.tmp 59, Operand.tmp 60], argTypes := #[24, 24] }, type := 24, pos := "laws.go:1124", after := #[{ on := 13, ground := Ground.data }, { on := 14, ground := Ground.data }, { on := 12, ground := Ground.chain }, { on := 12, ground := Ground.guard }], guard := some (12, true) }
def w8o16 : Oper := { dst := some 62, op := Op.load 24 (Operand.tmp 9), type := 24, pos := "laws.go:1124", after := #[{ on := 12, ground := Ground.guard }], guard := some (12, true) }
def w8o17 : Oper := { dst := some 63, op := Op.binOp BinOp.neq 24 (Operand.tmp 61) (Operand.tmp 62) 24, type := 4, pos := "laws.go:1124", after := #[{ on := 15, ground := Ground.data }, { on := 16, ground := Ground.data }, { on := 12, ground := Ground.guard }], guard := some (12, true) }
def w8o18 : Oper := { dst := some 64, op := Op.pick (Operand.tmp 58) (Operand.tmp 63) (Operand.const (Value.bool false)), type := 4, pos := "laws.go:1124", after := #[{ on := 12, ground := Ground.data }, { on := 17, ground := Ground.data }], guard := none }
def w8O : Array Oper := #[w8o0, w8o1, w8o2, w8o3, w8o4, w8o5, w8o6, w8o7, w8o8, w8o9, w8o10, w8o11, w8o12, w8o13, w8o14, w8o15, w8o16, w8o17, w8o18]
def w8I (w0 : World) (X5 X6 X9 : Nat) (a b u : Se) (s0 s1 s2 s3 s4 s7 s8 s10 s11 s12 s13 s14 s15 s16 s17 s18 s19 s20 s21 s22 s23 s24 s25 s26 s27 s28 s29 s30 s31 s32 s33 s34 s35 s36 s37 s38 s39 s40 s41 s42 s43 s44 s45 s46 s47 s48 s49 s50 s51 s52 s53 s54 s55 s56 s57 s58 s59 s60 s61 s62 s63 s64 s65 s66 s67 s68 s69 s70 s71 s72 s73 s74 s75 : Value) (l : Array Bool) (f : Act) (w : World) : Prop :=
  ∃ (b0 b1 b2 b3 b4 b5 b6 b7 b8 b9 b10 b11 b12 b13 b14 b15 b16 b17 b18 : Bool) (dm : Nat), l = #[b0, b1, b2, b3, b4, b5, b6, b7, b8, b9, b10, b11, b12, b13, b14, b15, b16, b17, b18] ∧ f = { tmps := #[s0, s1, s2, s3, s4, .pointer (some ⟨X5, 0, none⟩), .pointer (some ⟨X6, 0, none⟩), s7, s8, .pointer (some ⟨X9, 0, none⟩), s10, s11, s12, s13, s14, s15, s16, s17, s18, s19, s20, s21, s22, s23, s24, s25, s26, s27, s28, s29, s30, s31, s32, s33, s34, s35, s36, s37, s38, s39, s40, s41, s42, s43, s44, s45, selS b0 (.pointer (some ⟨X5, 1, none⟩)) (s46), selS b1 (.int .i64 a.t) (s47), selS b2 (.pointer (some ⟨X6, 1, none⟩)) (s48), selS b3 (.int .i64 b.t) (s49), selS b4 (.bool false) (s50), selS b5 (.bool false) (s51), selS b6 (.pointer (some ⟨X5, 2, none⟩)) (s52), selS b7 (.int .i64 a.s) (s53), selS b8 (.pointer (some ⟨X6, 2, none⟩)) (s54), selS b9 (.int .i64 b.s) (s55), selS b10 (.bool false) (s56), selS b11 (.bool false) (s57), selS b12 (.bool false) (s58), selS b13 (undef) (s59), selS b14 (undef) (s60), selS b15 (undef) (s61), selS b16 (undef) (s62), selS b17 (undef) (s63), selS b18 (.bool false) (s64), s65, s66, s67, s68, s69, s70, s71, s72, s73, s74, s75], defers := [] } ∧ (Below w0.heap.size w0 w) ∧ (RowAt w X5 24 #[.string a.k, .int .i64 a.t, .int .i64 a.s, .bool a.g, .string a.d]) ∧ (RowAt w X6 24 #[.string b.k, .int .i64 b.t, .int .i64 b.s, .bool b.g, .string b.d]) ∧ (RowAt w X9 24 #[.string u.k, .int .i64 u.t, .int .i64 u.s, .bool u.g, .string u.d]) ∧ ((a.t != b.t) = false) ∧ ((a.s != b.s) = false)
set_option maxRecDepth 20000 in
set_option maxHeartbeats 1000000 in
theorem w8_s0 {Q : Exit → Act → World → Prop} (w0 : World) (X5 X6 X9 : Nat) (a b u : Se) (s0 s1 s2 s3 s4 s7 s8 s10 s11 s12 s13 s14 s15 s16 s17 s18 s19 s20 s21 s22 s23 s24 s25 s26 s27 s28 s29 s30 s31 s32 s33 s34 s35 s36 s37 s38 s39 s40 s41 s42 s43 s44 s45 s46 s47 s48 s49 s50 s51 s52 s53 s54 s55 s56 s57 s58 s59 s60 s61 s62 s63 s64 s65 s66 s67 s68 s69 s70 s71 s72 s73 s74 s75 : Value) (b2 b3 : Bool) (dm : Nat) (w : World) (hB : Below w0.heap.size w0 w) (hrX5 : RowAt w X5 24 #[.string a.k, .int .i64 a.t, .int .i64 a.s, .bool a.g, .string a.d]) (hrX6 : RowAt w X6 24 #[.string b.k, .int .i64 b.t, .int .i64 b.s, .bool b.g, .string b.d]) (hrX9 : RowAt w X9 24 #[.string u.k, .int .i64 u.t, .int .i64 u.s, .bool u.g, .string u.d]) (he1 : (a.t != b.t) = false) (he2 : (a.s != b.s) = false) :
    wpOp Try.prog w8O Q 0 (w8I w0 X5 X6 X9 a b u s0 s1 s2 s3 s4 s7 s8 s10 s11 s12 s13 s14 s15 s16 s17 s18 s19 s20 s21 s22 s23 s24 s25 s26 s27 s28 s29 s30 s31 s32 s33 s34 s35 s36 s37 s38 s39 s40 s41 s42 s43 s44 s45 s46 s47 s48 s49 s50 s51 s52 s53 s54 s55 s56 s57 s58 s59 s60 s61 s62 s63 s64 s65 s66 s67 s68 s69 s70 s71 s72 s73 s74 s75 #[true, false, b2, b3, false, false, false, false, false, false, false, false, false, false, false, false, false, false, false]) { tmps := #[s0, s1, s2, s3, s4, .pointer (some ⟨X5, 0, none⟩), .pointer (some ⟨X6, 0, none⟩), s7, s8, .pointer (some ⟨X9, 0, none⟩), s10, s11, s12, s13, s14, s15, s16, s17, s18, s19, s20, s21, s22, s23, s24, s25, s26, s27, s28, s29, s30, s31, s32, s33, s34, s35, s36, s37, s38, s39, s40, s41, s42, s43, s44, s45, s46, s47, selS b2 (.pointer (some ⟨X6, 1, none⟩)) (s48), selS b3 (.int .i64 b.t) (s49), s50, s51, s52, s53, s54, s55, s56, s57, s58, s59, s60, s61, s62, s63, s64, s65, s66, s67, s68, s69, s70, s71, s72, s73, s74, s75], defers := [] } w := by
  refine wpOp_step (o := { dst := some 46, op := Op.fieldAddr 24 (Operand.tmp 5) 1, type := 0, pos := "laws.go:1124", after := #[], guard := none }) rfl (fun K hK => ?_)
  replace hK := hid hK
  go_simp
  exact hK.out _ _ ⟨true, false, b2, b3, false, false, false, false, false, false, false, false, false, false, false, false, false, false, false, dm, rfl, rfl, hB, hrX5, hrX6, hrX9, he1, he2⟩
set_option maxRecDepth 20000 in
set_option maxHeartbeats 1000000 in
theorem w8_s1 {Q : Exit → Act → World → Prop} (w0 : World) (X5 X6 X9 : Nat) (a b u : Se) (s0 s1 s2 s3 s4 s7 s8 s10 s11 s12 s13 s14 s15 s16 s17 s18 s19 s20 s21 s22 s23 s24 s25 s26 s27 s28 s29 s30 s31 s32 s33 s34 s35 s36 s37 s38 s39 s40 s41 s42 s43 s44 s45 s46 s47 s48 s49 s50 s51 s52 s53 s54 s55 s56 s57 s58 s59 s60 s61 s62 s63 s64 s65 s66 s67 s68 s69 s70 s71 s72 s73 s74 s75 : Value) (b2 b3 : Bool) (dm : Nat) (w : World) (hB : Below w0.heap.size w0 w) (hrX5 : RowAt w X5 24 #[.string a.k, .int .i64 a.t, .int .i64 a.s, .bool a.g, .string a.d]) (hrX6 : RowAt w X6 24 #[.string b.k, .int .i64 b.t, .int .i64 b.s, .bool b.g, .string b.d]) (hrX9 : RowAt w X9 24 #[.string u.k, .int .i64 u.t, .int .i64 u.s, .bool u.g, .string u.d]) (he1 : (a.t != b.t) = false) (he2 : (a.s != b.s) = false) :
    wpOp Try.prog w8O Q 1 (w8I w0 X5 X6 X9 a b u s0 s1 s2 s3 s4 s7 s8 s10 s11 s12 s13 s14 s15 s16 s17 s18 s19 s20 s21 s22 s23 s24 s25 s26 s27 s28 s29 s30 s31 s32 s33 s34 s35 s36 s37 s38 s39 s40 s41 s42 s43 s44 s45 s46 s47 s48 s49 s50 s51 s52 s53 s54 s55 s56 s57 s58 s59 s60 s61 s62 s63 s64 s65 s66 s67 s68 s69 s70 s71 s72 s73 s74 s75 #[true, true, b2, b3, false, false, false, false, false, false, false, false, false, false, false, false, false, false, false]) { tmps := #[s0, s1, s2, s3, s4, .pointer (some ⟨X5, 0, none⟩), .pointer (some ⟨X6, 0, none⟩), s7, s8, .pointer (some ⟨X9, 0, none⟩), s10, s11, s12, s13, s14, s15, s16, s17, s18, s19, s20, s21, s22, s23, s24, s25, s26, s27, s28, s29, s30, s31, s32, s33, s34, s35, s36, s37, s38, s39, s40, s41, s42, s43, s44, s45, .pointer (some ⟨X5, 1, none⟩), s47, selS b2 (.pointer (some ⟨X6, 1, none⟩)) (s48), selS b3 (.int .i64 b.t) (s49), s50, s51, s52, s53, s54, s55, s56, s57, s58, s59, s60, s61, s62, s63, s64, s65, s66, s67, s68, s69, s70, s71, s72, s73, s74, s75], defers := [] } w := by
  have q0 := hrX5.cell 0
  have q1 := hrX5.cell 1
  have q2 := hrX5.cell 2
  have q3 := hrX5.cell 3
  have q4 := hrX5.cell 4
  refine wpOp_step (o := { dst := some 47, op := Op.load 2 (Operand.tmp 46), type := 2, pos := "laws.go:1124", after := #[{ on := 0, ground := Ground.data }], guard := none }) rfl (fun K hK => ?_)
  replace hK := hid hK
  go_simp
  exact hK.out _ _ ⟨true, true, b2, b3, false, false, false, false, false, false, false, false, false, false, false, false, false, false, false, dm, rfl, rfl, hB, hrX5, hrX6, hrX9, he1, he2⟩
set_option maxRecDepth 20000 in
set_option maxHeartbeats 1000000 in
theorem w8_s2 {Q : Exit → Act → World → Prop} (w0 : World) (X5 X6 X9 : Nat) (a b u : Se) (s0 s1 s2 s3 s4 s7 s8 s10 s11 s12 s13 s14 s15 s16 s17 s18 s19 s20 s21 s22 s23 s24 s25 s26 s27 s28 s29 s30 s31 s32 s33 s34 s35 s36 s37 s38 s39 s40 s41 s42 s43 s44 s45 s46 s47 s48 s49 s50 s51 s52 s53 s54 s55 s56 s57 s58 s59 s60 s61 s62 s63 s64 s65 s66 s67 s68 s69 s70 s71 s72 s73 s74 s75 : Value) (b0 b1 : Bool) (dm : Nat) (w : World) (hB : Below w0.heap.size w0 w) (hrX5 : RowAt w X5 24 #[.string a.k, .int .i64 a.t, .int .i64 a.s, .bool a.g, .string a.d]) (hrX6 : RowAt w X6 24 #[.string b.k, .int .i64 b.t, .int .i64 b.s, .bool b.g, .string b.d]) (hrX9 : RowAt w X9 24 #[.string u.k, .int .i64 u.t, .int .i64 u.s, .bool u.g, .string u.d]) (he1 : (a.t != b.t) = false) (he2 : (a.s != b.s) = false) :
    wpOp Try.prog w8O Q 2 (w8I w0 X5 X6 X9 a b u s0 s1 s2 s3 s4 s7 s8 s10 s11 s12 s13 s14 s15 s16 s17 s18 s19 s20 s21 s22 s23 s24 s25 s26 s27 s28 s29 s30 s31 s32 s33 s34 s35 s36 s37 s38 s39 s40 s41 s42 s43 s44 s45 s46 s47 s48 s49 s50 s51 s52 s53 s54 s55 s56 s57 s58 s59 s60 s61 s62 s63 s64 s65 s66 s67 s68 s69 s70 s71 s72 s73 s74 s75 #[b0, b1, true, false, false, false, false, false, false, false, false, false, false, false, false, false, false, false, false]) { tmps := #[s0, s1, s2, s3, s4, .pointer (some ⟨X5, 0, none⟩), .pointer (some ⟨X6, 0, none⟩), s7, s8, .pointer (some ⟨X9, 0, none⟩), s10, s11, s12, s13, s14, s15, s16, s17, s18, s19, s20, s21, s22, s23, s24, s25, s26, s27, s28, s29, s30, s31, s32, s33, s34, s35, s36, s37, s38, s39, s40, s41, s42, s43, s44, s45, selS b0 (.pointer (some ⟨X5, 1, none⟩)) (s46), selS b1 (.int .i64 a.t) (s47), s48, s49, s50, s51, s52, s53, s54, s55, s56, s57, s58, s59, s60, s61, s62, s63, s64, s65, s66, s67, s68, s69, s70, s71, s72, s73, s74, s75], defers := [] } w := by
  refine wpOp_step (o := { dst := some 48, op := Op.fieldAddr 24 (Operand.tmp 6) 1, type := 0, pos := "laws.go:1124", after := #[], guard := none }) rfl (fun K hK => ?_)
  replace hK := hid hK
  go_simp
  exact hK.out _ _ ⟨b0, b1, true, false, false, false, false, false, false, false, false, false, false, false, false, false, false, false, false, dm, rfl, rfl, hB, hrX5, hrX6, hrX9, he1, he2⟩
set_option maxRecDepth 20000 in
set_option maxHeartbeats 1000000 in
theorem w8_s3 {Q : Exit → Act → World → Prop} (w0 : World) (X5 X6 X9 : Nat) (a b u : Se) (s0 s1 s2 s3 s4 s7 s8 s10 s11 s12 s13 s14 s15 s16 s17 s18 s19 s20 s21 s22 s23 s24 s25 s26 s27 s28 s29 s30 s31 s32 s33 s34 s35 s36 s37 s38 s39 s40 s41 s42 s43 s44 s45 s46 s47 s48 s49 s50 s51 s52 s53 s54 s55 s56 s57 s58 s59 s60 s61 s62 s63 s64 s65 s66 s67 s68 s69 s70 s71 s72 s73 s74 s75 : Value) (b0 b1 : Bool) (dm : Nat) (w : World) (hB : Below w0.heap.size w0 w) (hrX5 : RowAt w X5 24 #[.string a.k, .int .i64 a.t, .int .i64 a.s, .bool a.g, .string a.d]) (hrX6 : RowAt w X6 24 #[.string b.k, .int .i64 b.t, .int .i64 b.s, .bool b.g, .string b.d]) (hrX9 : RowAt w X9 24 #[.string u.k, .int .i64 u.t, .int .i64 u.s, .bool u.g, .string u.d]) (he1 : (a.t != b.t) = false) (he2 : (a.s != b.s) = false) :
    wpOp Try.prog w8O Q 3 (w8I w0 X5 X6 X9 a b u s0 s1 s2 s3 s4 s7 s8 s10 s11 s12 s13 s14 s15 s16 s17 s18 s19 s20 s21 s22 s23 s24 s25 s26 s27 s28 s29 s30 s31 s32 s33 s34 s35 s36 s37 s38 s39 s40 s41 s42 s43 s44 s45 s46 s47 s48 s49 s50 s51 s52 s53 s54 s55 s56 s57 s58 s59 s60 s61 s62 s63 s64 s65 s66 s67 s68 s69 s70 s71 s72 s73 s74 s75 #[b0, b1, true, true, false, false, false, false, false, false, false, false, false, false, false, false, false, false, false]) { tmps := #[s0, s1, s2, s3, s4, .pointer (some ⟨X5, 0, none⟩), .pointer (some ⟨X6, 0, none⟩), s7, s8, .pointer (some ⟨X9, 0, none⟩), s10, s11, s12, s13, s14, s15, s16, s17, s18, s19, s20, s21, s22, s23, s24, s25, s26, s27, s28, s29, s30, s31, s32, s33, s34, s35, s36, s37, s38, s39, s40, s41, s42, s43, s44, s45, selS b0 (.pointer (some ⟨X5, 1, none⟩)) (s46), selS b1 (.int .i64 a.t) (s47), .pointer (some ⟨X6, 1, none⟩), s49, s50, s51, s52, s53, s54, s55, s56, s57, s58, s59, s60, s61, s62, s63, s64, s65, s66, s67, s68, s69, s70, s71, s72, s73, s74, s75], defers := [] } w := by
  have q0 := hrX6.cell 0
  have q1 := hrX6.cell 1
  have q2 := hrX6.cell 2
  have q3 := hrX6.cell 3
  have q4 := hrX6.cell 4
  refine wpOp_step (o := { dst := some 49, op := Op.load 2 (Operand.tmp 48), type := 2, pos := "laws.go:1124", after := #[{ on := 2, ground := Ground.data }], guard := none }) rfl (fun K hK => ?_)
  replace hK := hid hK
  go_simp
  exact hK.out _ _ ⟨b0, b1, true, true, false, false, false, false, false, false, false, false, false, false, false, false, false, false, false, dm, rfl, rfl, hB, hrX5, hrX6, hrX9, he1, he2⟩
set_option maxRecDepth 20000 in
set_option maxHeartbeats 1000000 in
theorem w8_s4 {Q : Exit → Act → World → Prop} (w0 : World) (X5 X6 X9 : Nat) (a b u : Se) (s0 s1 s2 s3 s4 s7 s8 s10 s11 s12 s13 s14 s15 s16 s17 s18 s19 s20 s21 s22 s23 s24 s25 s26 s27 s28 s29 s30 s31 s32 s33 s34 s35 s36 s37 s38 s39 s40 s41 s42 s43 s44 s45 s46 s47 s48 s49 s50 s51 s52 s53 s54 s55 s56 s57 s58 s59 s60 s61 s62 s63 s64 s65 s66 s67 s68 s69 s70 s71 s72 s73 s74 s75 : Value) (dm : Nat) (w : World) (hB : Below w0.heap.size w0 w) (hrX5 : RowAt w X5 24 #[.string a.k, .int .i64 a.t, .int .i64 a.s, .bool a.g, .string a.d]) (hrX6 : RowAt w X6 24 #[.string b.k, .int .i64 b.t, .int .i64 b.s, .bool b.g, .string b.d]) (hrX9 : RowAt w X9 24 #[.string u.k, .int .i64 u.t, .int .i64 u.s, .bool u.g, .string u.d]) (he1 : (a.t != b.t) = false) (he2 : (a.s != b.s) = false) :
    wpOp Try.prog w8O Q 4 (w8I w0 X5 X6 X9 a b u s0 s1 s2 s3 s4 s7 s8 s10 s11 s12 s13 s14 s15 s16 s17 s18 s19 s20 s21 s22 s23 s24 s25 s26 s27 s28 s29 s30 s31 s32 s33 s34 s35 s36 s37 s38 s39 s40 s41 s42 s43 s44 s45 s46 s47 s48 s49 s50 s51 s52 s53 s54 s55 s56 s57 s58 s59 s60 s61 s62 s63 s64 s65 s66 s67 s68 s69 s70 s71 s72 s73 s74 s75 #[true, true, true, true, true, false, false, false, false, false, false, false, false, false, false, false, false, false, false]) { tmps := #[s0, s1, s2, s3, s4, .pointer (some ⟨X5, 0, none⟩), .pointer (some ⟨X6, 0, none⟩), s7, s8, .pointer (some ⟨X9, 0, none⟩), s10, s11, s12, s13, s14, s15, s16, s17, s18, s19, s20, s21, s22, s23, s24, s25, s26, s27, s28, s29, s30, s31, s32, s33, s34, s35, s36, s37, s38, s39, s40, s41, s42, s43, s44, s45, .pointer (some ⟨X5, 1, none⟩), .int .i64 a.t, .pointer (some ⟨X6, 1, none⟩), .int .i64 b.t, s50, s51, s52, s53, s54, s55, s56, s57, s58, s59, s60, s61, s62, s63, s64, s65, s66, s67, s68, s69, s70, s71, s72, s73, s74, s75], defers := [] } w := by
  refine wpOp_step (o := { dst := some 50, op := Op.binOp BinOp.neq 2 (Operand.tmp 47) (Operand.tmp 49) 2, type := 4, pos := "laws.go:1124", after := #[{ on := 1, ground := Ground.data }, { on := 3, ground := Ground.data }], guard := none }) rfl (fun K hK => ?_)
  replace hK := hid hK
  go_simp
  exact hK.out _ _ ⟨true, true, true, true, true, false, false, false, false, false, false, false, false, false, false, false, false, false, false, dm, rfl, rfl, hB, hrX5, hrX6, hrX9, he1, he2⟩
set_option maxRecDepth 20000 in
set_option maxHeartbeats 1000000 in
theorem w8_s5 {Q : Exit → Act → World → Prop} (w0 : World) (X5 X6 X9 : Nat) (a b u : Se) (s0 s1 s2 s3 s4 s7 s8 s10 s11 s12 s13 s14 s15 s16 s17 s18 s19 s20 s21 s22 s23 s24 s25 s26 s27 s28 s29 s30 s31 s32 s33 s34 s35 s36 s37 s38 s39 s40 s41 s42 s43 s44 s45 s46 s47 s48 s49 s50 s51 s52 s53 s54 s55 s56 s57 s58 s59 s60 s61 s62 s63 s64 s65 s66 s67 s68 s69 s70 s71 s72 s73 s74 s75 : Value) (dm : Nat) (w : World) (hB : Below w0.heap.size w0 w) (hrX5 : RowAt w X5 24 #[.string a.k, .int .i64 a.t, .int .i64 a.s, .bool a.g, .string a.d]) (hrX6 : RowAt w X6 24 #[.string b.k, .int .i64 b.t, .int .i64 b.s, .bool b.g, .string b.d]) (hrX9 : RowAt w X9 24 #[.string u.k, .int .i64 u.t, .int .i64 u.s, .bool u.g, .string u.d]) (he1 : (a.t != b.t) = false) (he2 : (a.s != b.s) = false) :
    wpOp Try.prog w8O Q 5 (w8I w0 X5 X6 X9 a b u s0 s1 s2 s3 s4 s7 s8 s10 s11 s12 s13 s14 s15 s16 s17 s18 s19 s20 s21 s22 s23 s24 s25 s26 s27 s28 s29 s30 s31 s32 s33 s34 s35 s36 s37 s38 s39 s40 s41 s42 s43 s44 s45 s46 s47 s48 s49 s50 s51 s52 s53 s54 s55 s56 s57 s58 s59 s60 s61 s62 s63 s64 s65 s66 s67 s68 s69 s70 s71 s72 s73 s74 s75 #[true, true, true, true, true, true, false, false, false, false, false, false, false, false, false, false, false, false, false]) { tmps := #[s0, s1, s2, s3, s4, .pointer (some ⟨X5, 0, none⟩), .pointer (some ⟨X6, 0, none⟩), s7, s8, .pointer (some ⟨X9, 0, none⟩), s10, s11, s12, s13, s14, s15, s16, s17, s18, s19, s20, s21, s22, s23, s24, s25, s26, s27, s28, s29, s30, s31, s32, s33, s34, s35, s36, s37, s38, s39, s40, s41, s42, s43, s44, s45, .pointer (some ⟨X5, 1, none⟩), .int .i64 a.t, .pointer (some ⟨X6, 1, none⟩), .int .i64 b.t, .bool false, s51, s52, s53, s54, s55, s56, s57, s58, s59, s60, s61, s62, s63, s64, s65, s66, s67, s68, s69, s70, s71, s72, s73, s74, s75], defers := [] } w := by
  refine wpOp_step (o := { dst := some 51, op := Op.move (Operand.tmp 50), type := 4, pos := "laws.go:1124", after := #[{ on := 4, ground := Ground.data }], guard := none }) rfl (fun K hK => ?_)
  replace hK := hid hK
  go_simp
  exact hK.out _ _ ⟨true, true, true, true, true, true, false, false, false, false, false, false, false, false, false, false, false, false, false, dm, rfl, rfl, hB, hrX5, hrX6, hrX9, he1, he2⟩
set_option maxRecDepth 20000 in
set_option maxHeartbeats 1000000 in
theorem w8_s6 {Q : Exit → Act → World → Prop} (w0 : World) (X5 X6 X9 : Nat) (a b u : Se) (s0 s1 s2 s3 s4 s7 s8 s10 s11 s12 s13 s14 s15 s16 s17 s18 s19 s20 s21 s22 s23 s24 s25 s26 s27 s28 s29 s30 s31 s32 s33 s34 s35 s36 s37 s38 s39 s40 s41 s42 s43 s44 s45 s46 s47 s48 s49 s50 s51 s52 s53 s54 s55 s56 s57 s58 s59 s60 s61 s62 s63 s64 s65 s66 s67 s68 s69 s70 s71 s72 s73 s74 s75 : Value) (b8 b9 : Bool) (dm : Nat) (w : World) (hB : Below w0.heap.size w0 w) (hrX5 : RowAt w X5 24 #[.string a.k, .int .i64 a.t, .int .i64 a.s, .bool a.g, .string a.d]) (hrX6 : RowAt w X6 24 #[.string b.k, .int .i64 b.t, .int .i64 b.s, .bool b.g, .string b.d]) (hrX9 : RowAt w X9 24 #[.string u.k, .int .i64 u.t, .int .i64 u.s, .bool u.g, .string u.d]) (he1 : (a.t != b.t) = false) (he2 : (a.s != b.s) = false) :
    wpOp Try.prog w8O Q 6 (w8I w0 X5 X6 X9 a b u s0 s1 s2 s3 s4 s7 s8 s10 s11 s12 s13 s14 s15 s16 s17 s18 s19 s20 s21 s22 s23 s24 s25 s26 s27 s28 s29 s30 s31 s32 s33 s34 s35 s36 s37 s38 s39 s40 s41 s42 s43 s44 s45 s46 s47 s48 s49 s50 s51 s52 s53 s54 s55 s56 s57 s58 s59 s60 s61 s62 s63 s64 s65 s66 s67 s68 s69 s70 s71 s72 s73 s74 s75 #[true, true, true, true, true, true, true, false, b8, b9, false, false, false, false, false, false, false, false, false]) { tmps := #[s0, s1, s2, s3, s4, .pointer (some ⟨X5, 0, none⟩), .pointer (some ⟨X6, 0, none⟩), s7, s8, .pointer (some ⟨X9, 0, none⟩), s10, s11, s12, s13, s14, s15, s16, s17, s18, s19, s20, s21, s22, s23, s24, s25, s26, s27, s28, s29, s30, s31, s32, s33, s34, s35, s36, s37, s38, s39, s40, s41, s42, s43, s44, s45, .pointer (some ⟨X5, 1, none⟩), .int .i64 a.t, .pointer (some ⟨X6, 1, none⟩), .int .i64 b.t, .bool false, .bool false, s52, s53, selS b8 (.pointer (some ⟨X6, 2, none⟩)) (s54), selS b9 (.int .i64 b.s) (s55), s56, s57, s58, s59, s60, s61, s62, s63, s64, s65, s66, s67, s68, s69, s70, s71, s72, s73, s74, s75], defers := [] } w := by
  refine wpOp_step (o := { dst := some 52, op := Op.fieldAddr 24 (Operand.tmp 5) 2, type := 0, pos := "laws.go:1124", after := #[{ on := 5, ground := Ground.guard }], guard := some (5, false) }) rfl (fun K hK => ?_)
  replace hK := hid hK
  go_simp
  exact hK.out _ _ ⟨true, true, true, true, true, true, true, false, b8, b9, false, false, false, false, false, false, false, false, false, dm, rfl, rfl, hB, hrX5, hrX6, hrX9, he1, he2⟩
set_option maxRecDepth 20000 in
set_option maxHeartbeats 1000000 in
theorem w8_s7 {Q : Exit → Act → World → Prop} (w0 : World) (X5 X6 X9 : Nat) (a b u : Se) (s0 s1 s2 s3 s4 s7 s8 s10 s11 s12 s13 s14 s15 s16 s17 s18 s19 s20 s21 s22 s23 s24 s25 s26 s27 s28 s29 s30 s31 s32 s33 s34 s35 s36 s37 s38 s39 s40 s41 s42 s43 s44 s45 s46 s47 s48 s49 s50 s51 s52 s53 s54 s55 s56 s57 s58 s59 s60 s61 s62 s63 s64 s65 s66 s67 s68 s69 s70 s71 s72 s73 s74 s75 : Value) (b8 b9 : Bool) (dm : Nat) (w : World) (hB : Below w0.heap.size w0 w) (hrX5 : RowAt w X5 24 #[.string a.k, .int .i64 a.t, .int .i64 a.s, .bool a.g, .string a.d]) (hrX6 : RowAt w X6 24 #[.string b.k, .int .i64 b.t, .int .i64 b.s, .bool b.g, .string b.d]) (hrX9 : RowAt w X9 24 #[.string u.k, .int .i64 u.t, .int .i64 u.s, .bool u.g, .string u.d]) (he1 : (a.t != b.t) = false) (he2 : (a.s != b.s) = false) :
    wpOp Try.prog w8O Q 7 (w8I w0 X5 X6 X9 a b u s0 s1 s2 s3 s4 s7 s8 s10 s11 s12 s13 s14 s15 s16 s17 s18 s19 s20 s21 s22 s23 s24 s25 s26 s27 s28 s29 s30 s31 s32 s33 s34 s35 s36 s37 s38 s39 s40 s41 s42 s43 s44 s45 s46 s47 s48 s49 s50 s51 s52 s53 s54 s55 s56 s57 s58 s59 s60 s61 s62 s63 s64 s65 s66 s67 s68 s69 s70 s71 s72 s73 s74 s75 #[true, true, true, true, true, true, true, true, b8, b9, false, false, false, false, false, false, false, false, false]) { tmps := #[s0, s1, s2, s3, s4, .pointer (some ⟨X5, 0, none⟩), .pointer (some ⟨X6, 0, none⟩), s7, s8, .pointer (some ⟨X9, 0, none⟩), s10, s11, s12, s13, s14, s15, s16, s17, s18, s19, s20, s21, s22, s23, s24, s25, s26, s27, s28, s29, s30, s31, s32, s33, s34, s35, s36, s37, s38, s39, s40, s41, s42, s43, s44, s45, .pointer (some ⟨X5, 1, none⟩), .int .i64 a.t, .pointer (some ⟨X6, 1, none⟩), .int .i64 b.t, .bool false, .bool false, .pointer (some ⟨X5, 2, none⟩), s53, selS b8 (.pointer (some ⟨X6, 2, none⟩)) (s54), selS b9 (.int .i64 b.s) (s55), s56, s57, s58, s59, s60, s61, s62, s63, s64, s65, s66, s67, s68, s69, s70, s71, s72, s73, s74, s75], defers := [] } w := by
  have q0 := hrX5.cell 0
  have q1 := hrX5.cell 1
  have q2 := hrX5.cell 2
  have q3 := hrX5.cell 3
  have q4 := hrX5.cell 4
  refine wpOp_step (o := { dst := some 53, op := Op.load 2 (Operand.tmp 52), type := 2, pos := "laws.go:1124", after := #[{ on := 6, ground := Ground.data }, { on := 5, ground := Ground.guard }], guard := some (5, false) }) rfl (fun K hK => ?_)
  replace hK := hid hK
  go_simp
  exact hK.out _ _ ⟨true, true, true, true, true, true, true, true, b8, b9, false, false, false, false, false, false, false, false, false, dm, rfl, rfl, hB, hrX5, hrX6, hrX9, he1, he2⟩
set_option maxRecDepth 20000 in
set_option maxHeartbeats 1000000 in
theorem w8_s8 {Q : Exit → Act → World → Prop} (w0 : World) (X5 X6 X9 : Nat) (a b u : Se) (s0 s1 s2 s3 s4 s7 s8 s10 s11 s12 s13 s14 s15 s16 s17 s18 s19 s20 s21 s22 s23 s24 s25 s26 s27 s28 s29 s30 s31 s32 s33 s34 s35 s36 s37 s38 s39 s40 s41 s42 s43 s44 s45 s46 s47 s48 s49 s50 s51 s52 s53 s54 s55 s56 s57 s58 s59 s60 s61 s62 s63 s64 s65 s66 s67 s68 s69 s70 s71 s72 s73 s74 s75 : Value) (b6 b7 : Bool) (dm : Nat) (w : World) (hB : Below w0.heap.size w0 w) (hrX5 : RowAt w X5 24 #[.string a.k, .int .i64 a.t, .int .i64 a.s, .bool a.g, .string a.d]) (hrX6 : RowAt w X6 24 #[.string b.k, .int .i64 b.t, .int .i64 b.s, .bool b.g, .string b.d]) (hrX9 : RowAt w X9 24 #[.string u.k, .int .i64 u.t, .int .i64 u.s, .bool u.g, .string u.d]) (he1 : (a.t != b.t) = false) (he2 : (a.s != b.s) = false) :
    wpOp Try.prog w8O Q 8 (w8I w0 X5 X6 X9 a b u s0 s1 s2 s3 s4 s7 s8 s10 s11 s12 s13 s14 s15 s16 s17 s18 s19 s20 s21 s22 s23 s24 s25 s26 s27 s28 s29 s30 s31 s32 s33 s34 s35 s36 s37 s38 s39 s40 s41 s42 s43 s44 s45 s46 s47 s48 s49 s50 s51 s52 s53 s54 s55 s56 s57 s58 s59 s60 s61 s62 s63 s64 s65 s66 s67 s68 s69 s70 s71 s72 s73 s74 s75 #[true, true, true, true, true, true, b6, b7, true, false, false, false, false, false, false, false, false, false, false]) { tmps := #[s0, s1, s2, s3, s4, .pointer (some ⟨X5, 0, none⟩), .pointer (some ⟨X6, 0, none⟩), s7, s8, .pointer (some ⟨X9, 0, none⟩), s10, s11, s12, s13, s14, s15, s16, s17, s18, s19, s20, s21, s22, s23, s24, s25, s26, s27, s28, s29, s30, s31, s32, s33, s34, s35, s36, s37, s38, s39, s40, s41, s42, s43, s44, s45, .pointer (some ⟨X5, 1, none⟩), .int .i64 a.t, .pointer (some ⟨X6, 1, none⟩), .int .i64 b.t, .bool false, .bool false, selS b6 (.pointer (some ⟨X5, 2, none⟩)) (s52), selS b7 (.int .i64 a.s) (s53), s54, s55, s56, s57, s58, s59, s60, s61, s62, s63, s64, s65, s66, s67, s68, s69, s70, s71, s72, s73, s74, s75], defers := [] } w := by
  refine wpOp_step (o := { dst := some 54, op := Op.fieldAddr 24 (Operand.tmp 6) 2, type := 0, pos := "laws.go:1124", after := #[{ on := 5, ground := Ground.guard }], guard := some (5, false) }) rfl (fun K hK => ?_)
  replace hK := hid hK
  go_simp
  exact hK.out _ _ ⟨true, true, true, true, true, true, b6, b7, true, false, false, false, false, false, false, false, false, false, false, dm, rfl, rfl, hB, hrX5, hrX6, hrX9, he1, he2⟩
set_option maxRecDepth 20000 in
set_option maxHeartbeats 1000000 in
theorem w8_s9 {Q : Exit → Act → World → Prop} (w0 : World) (X5 X6 X9 : Nat) (a b u : Se) (s0 s1 s2 s3 s4 s7 s8 s10 s11 s12 s13 s14 s15 s16 s17 s18 s19 s20 s21 s22 s23 s24 s25 s26 s27 s28 s29 s30 s31 s32 s33 s34 s35 s36 s37 s38 s39 s40 s41 s42 s43 s44 s45 s46 s47 s48 s49 s50 s51 s52 s53 s54 s55 s56 s57 s58 s59 s60 s61 s62 s63 s64 s65 s66 s67 s68 s69 s70 s71 s72 s73 s74 s75 : Value) (b6 b7 : Bool) (dm : Nat) (w : World) (hB : Below w0.heap.size w0 w) (hrX5 : RowAt w X5 24 #[.string a.k, .int .i64 a.t, .int .i64 a.s, .bool a.g, .string a.d]) (hrX6 : RowAt w X6 24 #[.string b.k, .int .i64 b.t, .int .i64 b.s, .bool b.g, .string b.d]) (hrX9 : RowAt w X9 24 #[.string u.k, .int .i64 u.t, .int .i64 u.s, .bool u.g, .string u.d]) (he1 : (a.t != b.t) = false) (he2 : (a.s != b.s) = false) :
    wpOp Try.prog w8O Q 9 (w8I w0 X5 X6 X9 a b u s0 s1 s2 s3 s4 s7 s8 s10 s11 s12 s13 s14 s15 s16 s17 s18 s19 s20 s21 s22 s23 s24 s25 s26 s27 s28 s29 s30 s31 s32 s33 s34 s35 s36 s37 s38 s39 s40 s41 s42 s43 s44 s45 s46 s47 s48 s49 s50 s51 s52 s53 s54 s55 s56 s57 s58 s59 s60 s61 s62 s63 s64 s65 s66 s67 s68 s69 s70 s71 s72 s73 s74 s75 #[true, true, true, true, true, true, b6, b7, true, true, false, false, false, false, false, false, false, false, false]) { tmps := #[s0, s1, s2, s3, s4, .pointer (some ⟨X5, 0, none⟩), .pointer (some ⟨X6, 0, none⟩), s7, s8, .pointer (some ⟨X9, 0, none⟩), s10, s11, s12, s13, s14, s15, s16, s17, s18, s19, s20, s21, s22, s23, s24, s25, s26, s27, s28, s29, s30, s31, s32, s33, s34, s35, s36, s37, s38, s39, s40, s41, s42, s43, s44, s45, .pointer (some ⟨X5, 1, none⟩), .int .i64 a.t, .pointer (some ⟨X6, 1, none⟩), .int .i64 b.t, .bool false, .bool false, selS b6 (.pointer (some ⟨X5, 2, none⟩)) (s52), selS b7 (.int .i64 a.s) (s53), .pointer (some ⟨X6, 2, none⟩), s55, s56, s57, s58, s59, s60, s61, s62, s63, s64, s65, s66, s67, s68, s69, s70, s71, s72, s73, s74, s75], defers := [] } w := by
  have q0 := hrX6.cell 0
  have q1 := hrX6.cell 1
  have q2 := hrX6.cell 2
  have q3 := hrX6.cell 3
  have q4 := hrX6.cell 4
  refine wpOp_step (o := { dst := some 55, op := Op.load 2 (Operand.tmp 54), type := 2, pos := "laws.go:1124", after := #[{ on := 8, ground := Ground.data }, { on := 5, ground := Ground.guard }], guard := some (5, false) }) rfl (fun K hK => ?_)
  replace hK := hid hK
  go_simp
  exact hK.out _ _ ⟨true, true, true, true, true, true, b6, b7, true, true, false, false, false, false, false, false, false, false, false, dm, rfl, rfl, hB, hrX5, hrX6, hrX9, he1, he2⟩
set_option maxRecDepth 20000 in
set_option maxHeartbeats 1000000 in
theorem w8_s10 {Q : Exit → Act → World → Prop} (w0 : World) (X5 X6 X9 : Nat) (a b u : Se) (s0 s1 s2 s3 s4 s7 s8 s10 s11 s12 s13 s14 s15 s16 s17 s18 s19 s20 s21 s22 s23 s24 s25 s26 s27 s28 s29 s30 s31 s32 s33 s34 s35 s36 s37 s38 s39 s40 s41 s42 s43 s44 s45 s46 s47 s48 s49 s50 s51 s52 s53 s54 s55 s56 s57 s58 s59 s60 s61 s62 s63 s64 s65 s66 s67 s68 s69 s70 s71 s72 s73 s74 s75 : Value) (dm : Nat) (w : World) (hB : Below w0.heap.size w0 w) (hrX5 : RowAt w X5 24 #[.string a.k, .int .i64 a.t, .int .i64 a.s, .bool a.g, .string a.d]) (hrX6 : RowAt w X6 24 #[.string b.k, .int .i64 b.t, .int .i64 b.s, .bool b.g, .string b.d]) (hrX9 : RowAt w X9 24 #[.string u.k, .int .i64 u.t, .int .i64 u.s, .bool u.g, .string u.d]) (he1 : (a.t != b.t) = false) (he2 : (a.s != b.s) = false) :
    wpOp Try.prog w8O Q 10 (w8I w0 X5 X6 X9 a b u s0 s1 s2 s3 s4 s7 s8 s10 s11 s12 s13 s14 s15 s16 s17 s18 s19 s20 s21 s22 s23 s24 s25 s26 s27 s28 s29 s30 s31 s32 s33 s34 s35 s36 s37 s38 s39 s40 s41 s42 s43 s44 s45 s46 s47 s48 s49 s50 s51 s52 s53 s54 s55 s56 s57 s58 s59 s60 s61 s62 s63 s64 s65 s66 s67 s68 s69 s70 s71 s72 s73 s74 s75 #[true, true, true, true, true, true, true, true, true, true, true, false, false, false, false, false, false, false, false]) { tmps := #[s0, s1, s2, s3, s4, .pointer (some ⟨X5, 0, none⟩), .pointer (some ⟨X6, 0, none⟩), s7, s8, .pointer (some ⟨X9, 0, none⟩), s10, s11, s12, s13, s14, s15, s16, s17, s18, s19, s20, s21, s22, s23, s24, s25, s26, s27, s28, s29, s30, s31, s32, s33, s34, s35, s36, s37, s38, s39, s40, s41, s42, s43, s44, s45, .pointer (some ⟨X5, 1, none⟩), .int .i64 a.t, .pointer (some ⟨X6, 1, none⟩), .int .i64 b.t, .bool false, .bool false, .pointer (some ⟨X5, 2, none⟩), .int .i64 a.s, .pointer (some ⟨X6, 2, none⟩), .int .i64 b.s, s56, s57, s58, s59, s60, s61, s62, s63, s64, s65, s66, s67, s68, s69, s70, s71, s72, s73, s74, s75], defers := [] } w := by
  refine wpOp_step (o := { dst := some 56, op := Op.binOp BinOp.neq 2 (Operand.tmp 53) (Operand.tmp 55) 2, type := 4, pos := "laws.go:1124", after := #[{ on := 7, ground := Ground.data }, { on := 9, ground := Ground.data }, { on := 5, ground := Ground.guard }], guard := some (5, false) }) rfl (fun K hK => ?_)
  replace hK := hid hK
  go_simp
  exact hK.out _ _ ⟨true, true, true, true, true, true, true, true, true, true, true, false, false, false, false, false, false, false, false, dm, rfl, rfl, hB, hrX5, hrX6, hrX9, he1, he2⟩
set_option maxRecDepth 20000 in
set_option maxHeartbeats 1000000 in
theorem w8_s11 {Q : Exit → Act → World → Prop} (w0 : World) (X5 X6 X9 : Nat) (a b u : Se) (s0 s1 s2 s3 s4 s7 s8 s10 s11 s12 s13 s14 s15 s16 s17 s18 s19 s20 s21 s22 s23 s24 s25 s26 s27 s28 s29 s30 s31 s32 s33 s34 s35 s36 s37 s38 s39 s40 s41 s42 s43 s44 s45 s46 s47 s48 s49 s50 s51 s52 s53 s54 s55 s56 s57 s58 s59 s60 s61 s62 s63 s64 s65 s66 s67 s68 s69 s70 s71 s72 s73 s74 s75 : Value) (dm : Nat) (w : World) (hB : Below w0.heap.size w0 w) (hrX5 : RowAt w X5 24 #[.string a.k, .int .i64 a.t, .int .i64 a.s, .bool a.g, .string a.d]) (hrX6 : RowAt w X6 24 #[.string b.k, .int .i64 b.t, .int .i64 b.s, .bool b.g, .string b.d]) (hrX9 : RowAt w X9 24 #[.string u.k, .int .i64 u.t, .int .i64 u.s, .bool u.g, .string u.d]) (he1 : (a.t != b.t) = false) (he2 : (a.s != b.s) = false) :
    wpOp Try.prog w8O Q 11 (w8I w0 X5 X6 X9 a b u s0 s1 s2 s3 s4 s7 s8 s10 s11 s12 s13 s14 s15 s16 s17 s18 s19 s20 s21 s22 s23 s24 s25 s26 s27 s28 s29 s30 s31 s32 s33 s34 s35 s36 s37 s38 s39 s40 s41 s42 s43 s44 s45 s46 s47 s48 s49 s50 s51 s52 s53 s54 s55 s56 s57 s58 s59 s60 s61 s62 s63 s64 s65 s66 s67 s68 s69 s70 s71 s72 s73 s74 s75 #[true, true, true, true, true, true, true, true, true, true, true, true, false, false, false, false, false, false, false]) { tmps := #[s0, s1, s2, s3, s4, .pointer (some ⟨X5, 0, none⟩), .pointer (some ⟨X6, 0, none⟩), s7, s8, .pointer (some ⟨X9, 0, none⟩), s10, s11, s12, s13, s14, s15, s16, s17, s18, s19, s20, s21, s22, s23, s24, s25, s26, s27, s28, s29, s30, s31, s32, s33, s34, s35, s36, s37, s38, s39, s40, s41, s42, s43, s44, s45, .pointer (some ⟨X5, 1, none⟩), .int .i64 a.t, .pointer (some ⟨X6, 1, none⟩), .int .i64 b.t, .bool false, .bool false, .pointer (some ⟨X5, 2, none⟩), .int .i64 a.s, .pointer (some ⟨X6, 2, none⟩), .int .i64 b.s, .bool false, s57, s58, s59, s60, s61, s62, s63, s64, s65, s66, s67, s68, s69, s70, s71, s72, s73, s74, s75], defers := [] } w := by
  refine wpOp_step (o := { dst := some 57, op := Op.pick (Operand.tmp 51) (Operand.const (Value.bool true)) (Operand.tmp 56), type := 4, pos := "laws.go:1124", after := #[{ on := 5, ground := Ground.data }, { on := 10, ground := Ground.data }], guard := none }) rfl (fun K hK => ?_)
  replace hK := hid hK
  go_simp
  exact hK.out _ _ ⟨true, true, true, true, true, true, true, true, true, true, true, true, false, false, false, false, false, false, false, dm, rfl, rfl, hB, hrX5, hrX6, hrX9, he1, he2⟩
set_option maxRecDepth 20000 in
set_option maxHeartbeats 1000000 in
theorem w8_s12 {Q : Exit → Act → World → Prop} (w0 : World) (X5 X6 X9 : Nat) (a b u : Se) (s0 s1 s2 s3 s4 s7 s8 s10 s11 s12 s13 s14 s15 s16 s17 s18 s19 s20 s21 s22 s23 s24 s25 s26 s27 s28 s29 s30 s31 s32 s33 s34 s35 s36 s37 s38 s39 s40 s41 s42 s43 s44 s45 s46 s47 s48 s49 s50 s51 s52 s53 s54 s55 s56 s57 s58 s59 s60 s61 s62 s63 s64 s65 s66 s67 s68 s69 s70 s71 s72 s73 s74 s75 : Value) (dm : Nat) (w : World) (hB : Below w0.heap.size w0 w) (hrX5 : RowAt w X5 24 #[.string a.k, .int .i64 a.t, .int .i64 a.s, .bool a.g, .string a.d]) (hrX6 : RowAt w X6 24 #[.string b.k, .int .i64 b.t, .int .i64 b.s, .bool b.g, .string b.d]) (hrX9 : RowAt w X9 24 #[.string u.k, .int .i64 u.t, .int .i64 u.s, .bool u.g, .string u.d]) (he1 : (a.t != b.t) = false) (he2 : (a.s != b.s) = false) :
    wpOp Try.prog w8O Q 12 (w8I w0 X5 X6 X9 a b u s0 s1 s2 s3 s4 s7 s8 s10 s11 s12 s13 s14 s15 s16 s17 s18 s19 s20 s21 s22 s23 s24 s25 s26 s27 s28 s29 s30 s31 s32 s33 s34 s35 s36 s37 s38 s39 s40 s41 s42 s43 s44 s45 s46 s47 s48 s49 s50 s51 s52 s53 s54 s55 s56 s57 s58 s59 s60 s61 s62 s63 s64 s65 s66 s67 s68 s69 s70 s71 s72 s73 s74 s75 #[true, true, true, true, true, true, true, true, true, true, true, true, true, false, false, false, false, false, false]) { tmps := #[s0, s1, s2, s3, s4, .pointer (some ⟨X5, 0, none⟩), .pointer (some ⟨X6, 0, none⟩), s7, s8, .pointer (some ⟨X9, 0, none⟩), s10, s11, s12, s13, s14, s15, s16, s17, s18, s19, s20, s21, s22, s23, s24, s25, s26, s27, s28, s29, s30, s31, s32, s33, s34, s35, s36, s37, s38, s39, s40, s41, s42, s43, s44, s45, .pointer (some ⟨X5, 1, none⟩), .int .i64 a.t, .pointer (some ⟨X6, 1, none⟩), .int .i64 b.t, .bool false, .bool false, .pointer (some ⟨X5, 2, none⟩), .int .i64 a.s, .pointer (some ⟨X6, 2, none⟩), .int .i64 b.s, .bool false, .bool false, s58, s59, s60, s61, s62, s63, s64, s65, s66, s67, s68, s69, s70, s71, s72, s73, s74, s75], defers := [] } w := by
  refine wpOp_step (o := { dst := some 58, op := Op.move (Operand.tmp 57), type := 4, pos := "laws.go:1124", after := #[{ on := 11, ground := Ground.data }, { on := 5, ground := Ground.chain }], guard := none }) rfl (fun K hK => ?_)
  replace hK := hid hK
  go_simp
  exact hK.out _ _ ⟨true, true, true, true, true, true, true, true, true, true, true, true, true, false, false, false, false, false, false, dm, rfl, rfl, hB, hrX5, hrX6, hrX9, he1, he2⟩
set_option maxRecDepth 20000 in
set_option maxHeartbeats 1000000 in
theorem w8_s13 {Q : Exit → Act → World → Prop} (w0 : World) (X5 X6 X9 : Nat) (a b u : Se) (s0 s1 s2 s3 s4 s7 s8 s10 s11 s12 s13 s14 s15 s16 s17 s18 s19 s20 s21 s22 s23 s24 s25 s26 s27 s28 s29 s30 s31 s32 s33 s34 s35 s36 s37 s38 s39 s40 s41 s42 s43 s44 s45 s46 s47 s48 s49 s50 s51 s52 s53 s54 s55 s56 s57 s58 s59 s60 s61 s62 s63 s64 s65 s66 s67 s68 s69 s70 s71 s72 s73 s74 s75 : Value) (b14 b16 : Bool) (dm : Nat) (w : World) (hB : Below w0.heap.size w0 w) (hrX5 : RowAt w X5 24 #[.string a.k, .int .i64 a.t, .int .i64 a.s, .bool a.g, .string a.d]) (hrX6 : RowAt w X6 24 #[.string b.k, .int .i64 b.t, .int .i64 b.s, .bool b.g, .string b.d]) (hrX9 : RowAt w X9 24 #[.string u.k, .int .i64 u.t, .int .i64 u.s, .bool u.g, .string u.d]) (he1 : (a.t != b.t) = false) (he2 : (a.s != b.s) = false) :
    wpOp Try.prog w8O Q 13 (w8I w0 X5 X6 X9 a b u s0 s1 s2 s3 s4 s7 s8 s10 s11 s12 s13 s14 s15 s16 s17 s18 s19 s20 s21 s22 s23 s24 s25 s26 s27 s28 s29 s30 s31 s32 s33 s34 s35 s36 s37 s38 s39 s40 s41 s42 s43 s44 s45 s46 s47 s48 s49 s50 s51 s52 s53 s54 s55 s56 s57 s58 s59 s60 s61 s62 s63 s64 s65 s66 s67 s68 s69 s70 s71 s72 s73 s74 s75 #[true, true, true, true, true, true, true, true, true, true, true, true, true, true, b14, false, b16, false, false]) { tmps := #[s0, s1, s2, s3, s4, .pointer (some ⟨X5, 0, none⟩), .pointer (some ⟨X6, 0, none⟩), s7, s8, .pointer (some ⟨X9, 0, none⟩), s10, s11, s12, s13, s14, s15, s16, s17, s18, s19, s20, s21, s22, s23, s24, s25, s26, s27, s28, s29, s30, s31, s32, s33, s34, s35, s36, s37, s38, s39, s40, s41, s42, s43, s44, s45, .pointer (some ⟨X5, 1, none⟩), .int .i64 a.t, .pointer (some ⟨X6, 1, none⟩), .int .i64 b.t, .bool false, .bool false, .pointer (some ⟨X5, 2, none⟩), .int .i64 a.s, .pointer (some ⟨X6, 2, none⟩), .int .i64 b.s, .bool false, .bool false, .bool false, s59, selS b14 (undef) (s60), s61, selS b16 (undef) (s62), s63, s64, s65, s66, s67, s68, s69, s70, s71, s72, s73, s74, s75], defers := [] } w := by
  have q0 := hrX6.cell 0
  have q1 := hrX6.cell 1
  have q2 := hrX6.cell 2
  have q3 := hrX6.cell 3
  have q4 := hrX6.cell 4
  refine wpOp_step (o := { dst := some 59, op := Op.load 24 (Operand.tmp 6), type := 24, pos := "laws.go:1124", after := #[{ on := 12, ground := Ground.guard }], guard := some (12, true) }) rfl (fun K hK => ?_)
  replace hK := hid hK
  go_simp
  exact hK.out _ _ ⟨true, true, true, true, true, true, true, true, true, true, true, true, true, true, b14, false, b16, false, false, dm, rfl, rfl, hB, hrX5, hrX6, hrX9, he1, he2⟩
set_option maxRecDepth 20000 in
set_option maxHeartbeats 1000000 in
theorem w8_s14 {Q : Exit → Act → World → Prop} (w0 : World) (X5 X6 X9 : Nat) (a b u : Se) (s0 s1 s2 s3 s4 s7 s8 s10 s11 s12 s13 s14 s15 s16 s17 s18 s19 s20 s21 s22 s23 s24 s25 s26 s27 s28 s29 s30 s31 s32 s33 s34 s35 s36 s37 s38 s39 s40 s41 s42 s43 s44 s45 s46 s47 s48 s49 s50 s51 s52 s53 s54 s55 s56 s57 s58 s59 s60 s61 s62 s63 s64 s65 s66 s67 s68 s69 s70 s71 s72 s73 s74 s75 : Value) (b13 b16 : Bool) (dm : Nat) (w : World) (hB : Below w0.heap.size w0 w) (hrX5 : RowAt w X5 24 #[.string a.k, .int .i64 a.t, .int .i64 a.s, .bool a.g, .string a.d]) (hrX6 : RowAt w X6 24 #[.string b.k, .int .i64 b.t, .int .i64 b.s, .bool b.g, .string b.d]) (hrX9 : RowAt w X9 24 #[.string u.k, .int .i64 u.t, .int .i64 u.s, .bool u.g, .string u.d]) (he1 : (a.t != b.t) = false) (he2 : (a.s != b.s) = false) :
    wpOp Try.prog w8O Q 14 (w8I w0 X5 X6 X9 a b u s0 s1 s2 s3 s4 s7 s8 s10 s11 s12 s13 s14 s15 s16 s17 s18 s19 s20 s21 s22 s23 s24 s25 s26 s27 s28 s29 s30 s31 s32 s33 s34 s35 s36 s37 s38 s39 s40 s41 s42 s43 s44 s45 s46 s47 s48 s49 s50 s51 s52 s53 s54 s55 s56 s57 s58 s59 s60 s61 s62 s63 s64 s65 s66 s67 s68 s69 s70 s71 s72 s73 s74 s75 #[true, true, true, true, true, true, true, true, true, true, true, true, true, b13, true, false, b16, false, false]) { tmps := #[s0, s1, s2, s3, s4, .pointer (some ⟨X5, 0, none⟩), .pointer (some ⟨X6, 0, none⟩), s7, s8, .pointer (some ⟨X9, 0, none⟩), s10, s11, s12, s13, s14, s15, s16, s17, s18, s19, s20, s21, s22, s23, s24, s25, s26, s27, s28, s29, s30, s31, s32, s33, s34, s35, s36, s37, s38, s39, s40, s41, s42, s43, s44, s45, .pointer (some ⟨X5, 1, none⟩), .int .i64 a.t, .pointer (some ⟨X6, 1, none⟩), .int .i64 b.t, .bool false, .bool false, .pointer (some ⟨X5, 2, none⟩), .int .i64 a.s, .pointer (some ⟨X6, 2, none⟩), .int .i64 b.s, .bool false, .bool false, .bool false, selS b13 (undef) (s59), s60, s61, selS b16 (undef) (s62), s63, s64, s65, s66, s67, s68, s69, s70, s71, s72, s73, s74, s75], defers := [] } w := by
  have q0 := hrX5.cell 0
  have q1 := hrX5.cell 1
  have q2 := hrX5.cell 2
  have q3 := hrX5.cell 3
  have q4 := hrX5.cell 4
  refine wpOp_step (o := { dst := some 60, op := Op.load 24 (Operand.tmp 5), type := 24, pos := "laws.go:1124", after := #[{ on := 12, ground := Ground.guard }], guard := some (12, true) }) rfl (fun K hK => ?_)
  replace hK := hid hK
  go_simp
  exact hK.out _ _ ⟨true, true, true, true, true, true, true, true, true, true, true, true, true, b13, true, false, b16, false, false, dm, rfl, rfl, hB, hrX5, hrX6, hrX9, he1, he2⟩
set_option maxRecDepth 20000 in
set_option maxHeartbeats 1000000 in
theorem w8_s15 {Q : Exit → Act → World → Prop} (w0 : World) (X5 X6 X9 : Nat) (a b u : Se) (s0 s1 s2 s3 s4 s7 s8 s10 s11 s12 s13 s14 s15 s16 s17 s18 s19 s20 s21 s22 s23 s24 s25 s26 s27 s28 s29 s30 s31 s32 s33 s34 s35 s36 s37 s38 s39 s40 s41 s42 s43 s44 s45 s46 s47 s48 s49 s50 s51 s52 s53 s54 s55 s56 s57 s58 s59 s60 s61 s62 s63 s64 s65 s66 s67 s68 s69 s70 s71 s72 s73 s74 s75 : Value) (b16 : Bool) (dm : Nat) (w : World) (hB : Below w0.heap.size w0 w) (hrX5 : RowAt w X5 24 #[.string a.k, .int .i64 a.t, .int .i64 a.s, .bool a.g, .string a.d]) (hrX6 : RowAt w X6 24 #[.string b.k, .int .i64 b.t, .int .i64 b.s, .bool b.g, .string b.d]) (hrX9 : RowAt w X9 24 #[.string u.k, .int .i64 u.t, .int .i64 u.s, .bool u.g, .string u.d]) (he1 : (a.t != b.t) = false) (he2 : (a.s != b.s) = false) :
    wpOp Try.prog w8O Q 15 (w8I w0 X5 X6 X9 a b u s0 s1 s2 s3 s4 s7 s8 s10 s11 s12 s13 s14 s15 s16 s17 s18 s19 s20 s21 s22 s23 s24 s25 s26 s27 s28 s29 s30 s31 s32 s33 s34 s35 s36 s37 s38 s39 s40 s41 s42 s43 s44 s45 s46 s47 s48 s49 s50 s51 s52 s53 s54 s55 s56 s57 s58 s59 s60 s61 s62 s63 s64 s65 s66 s67 s68 s69 s70 s71 s72 s73 s74 s75 #[true, true, true, true, true, true, true, true, true, true, true, true, true, true, true, true, b16, false, false]) { tmps := #[s0, s1, s2, s3, s4, .pointer (some ⟨X5, 0, none⟩), .pointer (some ⟨X6, 0, none⟩), s7, s8, .pointer (some ⟨X9, 0, none⟩), s10, s11, s12, s13, s14, s15, s16, s17, s18, s19, s20, s21, s22, s23, s24, s25, s26, s27, s28, s29, s30, s31, s32, s33, s34, s35, s36, s37, s38, s39, s40, s41, s42, s43, s44, s45, .pointer (some ⟨X5, 1, none⟩), .int .i64 a.t, .pointer (some ⟨X6, 1, none⟩), .int .i64 b.t, .bool false, .bool false, .pointer (some ⟨X5, 2, none⟩), .int .i64 a.s, .pointer (some ⟨X6, 2, none⟩), .int .i64 b.s, .bool false, .bool false, .bool false, undef, undef, s61, selS b16 (undef) (s62), s63, s64, s65, s66, s67, s68, s69, s70, s71, s72, s73, s74, s75], defers := [] } w := by
  refine wpOp_step (o := { dst := some 61, op := Op.call { callee := Callee.value (Operand.func 6), args := #[Operand.tmp 59, Operand.tmp 60], argTypes := #[24, 24] }, type := 24, pos := "laws.go:1124", after := #[{ on := 13, ground := Ground.data }, { on := 14, ground := Ground.data }, { on := 12, ground := Ground.chain }, { on := 12, ground := Ground.guard }], guard := some (12, true) }) rfl (fun K hK => ?_)
  replace hK := hid hK
  go_simp
  exact hK.out _ _ ⟨true, true, true, true, true, true, true, true, true, true, true, true, true, true, true, true, b16, false, false, dm, rfl, rfl, hB, hrX5, hrX6, hrX9, he1, he2⟩
set_option maxRecDepth 20000 in
set_option maxHeartbeats 1000000 in
theorem w8_s16 {Q : Exit → Act → World → Prop} (w0 : World) (X5 X6 X9 : Nat) (a b u : Se) (s0 s1 s2 s3 s4 s7 s8 s10 s11 s12 s13 s14 s15 s16 s17 s18 s19 s20 s21 s22 s23 s24 s25 s26 s27 s28 s29 s30 s31 s32 s33 s34 s35 s36 s37 s38 s39 s40 s41 s42 s43 s44 s45 s46 s47 s48 s49 s50 s51 s52 s53 s54 s55 s56 s57 s58 s59 s60 s61 s62 s63 s64 s65 s66 s67 s68 s69 s70 s71 s72 s73 s74 s75 : Value) (b13 b14 b15 : Bool) (dm : Nat) (w : World) (hB : Below w0.heap.size w0 w) (hrX5 : RowAt w X5 24 #[.string a.k, .int .i64 a.t, .int .i64 a.s, .bool a.g, .string a.d]) (hrX6 : RowAt w X6 24 #[.string b.k, .int .i64 b.t, .int .i64 b.s, .bool b.g, .string b.d]) (hrX9 : RowAt w X9 24 #[.string u.k, .int .i64 u.t, .int .i64 u.s, .bool u.g, .string u.d]) (he1 : (a.t != b.t) = false) (he2 : (a.s != b.s) = false) :
    wpOp Try.prog w8O Q 16 (w8I w0 X5 X6 X9 a b u s0 s1 s2 s3 s4 s7 s8 s10 s11 s12 s13 s14 s15 s16 s17 s18 s19 s20 s21 s22 s23 s24 s25 s26 s27 s28 s29 s30 s31 s32 s33 s34 s35 s36 s37 s38 s39 s40 s41 s42 s43 s44 s45 s46 s47 s48 s49 s50 s51 s52 s53 s54 s55 s56 s57 s58 s59 s60 s61 s62 s63 s64 s65 s66 s67 s68 s69 s70 s71 s72 s73 s74 s75 #[true, true, true, true, true, true, true, true, true, true, true, true, true, b13, b14, b15, true, false, false]) { tmps := #[s0, s1, s2, s3, s4, .pointer (some ⟨X5, 0, none⟩), .pointer (some ⟨X6, 0, none⟩), s7, s8, .pointer (some ⟨X9, 0, none⟩), s10, s11, s12, s13, s14, s15, s16, s17, s18, s19, s20, s21, s22, s23, s24, s25, s26, s27, s28, s29, s30, s31, s32, s33, s34, s35, s36, s37, s38, s39, s40, s41, s42, s43, s44, s45, .pointer (some ⟨X5, 1, none⟩), .int .i64 a.t, .pointer (some ⟨X6, 1, none⟩), .int .i64 b.t, .bool false, .bool false, .pointer (some ⟨X5, 2, none⟩), .int .i64 a.s, .pointer (some ⟨X6, 2, none⟩), .int .i64 b.s, .bool false, .bool false, .bool false, selS b13 (undef) (s59), selS b14 (undef) (s60), selS b15 (undef) (s61), s62, s63, s64, s65, s66, s67, s68, s69, s70, s71, s72, s73, s74, s75], defers := [] } w := by
  have q0 := hrX9.cell 0
  have q1 := hrX9.cell 1
  have q2 := hrX9.cell 2
  have q3 := hrX9.cell 3
  have q4 := hrX9.cell 4
  refine wpOp_step (o := { dst := some 62, op := Op.load 24 (Operand.tmp 9), type := 24, pos := "laws.go:1124", after := #[{ on := 12, ground := Ground.guard }], guard := some (12, true) }) rfl (fun K hK => ?_)
  replace hK := hid hK
  go_simp
  exact hK.out _ _ ⟨true, true, true, true, true, true, true, true, true, true, true, true, true, b13, b14, b15, true, false, false, dm, rfl, rfl, hB, hrX5, hrX6, hrX9, he1, he2⟩
set_option maxRecDepth 20000 in
set_option maxHeartbeats 1000000 in
theorem w8_s17 {Q : Exit → Act → World → Prop} (w0 : World) (X5 X6 X9 : Nat) (a b u : Se) (s0 s1 s2 s3 s4 s7 s8 s10 s11 s12 s13 s14 s15 s16 s17 s18 s19 s20 s21 s22 s23 s24 s25 s26 s27 s28 s29 s30 s31 s32 s33 s34 s35 s36 s37 s38 s39 s40 s41 s42 s43 s44 s45 s46 s47 s48 s49 s50 s51 s52 s53 s54 s55 s56 s57 s58 s59 s60 s61 s62 s63 s64 s65 s66 s67 s68 s69 s70 s71 s72 s73 s74 s75 : Value) (dm : Nat) (w : World) (hB : Below w0.heap.size w0 w) (hrX5 : RowAt w X5 24 #[.string a.k, .int .i64 a.t, .int .i64 a.s, .bool a.g, .string a.d]) (hrX6 : RowAt w X6 24 #[.string b.k, .int .i64 b.t, .int .i64 b.s, .bool b.g, .string b.d]) (hrX9 : RowAt w X9 24 #[.string u.k, .int .i64 u.t, .int .i64 u.s, .bool u.g, .string u.d]) (he1 : (a.t != b.t) = false) (he2 : (a.s != b.s) = false) :
    wpOp Try.prog w8O Q 17 (w8I w0 X5 X6 X9 a b u s0 s1 s2 s3 s4 s7 s8 s10 s11 s12 s13 s14 s15 s16 s17 s18 s19 s20 s21 s22 s23 s24 s25 s26 s27 s28 s29 s30 s31 s32 s33 s34 s35 s36 s37 s38 s39 s40 s41 s42 s43 s44 s45 s46 s47 s48 s49 s50 s51 s52 s53 s54 s55 s56 s57 s58 s59 s60 s61 s62 s63 s64 s65 s66 s67 s68 s69 s70 s71 s72 s73 s74 s75 #[true, true, true, true, true, true, true, true, true, true, true, true, true, true, true, true, true, true, false]) { tmps := #[s0, s1, s2, s3, s4, .pointer (some ⟨X5, 0, none⟩), .pointer (some ⟨X6, 0, none⟩), s7, s8, .pointer (some ⟨X9, 0, none⟩), s10, s11, s12, s13, s14, s15, s16, s17, s18, s19, s20, s21, s22, s23, s24, s25, s26, s27, s28, s29, s30, s31, s32, s33, s34, s35, s36, s37, s38, s39, s40, s41, s42, s43, s44, s45, .pointer (some ⟨X5, 1, none⟩), .int .i64 a.t, .pointer (some ⟨X6, 1, none⟩), .int .i64 b.t, .bool false, .bool false, .pointer (some ⟨X5, 2, none⟩), .int .i64 a.s, .pointer (some ⟨X6, 2, none⟩), .int .i64 b.s, .bool false, .bool false, .bool false, undef, undef, undef, undef, s63, s64, s65, s66, s67, s68, s69, s70, s71, s72, s73, s74, s75], defers := [] } w := by
  refine wpOp_step (o := { dst := some 63, op := Op.binOp BinOp.neq 24 (Operand.tmp 61) (Operand.tmp 62) 24, type := 4, pos := "laws.go:1124", after := #[{ on := 15, ground := Ground.data }, { on := 16, ground := Ground.data }, { on := 12, ground := Ground.guard }], guard := some (12, true) }) rfl (fun K hK => ?_)
  replace hK := hid hK
  go_simp
  exact hK.out _ _ ⟨true, true, true, true, true, true, true, true, true, true, true, true, true, true, true, true, true, true, false, dm, rfl, rfl, hB, hrX5, hrX6, hrX9, he1, he2⟩
set_option maxRecDepth 20000 in
set_option maxHeartbeats 1000000 in
theorem w8_s18 {Q : Exit → Act → World → Prop} (w0 : World) (X5 X6 X9 : Nat) (a b u : Se) (s0 s1 s2 s3 s4 s7 s8 s10 s11 s12 s13 s14 s15 s16 s17 s18 s19 s20 s21 s22 s23 s24 s25 s26 s27 s28 s29 s30 s31 s32 s33 s34 s35 s36 s37 s38 s39 s40 s41 s42 s43 s44 s45 s46 s47 s48 s49 s50 s51 s52 s53 s54 s55 s56 s57 s58 s59 s60 s61 s62 s63 s64 s65 s66 s67 s68 s69 s70 s71 s72 s73 s74 s75 : Value) (dm : Nat) (w : World) (hB : Below w0.heap.size w0 w) (hrX5 : RowAt w X5 24 #[.string a.k, .int .i64 a.t, .int .i64 a.s, .bool a.g, .string a.d]) (hrX6 : RowAt w X6 24 #[.string b.k, .int .i64 b.t, .int .i64 b.s, .bool b.g, .string b.d]) (hrX9 : RowAt w X9 24 #[.string u.k, .int .i64 u.t, .int .i64 u.s, .bool u.g, .string u.d]) (he1 : (a.t != b.t) = false) (he2 : (a.s != b.s) = false) :
    wpOp Try.prog w8O Q 18 (w8I w0 X5 X6 X9 a b u s0 s1 s2 s3 s4 s7 s8 s10 s11 s12 s13 s14 s15 s16 s17 s18 s19 s20 s21 s22 s23 s24 s25 s26 s27 s28 s29 s30 s31 s32 s33 s34 s35 s36 s37 s38 s39 s40 s41 s42 s43 s44 s45 s46 s47 s48 s49 s50 s51 s52 s53 s54 s55 s56 s57 s58 s59 s60 s61 s62 s63 s64 s65 s66 s67 s68 s69 s70 s71 s72 s73 s74 s75 #[true, true, true, true, true, true, true, true, true, true, true, true, true, true, true, true, true, true, true]) { tmps := #[s0, s1, s2, s3, s4, .pointer (some ⟨X5, 0, none⟩), .pointer (some ⟨X6, 0, none⟩), s7, s8, .pointer (some ⟨X9, 0, none⟩), s10, s11, s12, s13, s14, s15, s16, s17, s18, s19, s20, s21, s22, s23, s24, s25, s26, s27, s28, s29, s30, s31, s32, s33, s34, s35, s36, s37, s38, s39, s40, s41, s42, s43, s44, s45, .pointer (some ⟨X5, 1, none⟩), .int .i64 a.t, .pointer (some ⟨X6, 1, none⟩), .int .i64 b.t, .bool false, .bool false, .pointer (some ⟨X5, 2, none⟩), .int .i64 a.s, .pointer (some ⟨X6, 2, none⟩), .int .i64 b.s, .bool false, .bool false, .bool false, undef, undef, undef, undef, undef, s64, s65, s66, s67, s68, s69, s70, s71, s72, s73, s74, s75], defers := [] } w := by
  refine wpOp_step (o := { dst := some 64, op := Op.pick (Operand.tmp 58) (Operand.tmp 63) (Operand.const (Value.bool false)), type := 4, pos := "laws.go:1124", after := #[{ on := 12, ground := Ground.data }, { on := 17, ground := Ground.data }], guard := none }) rfl (fun K hK => ?_)
  replace hK := hid hK
  go_simp
  exact hK.out _ _ ⟨true, true, true, true, true, true, true, true, true, true, true, true, true, true, true, true, true, true, true, dm, rfl, rfl, hB, hrX5, hrX6, hrX9, he1, he2⟩
set_option maxRecDepth 20000 in
set_option maxHeartbeats 2000000 in
theorem w8_step {Q : Exit → Act → World → Prop} (w0 : World) (X5 X6 X9 : Nat) (a b u : Se) (s0 s1 s2 s3 s4 s7 s8 s10 s11 s12 s13 s14 s15 s16 s17 s18 s19 s20 s21 s22 s23 s24 s25 s26 s27 s28 s29 s30 s31 s32 s33 s34 s35 s36 s37 s38 s39 s40 s41 s42 s43 s44 s45 s46 s47 s48 s49 s50 s51 s52 s53 s54 s55 s56 s57 s58 s59 s60 s61 s62 s63 s64 s65 s66 s67 s68 s69 s70 s71 s72 s73 s74 s75 : Value) (l : Array Bool) (f : Act) (w : World) (hC : Closed w8O l) (hI : w8I w0 X5 X6 X9 a b u s0 s1 s2 s3 s4 s7 s8 s10 s11 s12 s13 s14 s15 s16 s17 s18 s19 s20 s21 s22 s23 s24 s25 s26 s27 s28 s29 s30 s31 s32 s33 s34 s35 s36 s37 s38 s39 s40 s41 s42 s43 s44 s45 s46 s47 s48 s49 s50 s51 s52 s53 s54 s55 s56 s57 s58 s59 s60 s61 s62 s63 s64 s65 s66 s67 s68 s69 s70 s71 s72 s73 s74 s75 l f w) (i : Nat) (h0 : l.getD i true = false) (o : Oper) (ho : w8O[i]? = some o) (h1 : ∀ e ∈ o.after, Region.binds .any e = true → l.getD e.on false = true) : wpOp Try.prog w8O Q i (w8I w0 X5 X6 X9 a b u s0 s1 s2 s3 s4 s7 s8 s10 s11 s12 s13 s14 s15 s16 s17 s18 s19 s20 s21 s22 s23 s24 s25 s26 s27 s28 s29 s30 s31 s32 s33 s34 s35 s36 s37 s38 s39 s40 s41 s42 s43 s44 s45 s46 s47 s48 s49 s50 s51 s52 s53 s54 s55 s56 s57 s58 s59 s60 s61 s62 s63 s64 s65 s66 s67 s68 s69 s70 s71 s72 s73 s74 s75 (l.setIfInBounds i true)) f w := by
  obtain ⟨b0, b1, b2, b3, b4, b5, b6, b7, b8, b9, b10, b11, b12, b13, b14, b15, b16, b17, b18, dm, rfl, rfl, hB, hrX5, hrX6, hrX9, he1, he2⟩ := hI
  have hi : i < 19 := by
    rcases Nat.lt_or_ge i 19 with h | h
    · exact h
    · rw [show w8O[i]? = none from Array.getElem?_eq_none h] at ho; cases ho
  rcases (by omega : i = 0 ∨ i = 1 ∨ i = 2 ∨ i = 3 ∨ i = 4 ∨ i = 5 ∨ i = 6 ∨ i = 7 ∨ i = 8 ∨ i = 9 ∨ i = 10 ∨ i = 11 ∨ i = 12 ∨ i = 13 ∨ i = 14 ∨ i = 15 ∨ i = 16 ∨ i = 17 ∨ i = 18) with rfl | rfl | rfl | rfl | rfl | rfl | rfl | rfl | rfl | rfl | rfl | rfl | rfl | rfl | rfl | rfl | rfl | rfl | rfl
  · obtain rfl : w8o0 = o := Option.some.inj ho
    obtain rfl : b0 = false := h0
    obtain rfl : b1 = false := by
      cases b1 with
      | false => rfl
      | true => exact Bool.noConfusion (show false = true from hC 1 w8o1 rfl rfl ⟨0, .data⟩ (by simp [w8o1]) rfl)
    obtain rfl : b4 = false := by
      cases b4 with
      | false => rfl
      | true => exact Bool.noConfusion (show false = true from hC 4 w8o4 rfl rfl ⟨1, .data⟩ (by simp [w8o4]) rfl)
    obtain rfl : b5 = false := by
      cases b5 with
      | false => rfl
      | true => exact Bool.noConfusion (show false = true from hC 5 w8o5 rfl rfl ⟨4, .data⟩ (by simp [w8o5]) rfl)
    obtain rfl : b6 = false := by
      cases b6 with
      | false => rfl
      | true => exact Bool.noConfusion (show false = true from hC 6 w8o6 rfl rfl ⟨5, .guard⟩ (by simp [w8o6]) rfl)
    obtain rfl : b7 = false := by
      cases b7 with
      | false => rfl
      | true => exact Bool.noConfusion (show false = true from hC 7 w8o7 rfl rfl ⟨5, .guard⟩ (by simp [w8o7]) rfl)
    obtain rfl : b8 = false := by
      cases b8 with
      | false => rfl
      | true => exact Bool.noConfusion (show false = true from hC 8 w8o8 rfl rfl ⟨5, .guard⟩ (by simp [w8o8]) rfl)
    obtain rfl : b9 = false := by
      cases b9 with
      | false => rfl
      | true => exact Bool.noConfusion (show false = true from hC 9 w8o9 rfl rfl ⟨5, .guard⟩ (by simp [w8o9]) rfl)
    obtain rfl : b10 = false := by
      cases b10 with
      | false => rfl
      | true => exact Bool.noConfusion (show false = true from hC 10 w8o10 rfl rfl ⟨5, .guard⟩ (by simp [w8o10]) rfl)
    obtain rfl : b11 = false := by
      cases b11 with
      | false => rfl
      | true => exact Bool.noConfusion (show false = true from hC 11 w8o11 rfl rfl ⟨5, .data⟩ (by simp [w8o11]) rfl)
    obtain rfl : b12 = false := by
      cases b12 with
      | false => rfl
      | true => exact Bool.noConfusion (show false = true from hC 12 w8o12 rfl rfl ⟨5, .chain⟩ (by simp [w8o12]) rfl)
    obtain rfl : b13 = false := by
      cases b13 with
      | false => rfl
      | true => exact Bool.noConfusion (show false = true from hC 13 w8o13 rfl rfl ⟨12, .guard⟩ (by simp [w8o13]) rfl)
    obtain rfl : b14 = false := by
      cases b14 with
      | false => rfl
      | true => exact Bool.noConfusion (show false = true from hC 14 w8o14 rfl rfl ⟨12, .guard⟩ (by simp [w8o14]) rfl)
    obtain rfl : b15 = false := by
      cases b15 with
      | false => rfl
      | true => exact Bool.noConfusion (show false = true from hC 15 w8o15 rfl rfl ⟨12, .chain⟩ (by simp [w8o15]) rfl)
    obtain rfl : b16 = false := by
      cases b16 with
      | false => rfl
      | true => exact Bool.noConfusion (show false = true from hC 16 w8o16 rfl rfl ⟨12, .guard⟩ (by simp [w8o16]) rfl)
    obtain rfl : b17 = false := by
      cases b17 with
      | false => rfl
      | true => exact Bool.noConfusion (show false = true from hC 17 w8o17 rfl rfl ⟨12, .guard⟩ (by simp [w8o17]) rfl)
    obtain rfl : b18 = false := by
      cases b18 with
      | false => rfl
      | true => exact Bool.noConfusion (show false = true from hC 18 w8o18 rfl rfl ⟨12, .data⟩ (by simp [w8o18]) rfl)
    exact w8_s0 w0 X5 X6 X9 a b u s0 s1 s2 s3 s4 s7 s8 s10 s11 s12 s13 s14 s15 s16 s17 s18 s19 s20 s21 s22 s23 s24 s25 s26 s27 s28 s29 s30 s31 s32 s33 s34 s35 s36 s37 s38 s39 s40 s41 s42 s43 s44 s45 s46 s47 s48 s49 s50 s51 s52 s53 s54 s55 s56 s57 s58 s59 s60 s61 s62 s63 s64 s65 s66 s67 s68 s69 s70 s71 s72 s73 s74 s75 b2 b3 dm w hB hrX5 hrX6 hrX9 he1 he2
  · obtain rfl : w8o1 = o := Option.some.inj ho
    obtain rfl : b1 = false := h0
    obtain rfl : b0 = true := h1 ⟨0, .data⟩ (by simp [w8o1]) rfl
    obtain rfl : b4 = false := by
      cases b4 with
      | false => rfl
      | true => exact Bool.noConfusion (show false = true from hC 4 w8o4 rfl rfl ⟨1, .data⟩ (by simp [w8o4]) rfl)
    obtain rfl : b5 = false := by
      cases b5 with
      | false => rfl
      | true => exact Bool.noConfusion (show false = true from hC 5 w8o5 rfl rfl ⟨4, .data⟩ (by simp [w8o5]) rfl)
    obtain rfl : b6 = false := by
      cases b6 with
      | false => rfl
      | true => exact Bool.noConfusion (show false = true from hC 6 w8o6 rfl rfl ⟨5, .guard⟩ (by simp [w8o6]) rfl)
    obtain rfl : b7 = false := by
      cases b7 with
      | false => rfl
      | true => exact Bool.noConfusion (show false = true from hC 7 w8o7 rfl rfl ⟨5, .guard⟩ (by simp [w8o7]) rfl)
    obtain rfl : b8 = false := by
      cases b8 with
      | false => rfl
      | true => exact Bool.noConfusion (show false = true from hC 8 w8o8 rfl rfl ⟨5, .guard⟩ (by simp [w8o8]) rfl)
    obtain rfl : b9 = false := by
      cases b9 with
      | false => rfl
      | true => exact Bool.noConfusion (show false = true from hC 9 w8o9 rfl rfl ⟨5, .guard⟩ (by simp [w8o9]) rfl)
    obtain rfl : b10 = false := by
      cases b10 with
      | false => rfl
      | true => exact Bool.noConfusion (show false = true from hC 10 w8o10 rfl rfl ⟨5, .guard⟩ (by simp [w8o10]) rfl)
    obtain rfl : b11 = false := by
      cases b11 with
      | false => rfl
      | true => exact Bool.noConfusion (show false = true from hC 11 w8o11 rfl rfl ⟨5, .data⟩ (by simp [w8o11]) rfl)
    obtain rfl : b12 = false := by
      cases b12 with
      | false => rfl
      | true => exact Bool.noConfusion (show false = true from hC 12 w8o12 rfl rfl ⟨5, .chain⟩ (by simp [w8o12]) rfl)
    obtain rfl : b13 = false := by
      cases b13 with
      | false => rfl
      | true => exact Bool.noConfusion (show false = true from hC 13 w8o13 rfl rfl ⟨12, .guard⟩ (by simp [w8o13]) rfl)
    obtain rfl : b14 = false := by
      cases b14 with
      | false => rfl
      | true => exact Bool.noConfusion (show false = true from hC 14 w8o14 rfl rfl ⟨12, .guard⟩ (by simp [w8o14]) rfl)
    obtain rfl : b15 = false := by
      cases b15 with
      | false => rfl
      | true => exact Bool.noConfusion (show false = true from hC 15 w8o15 rfl rfl ⟨12, .chain⟩ (by simp [w8o15]) rfl)
    obtain rfl : b16 = false := by
      cases b16 with
      | false => rfl
      | true => exact Bool.noConfusion (show false = true from hC 16 w8o16 rfl rfl ⟨12, .guard⟩ (by simp [w8o16]) rfl)
    obtain rfl : b17 = false := by
      cases b17 with
      | false => rfl
      | true => exact Bool.noConfusion (show false = true from hC 17 w8o17 rfl rfl ⟨12, .guard⟩ (by simp [w8o17]) rfl)
    obtain rfl : b18 = false := by
      cases b18 with
      | false => rfl
      | true => exact Bool.noConfusion (show false = true from hC 18 w8o18 rfl rfl ⟨12, .data⟩ (by simp [w8o18]) rfl)
    exact w8_s1 w0 X5 X6 X9 a b u s0 s1 s2 s3 s4 s7 s8 s10 s11 s12 s13 s14 s15 s16 s17 s18 s19 s20 s21 s22 s23 s24 s25 s26 s27 s28 s29 s30 s31 s32 s33 s34 s35 s36 s37 s38 s39 s40 s41 s42 s43 s44 s45 s46 s47 s48 s49 s50 s51 s52 s53 s54 s55 s56 s57 s58 s59 s60 s61 s62 s63 s64 s65 s66 s67 s68 s69 s70 s71 s72 s73 s74 s75 b2 b3 dm w hB hrX5 hrX6 hrX9 he1 he2
  · obtain rfl : w8o2 = o := Option.some.inj ho
    obtain rfl : b2 = false := h0
    obtain rfl : b3 = false := by
      cases b3 with
      | false => rfl
      | true => exact Bool.noConfusion (show false = true from hC 3 w8o3 rfl rfl ⟨2, .data⟩ (by simp [w8o3]) rfl)
    obtain rfl : b4 = false := by
      cases b4 with
      | false => rfl
      | true => exact Bool.noConfusion (show false = true from hC 4 w8o4 rfl rfl ⟨3, .data⟩ (by simp [w8o4]) rfl)
    obtain rfl : b5 = false := by
      cases b5 with
      | false => rfl
      | true => exact Bool.noConfusion (show false = true from hC 5 w8o5 rfl rfl ⟨4, .data⟩ (by simp [w8o5]) rfl)
    obtain rfl : b6 = false := by
      cases b6 with
      | false => rfl
      | true => exact Bool.noConfusion (show false = true from hC 6 w8o6 rfl rfl ⟨5, .guard⟩ (by simp [w8o6]) rfl)
    obtain rfl : b7 = false := by
      cases b7 with
      | false => rfl
      | true => exact Bool.noConfusion (show false = true from hC 7 w8o7 rfl rfl ⟨5, .guard⟩ (by simp [w8o7]) rfl)
    obtain rfl : b8 = false := by
      cases b8 with
      | false => rfl
      | true => exact Bool.noConfusion (show false = true from hC 8 w8o8 rfl rfl ⟨5, .guard⟩ (by simp [w8o8]) rfl)
    obtain rfl : b9 = false := by
      cases b9 with
      | false => rfl
      | true => exact Bool.noConfusion (show false = true from hC 9 w8o9 rfl rfl ⟨5, .guard⟩ (by simp [w8o9]) rfl)
    obtain rfl : b10 = false := by
      cases b10 with
      | false => rfl
      | true => exact Bool.noConfusion (show false = true from hC 10 w8o10 rfl rfl ⟨5, .guard⟩ (by simp [w8o10]) rfl)
    obtain rfl : b11 = false := by
      cases b11 with
      | false => rfl
      | true => exact Bool.noConfusion (show false = true from hC 11 w8o11 rfl rfl ⟨5, .data⟩ (by simp [w8o11]) rfl)
    obtain rfl : b12 = false := by
      cases b12 with
      | false => rfl
      | true => exact Bool.noConfusion (show false = true from hC 12 w8o12 rfl rfl ⟨5, .chain⟩ (by simp [w8o12]) rfl)
    obtain rfl : b13 = false := by
      cases b13 with
      | false => rfl
      | true => exact Bool.noConfusion (show false = true from hC 13 w8o13 rfl rfl ⟨12, .guard⟩ (by simp [w8o13]) rfl)
    obtain rfl : b14 = false := by
      cases b14 with
      | false => rfl
      | true => exact Bool.noConfusion (show false = true from hC 14 w8o14 rfl rfl ⟨12, .guard⟩ (by simp [w8o14]) rfl)
    obtain rfl : b15 = false := by
      cases b15 with
      | false => rfl
      | true => exact Bool.noConfusion (show false = true from hC 15 w8o15 rfl rfl ⟨12, .chain⟩ (by simp [w8o15]) rfl)
    obtain rfl : b16 = false := by
      cases b16 with
      | false => rfl
      | true => exact Bool.noConfusion (show false = true from hC 16 w8o16 rfl rfl ⟨12, .guard⟩ (by simp [w8o16]) rfl)
    obtain rfl : b17 = false := by
      cases b17 with
      | false => rfl
      | true => exact Bool.noConfusion (show false = true from hC 17 w8o17 rfl rfl ⟨12, .guard⟩ (by simp [w8o17]) rfl)
    obtain rfl : b18 = false := by
      cases b18 with
      | false => rfl
      | true => exact Bool.noConfusion (show false = true from hC 18 w8o18 rfl rfl ⟨12, .data⟩ (by simp [w8o18]) rfl)
    exact w8_s2 w0 X5 X6 X9 a b u s0 s1 s2 s3 s4 s7 s8 s10 s11 s12 s13 s14 s15 s16 s17 s18 s19 s20 s21 s22 s23 s24 s25 s26 s27 s28 s29 s30 s31 s32 s33 s34 s35 s36 s37 s38 s39 s40 s41 s42 s43 s44 s45 s46 s47 s48 s49 s50 s51 s52 s53 s54 s55 s56 s57 s58 s59 s60 s61 s62 s63 s64 s65 s66 s67 s68 s69 s70 s71 s72 s73 s74 s75 b0 b1 dm w hB hrX5 hrX6 hrX9 he1 he2
  · obtain rfl : w8o3 = o := Option.some.inj ho
    obtain rfl : b3 = false := h0
    obtain rfl : b2 = true := h1 ⟨2, .data⟩ (by simp [w8o3]) rfl
    obtain rfl : b4 = false := by
      cases b4 with
      | false => rfl
      | true => exact Bool.noConfusion (show false = true from hC 4 w8o4 rfl rfl ⟨3, .data⟩ (by simp [w8o4]) rfl)
    obtain rfl : b5 = false := by
      cases b5 with
      | false => rfl
      | true => exact Bool.noConfusion (show false = true from hC 5 w8o5 rfl rfl ⟨4, .data⟩ (by simp [w8o5]) rfl)
    obtain rfl : b6 = false := by
      cases b6 with
      | false => rfl
      | true => exact Bool.noConfusion (show false = true from hC 6 w8o6 rfl rfl ⟨5, .guard⟩ (by simp [w8o6]) rfl)
    obtain rfl : b7 = false := by
      cases b7 with
      | false => rfl
      | true => exact Bool.noConfusion (show false = true from hC 7 w8o7 rfl rfl ⟨5, .guard⟩ (by simp [w8o7]) rfl)
    obtain rfl : b8 = false := by
      cases b8 with
      | false => rfl
      | true => exact Bool.noConfusion (show false = true from hC 8 w8o8 rfl rfl ⟨5, .guard⟩ (by simp [w8o8]) rfl)
    obtain rfl : b9 = false := by
      cases b9 with
      | false => rfl
      | true => exact Bool.noConfusion (show false = true from hC 9 w8o9 rfl rfl ⟨5, .guard⟩ (by simp [w8o9]) rfl)
    obtain rfl : b10 = false := by
      cases b10 with
      | false => rfl
      | true => exact Bool.noConfusion (show false = true from hC 10 w8o10 rfl rfl ⟨5, .guard⟩ (by simp [w8o10]) rfl)
    obtain rfl : b11 = false := by
      cases b11 with
      | false => rfl
      | true => exact Bool.noConfusion (show false = true from hC 11 w8o11 rfl rfl ⟨5, .data⟩ (by simp [w8o11]) rfl)
    obtain rfl : b12 = false := by
      cases b12 with
      | false => rfl
      | true => exact Bool.noConfusion (show false = true from hC 12 w8o12 rfl rfl ⟨5, .chain⟩ (by simp [w8o12]) rfl)
    obtain rfl : b13 = false := by
      cases b13 with
      | false => rfl
      | true => exact Bool.noConfusion (show false = true from hC 13 w8o13 rfl rfl ⟨12, .guard⟩ (by simp [w8o13]) rfl)
    obtain rfl : b14 = false := by
      cases b14 with
      | false => rfl
      | true => exact Bool.noConfusion (show false = true from hC 14 w8o14 rfl rfl ⟨12, .guard⟩ (by simp [w8o14]) rfl)
    obtain rfl : b15 = false := by
      cases b15 with
      | false => rfl
      | true => exact Bool.noConfusion (show false = true from hC 15 w8o15 rfl rfl ⟨12, .chain⟩ (by simp [w8o15]) rfl)
    obtain rfl : b16 = false := by
      cases b16 with
      | false => rfl
      | true => exact Bool.noConfusion (show false = true from hC 16 w8o16 rfl rfl ⟨12, .guard⟩ (by simp [w8o16]) rfl)
    obtain rfl : b17 = false := by
      cases b17 with
      | false => rfl
      | true => exact Bool.noConfusion (show false = true from hC 17 w8o17 rfl rfl ⟨12, .guard⟩ (by simp [w8o17]) rfl)
    obtain rfl : b18 = false := by
      cases b18 with
      | false => rfl
      | true => exact Bool.noConfusion (show false = true from hC 18 w8o18 rfl rfl ⟨12, .data⟩ (by simp [w8o18]) rfl)
    exact w8_s3 w0 X5 X6 X9 a b u s0 s1 s2 s3 s4 s7 s8 s10 s11 s12 s13 s14 s15 s16 s17 s18 s19 s20 s21 s22 s23 s24 s25 s26 s27 s28 s29 s30 s31 s32 s33 s34 s35 s36 s37 s38 s39 s40 s41 s42 s43 s44 s45 s46 s47 s48 s49 s50 s51 s52 s53 s54 s55 s56 s57 s58 s59 s60 s61 s62 s63 s64 s65 s66 s67 s68 s69 s70 s71 s72 s73 s74 s75 b0 b1 dm w hB hrX5 hrX6 hrX9 he1 he2
  · obtain rfl : w8o4 = o := Option.some.inj ho
    obtain rfl : b4 = false := h0
    obtain rfl : b3 = true := h1 ⟨3, .data⟩ (by simp [w8o4]) rfl
    obtain rfl : b1 = true := h1 ⟨1, .data⟩ (by simp [w8o4]) rfl
    obtain rfl : b2 = true := hC 3 w8o3 rfl rfl ⟨2, .data⟩ (by simp [w8o3]) rfl
    obtain rfl : b0 = true := hC 1 w8o1 rfl rfl ⟨0, .data⟩ (by simp [w8o1]) rfl
    obtain rfl : b5 = false := by
      cases b5 with
      | false => rfl
      | true => exact Bool.noConfusion (show false = true from hC 5 w8o5 rfl rfl ⟨4, .data⟩ (by simp [w8o5]) rfl)
    obtain rfl : b6 = false := by
      cases b6 with
      | false => rfl
      | true => exact Bool.noConfusion (show false = true from hC 6 w8o6 rfl rfl ⟨5, .guard⟩ (by simp [w8o6]) rfl)
    obtain rfl : b7 = false := by
      cases b7 with
      | false => rfl
      | true => exact Bool.noConfusion (show false = true from hC 7 w8o7 rfl rfl ⟨5, .guard⟩ (by simp [w8o7]) rfl)
    obtain rfl : b8 = false := by
      cases b8 with
      | false => rfl
      | true => exact Bool.noConfusion (show false = true from hC 8 w8o8 rfl rfl ⟨5, .guard⟩ (by simp [w8o8]) rfl)
    obtain rfl : b9 = false := by
      cases b9 with
      | false => rfl
      | true => exact Bool.noConfusion (show false = true from hC 9 w8o9 rfl rfl ⟨5, .guard⟩ (by simp [w8o9]) rfl)
    obtain rfl : b10 = false := by
      cases b10 with
      | false => rfl
      | true => exact Bool.noConfusion (show false = true from hC 10 w8o10 rfl rfl ⟨5, .guard⟩ (by simp [w8o10]) rfl)
    obtain rfl : b11 = false := by
      cases b11 with
      | false => rfl
      | true => exact Bool.noConfusion (show false = true from hC 11 w8o11 rfl rfl ⟨5, .data⟩ (by simp [w8o11]) rfl)
    obtain rfl : b12 = false := by
      cases b12 with
      | false => rfl
      | true => exact Bool.noConfusion (show false = true from hC 12 w8o12 rfl rfl ⟨5, .chain⟩ (by simp [w8o12]) rfl)
    obtain rfl : b13 = false := by
      cases b13 with
      | false => rfl
      | true => exact Bool.noConfusion (show false = true from hC 13 w8o13 rfl rfl ⟨12, .guard⟩ (by simp [w8o13]) rfl)
    obtain rfl : b14 = false := by
      cases b14 with
      | false => rfl
      | true => exact Bool.noConfusion (show false = true from hC 14 w8o14 rfl rfl ⟨12, .guard⟩ (by simp [w8o14]) rfl)
    obtain rfl : b15 = false := by
      cases b15 with
      | false => rfl
      | true => exact Bool.noConfusion (show false = true from hC 15 w8o15 rfl rfl ⟨12, .chain⟩ (by simp [w8o15]) rfl)
    obtain rfl : b16 = false := by
      cases b16 with
      | false => rfl
      | true => exact Bool.noConfusion (show false = true from hC 16 w8o16 rfl rfl ⟨12, .guard⟩ (by simp [w8o16]) rfl)
    obtain rfl : b17 = false := by
      cases b17 with
      | false => rfl
      | true => exact Bool.noConfusion (show false = true from hC 17 w8o17 rfl rfl ⟨12, .guard⟩ (by simp [w8o17]) rfl)
    obtain rfl : b18 = false := by
      cases b18 with
      | false => rfl
      | true => exact Bool.noConfusion (show false = true from hC 18 w8o18 rfl rfl ⟨12, .data⟩ (by simp [w8o18]) rfl)
    exact w8_s4 w0 X5 X6 X9 a b u s0 s1 s2 s3 s4 s7 s8 s10 s11 s12 s13 s14 s15 s16 s17 s18 s19 s20 s21 s22 s23 s24 s25 s26 s27 s28 s29 s30 s31 s32 s33 s34 s35 s36 s37 s38 s39 s40 s41 s42 s43 s44 s45 s46 s47 s48 s49 s50 s51 s52 s53 s54 s55 s56 s57 s58 s59 s60 s61 s62 s63 s64 s65 s66 s67 s68 s69 s70 s71 s72 s73 s74 s75  dm w hB hrX5 hrX6 hrX9 he1 he2
  · obtain rfl : w8o5 = o := Option.some.inj ho
    obtain rfl : b5 = false := h0
    obtain rfl : b4 = true := h1 ⟨4, .data⟩ (by simp [w8o5]) rfl
    obtain rfl : b1 = true := hC 4 w8o4 rfl rfl ⟨1, .data⟩ (by simp [w8o4]) rfl
    obtain rfl : b3 = true := hC 4 w8o4 rfl rfl ⟨3, .data⟩ (by simp [w8o4]) rfl
    obtain rfl : b2 = true := hC 3 w8o3 rfl rfl ⟨2, .data⟩ (by simp [w8o3]) rfl
    obtain rfl : b0 = true := hC 1 w8o1 rfl rfl ⟨0, .data⟩ (by simp [w8o1]) rfl
    obtain rfl : b6 = false := by
      cases b6 with
      | false => rfl
      | true => exact Bool.noConfusion (show false = true from hC 6 w8o6 rfl rfl ⟨5, .guard⟩ (by simp [w8o6]) rfl)
    obtain rfl : b7 = false := by
      cases b7 with
      | false => rfl
      | true => exact Bool.noConfusion (show false = true from hC 7 w8o7 rfl rfl ⟨5, .guard⟩ (by simp [w8o7]) rfl)
    obtain rfl : b8 = false := by
      cases b8 with
      | false => rfl
      | true => exact Bool.noConfusion (show false = true from hC 8 w8o8 rfl rfl ⟨5, .guard⟩ (by simp [w8o8]) rfl)
    obtain rfl : b9 = false := by
      cases b9 with
      | false => rfl
      | true => exact Bool.noConfusion (show false = true from hC 9 w8o9 rfl rfl ⟨5, .guard⟩ (by simp [w8o9]) rfl)
    obtain rfl : b10 = false := by
      cases b10 with
      | false => rfl
      | true => exact Bool.noConfusion (show false = true from hC 10 w8o10 rfl rfl ⟨5, .guard⟩ (by simp [w8o10]) rfl)
    obtain rfl : b11 = false := by
      cases b11 with
      | false => rfl
      | true => exact Bool.noConfusion (show false = true from hC 11 w8o11 rfl rfl ⟨5, .data⟩ (by simp [w8o11]) rfl)
    obtain rfl : b12 = false := by
      cases b12 with
      | false => rfl
      | true => exact Bool.noConfusion (show false = true from hC 12 w8o12 rfl rfl ⟨5, .chain⟩ (by simp [w8o12]) rfl)
    obtain rfl : b13 = false := by
      cases b13 with
      | false => rfl
      | true => exact Bool.noConfusion (show false = true from hC 13 w8o13 rfl rfl ⟨12, .guard⟩ (by simp [w8o13]) rfl)
    obtain rfl : b14 = false := by
      cases b14 with
      | false => rfl
      | true => exact Bool.noConfusion (show false = true from hC 14 w8o14 rfl rfl ⟨12, .guard⟩ (by simp [w8o14]) rfl)
    obtain rfl : b15 = false := by
      cases b15 with
      | false => rfl
      | true => exact Bool.noConfusion (show false = true from hC 15 w8o15 rfl rfl ⟨12, .chain⟩ (by simp [w8o15]) rfl)
    obtain rfl : b16 = false := by
      cases b16 with
      | false => rfl
      | true => exact Bool.noConfusion (show false = true from hC 16 w8o16 rfl rfl ⟨12, .guard⟩ (by simp [w8o16]) rfl)
    obtain rfl : b17 = false := by
      cases b17 with
      | false => rfl
      | true => exact Bool.noConfusion (show false = true from hC 17 w8o17 rfl rfl ⟨12, .guard⟩ (by simp [w8o17]) rfl)
    obtain rfl : b18 = false := by
      cases b18 with
      | false => rfl
      | true => exact Bool.noConfusion (show false = true from hC 18 w8o18 rfl rfl ⟨12, .data⟩ (by simp [w8o18]) rfl)
    exact w8_s5 w0 X5 X6 X9 a b u s0 s1 s2 s3 s4 s7 s8 s10 s11 s12 s13 s14 s15 s16 s17 s18 s19 s20 s21 s22 s23 s24 s25 s26 s27 s28 s29 s30 s31 s32 s33 s34 s35 s36 s37 s38 s39 s40 s41 s42 s43 s44 s45 s46 s47 s48 s49 s50 s51 s52 s53 s54 s55 s56 s57 s58 s59 s60 s61 s62 s63 s64 s65 s66 s67 s68 s69 s70 s71 s72 s73 s74 s75  dm w hB hrX5 hrX6 hrX9 he1 he2
  · obtain rfl : w8o6 = o := Option.some.inj ho
    obtain rfl : b6 = false := h0
    obtain rfl : b5 = true := h1 ⟨5, .guard⟩ (by simp [w8o6]) rfl
    obtain rfl : b4 = true := hC 5 w8o5 rfl rfl ⟨4, .data⟩ (by simp [w8o5]) rfl
    obtain rfl : b1 = true := hC 4 w8o4 rfl rfl ⟨1, .data⟩ (by simp [w8o4]) rfl
    obtain rfl : b3 = true := hC 4 w8o4 rfl rfl ⟨3, .data⟩ (by simp [w8o4]) rfl
    obtain rfl : b2 = true := hC 3 w8o3 rfl rfl ⟨2, .data⟩ (by simp [w8o3]) rfl
    obtain rfl : b0 = true := hC 1 w8o1 rfl rfl ⟨0, .data⟩ (by simp [w8o1]) rfl
    obtain rfl : b7 = false := by
      cases b7 with
      | false => rfl
      | true => exact Bool.noConfusion (show false = true from hC 7 w8o7 rfl rfl ⟨6, .data⟩ (by simp [w8o7]) rfl)
    obtain rfl : b10 = false := by
      cases b10 with
      | false => rfl
      | true => exact Bool.noConfusion (show false = true from hC 10 w8o10 rfl rfl ⟨7, .data⟩ (by simp [w8o10]) rfl)
    obtain rfl : b11 = false := by
      cases b11 with
      | false => rfl
      | true => exact Bool.noConfusion (show false = true from hC 11 w8o11 rfl rfl ⟨10, .data⟩ (by simp [w8o11]) rfl)
    obtain rfl : b12 = false := by
      cases b12 with
      | false => rfl
      | true => exact Bool.noConfusion (show false = true from hC 12 w8o12 rfl rfl ⟨11, .data⟩ (by simp [w8o12]) rfl)
    obtain rfl : b13 = false := by
      cases b13 with
      | false => rfl
      | true => exact Bool.noConfusion (show false = true from hC 13 w8o13 rfl rfl ⟨12, .guard⟩ (by simp [w8o13]) rfl)
    obtain rfl : b14 = false := by
      cases b14 with
      | false => rfl
      | true => exact Bool.noConfusion (show false = true from hC 14 w8o14 rfl rfl ⟨12, .guard⟩ (by simp [w8o14]) rfl)
    obtain rfl : b15 = false := by
      cases b15 with
      | false => rfl
      | true => exact Bool.noConfusion (show false = true from hC 15 w8o15 rfl rfl ⟨12, .chain⟩ (by simp [w8o15]) rfl)
    obtain rfl : b16 = false := by
      cases b16 with
      | false => rfl
      | true => exact Bool.noConfusion (show false = true from hC 16 w8o16 rfl rfl ⟨12, .guard⟩ (by simp [w8o16]) rfl)
    obtain rfl : b17 = false := by
      cases b17 with
      | false => rfl
      | true => exact Bool.noConfusion (show false = true from hC 17 w8o17 rfl rfl ⟨12, .guard⟩ (by simp [w8o17]) rfl)
    obtain rfl : b18 = false := by
      cases b18 with
      | false => rfl
      | true => exact Bool.noConfusion (show false = true from hC 18 w8o18 rfl rfl ⟨12, .data⟩ (by simp [w8o18]) rfl)
    exact w8_s6 w0 X5 X6 X9 a b u s0 s1 s2 s3 s4 s7 s8 s10 s11 s12 s13 s14 s15 s16 s17 s18 s19 s20 s21 s22 s23 s24 s25 s26 s27 s28 s29 s30 s31 s32 s33 s34 s35 s36 s37 s38 s39 s40 s41 s42 s43 s44 s45 s46 s47 s48 s49 s50 s51 s52 s53 s54 s55 s56 s57 s58 s59 s60 s61 s62 s63 s64 s65 s66 s67 s68 s69 s70 s71 s72 s73 s74 s75 b8 b9 dm w hB hrX5 hrX6 hrX9 he1 he2
  · obtain rfl : w8o7 = o := Option.some.inj ho
    obtain rfl : b7 = false := h0
    obtain rfl : b6 = true := h1 ⟨6, .data⟩ (by simp [w8o7]) rfl
    obtain rfl : b5 = true := h1 ⟨5, .guard⟩ (by simp [w8o7]) rfl
    obtain rfl : b4 = true := hC 5 w8o5 rfl rfl ⟨4, .data⟩ (by simp [w8o5]) rfl
    obtain rfl : b1 = true := hC 4 w8o4 rfl rfl ⟨1, .data⟩ (by simp [w8o4]) rfl
    obtain rfl : b3 = true := hC 4 w8o4 rfl rfl ⟨3, .data⟩ (by simp [w8o4]) rfl
    obtain rfl : b2 = true := hC 3 w8o3 rfl rfl ⟨2, .data⟩ (by simp [w8o3]) rfl
    obtain rfl : b0 = true := hC 1 w8o1 rfl rfl ⟨0, .data⟩ (by simp [w8o1]) rfl
    obtain rfl : b10 = false := by
      cases b10 with
      | false => rfl
      | true => exact Bool.noConfusion (show false = true from hC 10 w8o10 rfl rfl ⟨7, .data⟩ (by simp [w8o10]) rfl)
    obtain rfl : b11 = false := by
      cases b11 with
      | false => rfl
      | true => exact Bool.noConfusion (show false = true from hC 11 w8o11 rfl rfl ⟨10, .data⟩ (by simp [w8o11]) rfl)
    obtain rfl : b12 = false := by
      cases b12 with
      | false => rfl
      | true => exact Bool.noConfusion (show false = true from hC 12 w8o12 rfl rfl ⟨11, .data⟩ (by simp [w8o12]) rfl)
    obtain rfl : b13 = false := by
      cases b13 with
      | false => rfl
      | true => exact Bool.noConfusion (show false = true from hC 13 w8o13 rfl rfl ⟨12, .guard⟩ (by simp [w8o13]) rfl)
    obtain rfl : b14 = false := by
      cases b14 with
      | false => rfl
      | true => exact Bool.noConfusion (show false = true from hC 14 w8o14 rfl rfl ⟨12, .guard⟩ (by simp [w8o14]) rfl)
    obtain rfl : b15 = false := by
      cases b15 with
      | false => rfl
      | true => exact Bool.noConfusion (show false = true from hC 15 w8o15 rfl rfl ⟨12, .chain⟩ (by simp [w8o15]) rfl)
    obtain rfl : b16 = false := by
      cases b16 with
      | false => rfl
      | true => exact Bool.noConfusion (show false = true from hC 16 w8o16 rfl rfl ⟨12, .guard⟩ (by simp [w8o16]) rfl)
    obtain rfl : b17 = false := by
      cases b17 with
      | false => rfl
      | true => exact Bool.noConfusion (show false = true from hC 17 w8o17 rfl rfl ⟨12, .guard⟩ (by simp [w8o17]) rfl)
    obtain rfl : b18 = false := by
      cases b18 with
      | false => rfl
      | true => exact Bool.noConfusion (show false = true from hC 18 w8o18 rfl rfl ⟨12, .data⟩ (by simp [w8o18]) rfl)
    exact w8_s7 w0 X5 X6 X9 a b u s0 s1 s2 s3 s4 s7 s8 s10 s11 s12 s13 s14 s15 s16 s17 s18 s19 s20 s21 s22 s23 s24 s25 s26 s27 s28 s29 s30 s31 s32 s33 s34 s35 s36 s37 s38 s39 s40 s41 s42 s43 s44 s45 s46 s47 s48 s49 s50 s51 s52 s53 s54 s55 s56 s57 s58 s59 s60 s61 s62 s63 s64 s65 s66 s67 s68 s69 s70 s71 s72 s73 s74 s75 b8 b9 dm w hB hrX5 hrX6 hrX9 he1 he2
  · obtain rfl : w8o8 = o := Option.some.inj ho
    obtain rfl : b8 = false := h0
    obtain rfl : b5 = true := h1 ⟨5, .guard⟩ (by simp [w8o8]) rfl
    obtain rfl : b4 = true := hC 5 w8o5 rfl rfl ⟨4, .data⟩ (by simp [w8o5]) rfl
    obtain rfl : b1 = true := hC 4 w8o4 rfl rfl ⟨1, .data⟩ (by simp [w8o4]) rfl
    obtain rfl : b3 = true := hC 4 w8o4 rfl rfl ⟨3, .data⟩ (by simp [w8o4]) rfl
    obtain rfl : b2 = true := hC 3 w8o3 rfl rfl ⟨2, .data⟩ (by simp [w8o3]) rfl
    obtain rfl : b0 = true := hC 1 w8o1 rfl rfl ⟨0, .data⟩ (by simp [w8o1]) rfl
    obtain rfl : b9 = false := by
      cases b9 with
      | false => rfl
      | true => exact Bool.noConfusion (show false = true from hC 9 w8o9 rfl rfl ⟨8, .data⟩ (by simp [w8o9]) rfl)
    obtain rfl : b10 = false := by
      cases b10 with
      | false => rfl
      | true => exact Bool.noConfusion (show false = true from hC 10 w8o10 rfl rfl ⟨9, .data⟩ (by simp [w8o10]) rfl)
    obtain rfl : b11 = false := by
      cases b11 with
      | false => rfl
      | true => exact Bool.noConfusion (show false = true from hC 11 w8o11 rfl rfl ⟨10, .data⟩ (by simp [w8o11]) rfl)
    obtain rfl : b12 = false := by
      cases b12 with
      | false => rfl
      | true => exact Bool.noConfusion (show false = true from hC 12 w8o12 rfl rfl ⟨11, .data⟩ (by simp [w8o12]) rfl)
    obtain rfl : b13 = false := by
      cases b13 with
      | false => rfl
      | true => exact Bool.noConfusion (show false = true from hC 13 w8o13 rfl rfl ⟨12, .guard⟩ (by simp [w8o13]) rfl)
    obtain rfl : b14 = false := by
      cases b14 with
      | false => rfl
      | true => exact Bool.noConfusion (show false = true from hC 14 w8o14 rfl rfl ⟨12, .guard⟩ (by simp [w8o14]) rfl)
    obtain rfl : b15 = false := by
      cases b15 with
      | false => rfl
      | true => exact Bool.noConfusion (show false = true from hC 15 w8o15 rfl rfl ⟨12, .chain⟩ (by simp [w8o15]) rfl)
    obtain rfl : b16 = false := by
      cases b16 with
      | false => rfl
      | true => exact Bool.noConfusion (show false = true from hC 16 w8o16 rfl rfl ⟨12, .guard⟩ (by simp [w8o16]) rfl)
    obtain rfl : b17 = false := by
      cases b17 with
      | false => rfl
      | true => exact Bool.noConfusion (show false = true from hC 17 w8o17 rfl rfl ⟨12, .guard⟩ (by simp [w8o17]) rfl)
    obtain rfl : b18 = false := by
      cases b18 with
      | false => rfl
      | true => exact Bool.noConfusion (show false = true from hC 18 w8o18 rfl rfl ⟨12, .data⟩ (by simp [w8o18]) rfl)
    exact w8_s8 w0 X5 X6 X9 a b u s0 s1 s2 s3 s4 s7 s8 s10 s11 s12 s13 s14 s15 s16 s17 s18 s19 s20 s21 s22 s23 s24 s25 s26 s27 s28 s29 s30 s31 s32 s33 s34 s35 s36 s37 s38 s39 s40 s41 s42 s43 s44 s45 s46 s47 s48 s49 s50 s51 s52 s53 s54 s55 s56 s57 s58 s59 s60 s61 s62 s63 s64 s65 s66 s67 s68 s69 s70 s71 s72 s73 s74 s75 b6 b7 dm w hB hrX5 hrX6 hrX9 he1 he2
  · obtain rfl : w8o9 = o := Option.some.inj ho
    obtain rfl : b9 = false := h0
    obtain rfl : b8 = true := h1 ⟨8, .data⟩ (by simp [w8o9]) rfl
    obtain rfl : b5 = true := h1 ⟨5, .guard⟩ (by simp [w8o9]) rfl
    obtain rfl : b4 = true := hC 5 w8o5 rfl rfl ⟨4, .data⟩ (by simp [w8o5]) rfl
    obtain rfl : b1 = true := hC 4 w8o4 rfl rfl ⟨1, .data⟩ (by simp [w8o4]) rfl
    obtain rfl : b3 = true := hC 4 w8o4 rfl rfl ⟨3, .data⟩ (by simp [w8o4]) rfl
    obtain rfl : b2 = true := hC 3 w8o3 rfl rfl ⟨2, .data⟩ (by simp [w8o3]) rfl
    obtain rfl : b0 = true := hC 1 w8o1 rfl rfl ⟨0, .data⟩ (by simp [w8o1]) rfl
    obtain rfl : b10 = false := by
      cases b10 with
      | false => rfl
      | true => exact Bool.noConfusion (show false = true from hC 10 w8o10 rfl rfl ⟨9, .data⟩ (by simp [w8o10]) rfl)
    obtain rfl : b11 = false := by
      cases b11 with
      | false => rfl
      | true => exact Bool.noConfusion (show false = true from hC 11 w8o11 rfl rfl ⟨10, .data⟩ (by simp [w8o11]) rfl)
    obtain rfl : b12 = false := by
      cases b12 with
      | false => rfl
      | true => exact Bool.noConfusion (show false = true from hC 12 w8o12 rfl rfl ⟨11, .data⟩ (by simp [w8o12]) rfl)
    obtain rfl : b13 = false := by
      cases b13 with
      | false => rfl
      | true => exact Bool.noConfusion (show false = true from hC 13 w8o13 rfl rfl ⟨12, .guard⟩ (by simp [w8o13]) rfl)
    obtain rfl : b14 = false := by
      cases b14 with
      | false => rfl
      | true => exact Bool.noConfusion (show false = true from hC 14 w8o14 rfl rfl ⟨12, .guard⟩ (by simp [w8o14]) rfl)
    obtain rfl : b15 = false := by
      cases b15 with
      | false => rfl
      | true => exact Bool.noConfusion (show false = true from hC 15 w8o15 rfl rfl ⟨12, .chain⟩ (by simp [w8o15]) rfl)
    obtain rfl : b16 = false := by
      cases b16 with
      | false => rfl
      | true => exact Bool.noConfusion (show false = true from hC 16 w8o16 rfl rfl ⟨12, .guard⟩ (by simp [w8o16]) rfl)
    obtain rfl : b17 = false := by
      cases b17 with
      | false => rfl
      | true => exact Bool.noConfusion (show false = true from hC 17 w8o17 rfl rfl ⟨12, .guard⟩ (by simp [w8o17]) rfl)
    obtain rfl : b18 = false := by
      cases b18 with
      | false => rfl
      | true => exact Bool.noConfusion (show false = true from hC 18 w8o18 rfl rfl ⟨12, .data⟩ (by simp [w8o18]) rfl)
    exact w8_s9 w0 X5 X6 X9 a b u s0 s1 s2 s3 s4 s7 s8 s10 s11 s12 s13 s14 s15 s16 s17 s18 s19 s20 s21 s22 s23 s24 s25 s26 s27 s28 s29 s30 s31 s32 s33 s34 s35 s36 s37 s38 s39 s40 s41 s42 s43 s44 s45 s46 s47 s48 s49 s50 s51 s52 s53 s54 s55 s56 s57 s58 s59 s60 s61 s62 s63 s64 s65 s66 s67 s68 s69 s70 s71 s72 s73 s74 s75 b6 b7 dm w hB hrX5 hrX6 hrX9 he1 he2
  · obtain rfl : w8o10 = o := Option.some.inj ho
    obtain rfl : b10 = false := h0
    obtain rfl : b9 = true := h1 ⟨9, .data⟩ (by simp [w8o10]) rfl
    obtain rfl : b7 = true := h1 ⟨7, .data⟩ (by simp [w8o10]) rfl
    obtain rfl : b5 = true := h1 ⟨5, .guard⟩ (by simp [w8o10]) rfl
    obtain rfl : b8 = true := hC 9 w8o9 rfl rfl ⟨8, .data⟩ (by simp [w8o9]) rfl
    obtain rfl : b6 = true := hC 7 w8o7 rfl rfl ⟨6, .data⟩ (by simp [w8o7]) rfl
    obtain rfl : b4 = true := hC 5 w8o5 rfl rfl ⟨4, .data⟩ (by simp [w8o5]) rfl
    obtain rfl : b1 = true := hC 4 w8o4 rfl rfl ⟨1, .data⟩ (by simp [w8o4]) rfl
    obtain rfl : b3 = true := hC 4 w8o4 rfl rfl ⟨3, .data⟩ (by simp [w8o4]) rfl
    obtain rfl : b2 = true := hC 3 w8o3 rfl rfl ⟨2, .data⟩ (by simp [w8o3]) rfl
    obtain rfl : b0 = true := hC 1 w8o1 rfl rfl ⟨0, .data⟩ (by simp [w8o1]) rfl
    obtain rfl : b11 = false := by
      cases b11 with
      | false => rfl
      | true => exact Bool.noConfusion (show false = true from hC 11 w8o11 rfl rfl ⟨10, .data⟩ (by simp [w8o11]) rfl)
    obtain rfl : b12 = false := by
      cases b12 with
      | false => rfl
      | true => exact Bool.noConfusion (show false = true from hC 12 w8o12 rfl rfl ⟨11, .data⟩ (by simp [w8o12]) rfl)
    obtain rfl : b13 = false := by
      cases b13 with
      | false => rfl
      | true => exact Bool.noConfusion (show false = true from hC 13 w8o13 rfl rfl ⟨12, .guard⟩ (by simp [w8o13]) rfl)
    obtain rfl : b14 = false := by
      cases b14 with
      | false => rfl
      | true => exact Bool.noConfusion (show false = true from hC 14 w8o14 rfl rfl ⟨12, .guard⟩ (by simp [w8o14]) rfl)
    obtain rfl : b15 = false := by
      cases b15 with
      | false => rfl
      | true => exact Bool.noConfusion (show false = true from hC 15 w8o15 rfl rfl ⟨12, .chain⟩ (by simp [w8o15]) rfl)
    obtain rfl : b16 = false := by
      cases b16 with
      | false => rfl
      | true => exact Bool.noConfusion (show false = true from hC 16 w8o16 rfl rfl ⟨12, .guard⟩ (by simp [w8o16]) rfl)
    obtain rfl : b17 = false := by
      cases b17 with
      | false => rfl
      | true => exact Bool.noConfusion (show false = true from hC 17 w8o17 rfl rfl ⟨12, .guard⟩ (by simp [w8o17]) rfl)
    obtain rfl : b18 = false := by
      cases b18 with
      | false => rfl
      | true => exact Bool.noConfusion (show false = true from hC 18 w8o18 rfl rfl ⟨12, .data⟩ (by simp [w8o18]) rfl)
    exact w8_s10 w0 X5 X6 X9 a b u s0 s1 s2 s3 s4 s7 s8 s10 s11 s12 s13 s14 s15 s16 s17 s18 s19 s20 s21 s22 s23 s24 s25 s26 s27 s28 s29 s30 s31 s32 s33 s34 s35 s36 s37 s38 s39 s40 s41 s42 s43 s44 s45 s46 s47 s48 s49 s50 s51 s52 s53 s54 s55 s56 s57 s58 s59 s60 s61 s62 s63 s64 s65 s66 s67 s68 s69 s70 s71 s72 s73 s74 s75  dm w hB hrX5 hrX6 hrX9 he1 he2
  · obtain rfl : w8o11 = o := Option.some.inj ho
    obtain rfl : b11 = false := h0
    obtain rfl : b10 = true := h1 ⟨10, .data⟩ (by simp [w8o11]) rfl
    obtain rfl : b5 = true := h1 ⟨5, .data⟩ (by simp [w8o11]) rfl
    obtain rfl : b7 = true := hC 10 w8o10 rfl rfl ⟨7, .data⟩ (by simp [w8o10]) rfl
    obtain rfl : b9 = true := hC 10 w8o10 rfl rfl ⟨9, .data⟩ (by simp [w8o10]) rfl
    obtain rfl : b8 = true := hC 9 w8o9 rfl rfl ⟨8, .data⟩ (by simp [w8o9]) rfl
    obtain rfl : b6 = true := hC 7 w8o7 rfl rfl ⟨6, .data⟩ (by simp [w8o7]) rfl
    obtain rfl : b4 = true := hC 5 w8o5 rfl rfl ⟨4, .data⟩ (by simp [w8o5]) rfl
    obtain rfl : b1 = true := hC 4 w8o4 rfl rfl ⟨1, .data⟩ (by simp [w8o4]) rfl
    obtain rfl : b3 = true := hC 4 w8o4 rfl rfl ⟨3, .data⟩ (by simp [w8o4]) rfl
    obtain rfl : b2 = true := hC 3 w8o3 rfl rfl ⟨2, .data⟩ (by simp [w8o3]) rfl
    obtain rfl : b0 = true := hC 1 w8o1 rfl rfl ⟨0, .data⟩ (by simp [w8o1]) rfl
    obtain rfl : b12 = false := by
      cases b12 with
      | false => rfl
      | true => exact Bool.noConfusion (show false = true from hC 12 w8o12 rfl rfl ⟨11, .data⟩ (by simp [w8o12]) rfl)
    obtain rfl : b13 = false := by
      cases b13 with
      | false => rfl
      | true => exact Bool.noConfusion (show false = true from hC 13 w8o13 rfl rfl ⟨12, .guard⟩ (by simp [w8o13]) rfl)
    obtain rfl : b14 = false := by
      cases b14 with
      | false => rfl
      | true => exact Bool.noConfusion (show false = true from hC 14 w8o14 rfl rfl ⟨12, .guard⟩ (by simp [w8o14]) rfl)
    obtain rfl : b15 = false := by
      cases b15 with
      | false => rfl
      | true => exact Bool.noConfusion (show false = true from hC 15 w8o15 rfl rfl ⟨12, .chain⟩ (by simp [w8o15]) rfl)
    obtain rfl : b16 = false := by
      cases b16 with
      | false => rfl
      | true => exact Bool.noConfusion (show false = true from hC 16 w8o16 rfl rfl ⟨12, .guard⟩ (by simp [w8o16]) rfl)
    obtain rfl : b17 = false := by
      cases b17 with
      | false => rfl
      | true => exact Bool.noConfusion (show false = true from hC 17 w8o17 rfl rfl ⟨12, .guard⟩ (by simp [w8o17]) rfl)
    obtain rfl : b18 = false := by
      cases b18 with
      | false => rfl
      | true => exact Bool.noConfusion (show false = true from hC 18 w8o18 rfl rfl ⟨12, .data⟩ (by simp [w8o18]) rfl)
    exact w8_s11 w0 X5 X6 X9 a b u s0 s1 s2 s3 s4 s7 s8 s10 s11 s12 s13 s14 s15 s16 s17 s18 s19 s20 s21 s22 s23 s24 s25 s26 s27 s28 s29 s30 s31 s32 s33 s34 s35 s36 s37 s38 s39 s40 s41 s42 s43 s44 s45 s46 s47 s48 s49 s50 s51 s52 s53 s54 s55 s56 s57 s58 s59 s60 s61 s62 s63 s64 s65 s66 s67 s68 s69 s70 s71 s72 s73 s74 s75  dm w hB hrX5 hrX6 hrX9 he1 he2
  · obtain rfl : w8o12 = o := Option.some.inj ho
    obtain rfl : b12 = false := h0
    obtain rfl : b11 = true := h1 ⟨11, .data⟩ (by simp [w8o12]) rfl
    obtain rfl : b5 = true := h1 ⟨5, .chain⟩ (by simp [w8o12]) rfl
    obtain rfl : b10 = true := hC 11 w8o11 rfl rfl ⟨10, .data⟩ (by simp [w8o11]) rfl
    obtain rfl : b7 = true := hC 10 w8o10 rfl rfl ⟨7, .data⟩ (by simp [w8o10]) rfl
    obtain rfl : b9 = true := hC 10 w8o10 rfl rfl ⟨9, .data⟩ (by simp [w8o10]) rfl
    obtain rfl : b8 = true := hC 9 w8o9 rfl rfl ⟨8, .data⟩ (by simp [w8o9]) rfl
    obtain rfl : b6 = true := hC 7 w8o7 rfl rfl ⟨6, .data⟩ (by simp [w8o7]) rfl
    obtain rfl : b4 = true := hC 5 w8o5 rfl rfl ⟨4, .data⟩ (by simp [w8o5]) rfl
    obtain rfl : b1 = true := hC 4 w8o4 rfl rfl ⟨1, .data⟩ (by simp [w8o4]) rfl
    obtain rfl : b3 = true := hC 4 w8o4 rfl rfl ⟨3, .data⟩ (by simp [w8o4]) rfl
    obtain rfl : b2 = true := hC 3 w8o3 rfl rfl ⟨2, .data⟩ (by simp [w8o3]) rfl
    obtain rfl : b0 = true := hC 1 w8o1 rfl rfl ⟨0, .data⟩ (by simp [w8o1]) rfl
    obtain rfl : b13 = false := by
      cases b13 with
      | false => rfl
      | true => exact Bool.noConfusion (show false = true from hC 13 w8o13 rfl rfl ⟨12, .guard⟩ (by simp [w8o13]) rfl)
    obtain rfl : b14 = false := by
      cases b14 with
      | false => rfl
      | true => exact Bool.noConfusion (show false = true from hC 14 w8o14 rfl rfl ⟨12, .guard⟩ (by simp [w8o14]) rfl)
    obtain rfl : b15 = false := by
      cases b15 with
      | false => rfl
      | true => exact Bool.noConfusion (show false = true from hC 15 w8o15 rfl rfl ⟨12, .chain⟩ (by simp [w8o15]) rfl)
    obtain rfl : b16 = false := by
      cases b16 with
      | false => rfl
      | true => exact Bool.noConfusion (show false = true from hC 16 w8o16 rfl rfl ⟨12, .guard⟩ (by simp [w8o16]) rfl)
    obtain rfl : b17 = false := by
      cases b17 with
      | false => rfl
      | true => exact Bool.noConfusion (show false = true from hC 17 w8o17 rfl rfl ⟨12, .guard⟩ (by simp [w8o17]) rfl)
    obtain rfl : b18 = false := by
      cases b18 with
      | false => rfl
      | true => exact Bool.noConfusion (show false = true from hC 18 w8o18 rfl rfl ⟨12, .data⟩ (by simp [w8o18]) rfl)
    exact w8_s12 w0 X5 X6 X9 a b u s0 s1 s2 s3 s4 s7 s8 s10 s11 s12 s13 s14 s15 s16 s17 s18 s19 s20 s21 s22 s23 s24 s25 s26 s27 s28 s29 s30 s31 s32 s33 s34 s35 s36 s37 s38 s39 s40 s41 s42 s43 s44 s45 s46 s47 s48 s49 s50 s51 s52 s53 s54 s55 s56 s57 s58 s59 s60 s61 s62 s63 s64 s65 s66 s67 s68 s69 s70 s71 s72 s73 s74 s75  dm w hB hrX5 hrX6 hrX9 he1 he2
  · obtain rfl : w8o13 = o := Option.some.inj ho
    obtain rfl : b13 = false := h0
    obtain rfl : b12 = true := h1 ⟨12, .guard⟩ (by simp [w8o13]) rfl
    obtain rfl : b5 = true := hC 12 w8o12 rfl rfl ⟨5, .chain⟩ (by simp [w8o12]) rfl
    obtain rfl : b11 = true := hC 12 w8o12 rfl rfl ⟨11, .data⟩ (by simp [w8o12]) rfl
    obtain rfl : b10 = true := hC 11 w8o11 rfl rfl ⟨10, .data⟩ (by simp [w8o11]) rfl
    obtain rfl : b7 = true := hC 10 w8o10 rfl rfl ⟨7, .data⟩ (by simp [w8o10]) rfl
    obtain rfl : b9 = true := hC 10 w8o10 rfl rfl ⟨9, .data⟩ (by simp [w8o10]) rfl
    obtain rfl : b8 = true := hC 9 w8o9 rfl rfl ⟨8, .data⟩ (by simp [w8o9]) rfl
    obtain rfl : b6 = true := hC 7 w8o7 rfl rfl ⟨6, .data⟩ (by simp [w8o7]) rfl
    obtain rfl : b4 = true := hC 5 w8o5 rfl rfl ⟨4, .data⟩ (by simp [w8o5]) rfl
    obtain rfl : b1 = true := hC 4 w8o4 rfl rfl ⟨1, .data⟩ (by simp [w8o4]) rfl
    obtain rfl : b3 = true := hC 4 w8o4 rfl rfl ⟨3, .data⟩ (by simp [w8o4]) rfl
    obtain rfl : b2 = true := hC 3 w8o3 rfl rfl ⟨2, .data⟩ (by simp [w8o3]) rfl
    obtain rfl : b0 = true := hC 1 w8o1 rfl rfl ⟨0, .data⟩ (by simp [w8o1]) rfl
    obtain rfl : b15 = false := by
      cases b15 with
      | false => rfl
      | true => exact Bool.noConfusion (show false = true from hC 15 w8o15 rfl rfl ⟨13, .data⟩ (by simp [w8o15]) rfl)
    obtain rfl : b17 = false := by
      cases b17 with
      | false => rfl
      | true => exact Bool.noConfusion (show false = true from hC 17 w8o17 rfl rfl ⟨15, .data⟩ (by simp [w8o17]) rfl)
    obtain rfl : b18 = false := by
      cases b18 with
      | false => rfl
      | true => exact Bool.noConfusion (show false = true from hC 18 w8o18 rfl rfl ⟨17, .data⟩ (by simp [w8o18]) rfl)
    exact w8_s13 w0 X5 X6 X9 a b u s0 s1 s2 s3 s4 s7 s8 s10 s11 s12 s13 s14 s15 s16 s17 s18 s19 s20 s21 s22 s23 s24 s25 s26 s27 s28 s29 s30 s31 s32 s33 s34 s35 s36 s37 s38 s39 s40 s41 s42 s43 s44 s45 s46 s47 s48 s49 s50 s51 s52 s53 s54 s55 s56 s57 s58 s59 s60 s61 s62 s63 s64 s65 s66 s67 s68 s69 s70 s71 s72 s73 s74 s75 b14 b16 dm w hB hrX5 hrX6 hrX9 he1 he2
  · obtain rfl : w8o14 = o := Option.some.inj ho
    obtain rfl : b14 = false := h0
    obtain rfl : b12 = true := h1 ⟨12, .guard⟩ (by simp [w8o14]) rfl
    obtain rfl : b5 = true := hC 12 w8o12 rfl rfl ⟨5, .chain⟩ (by simp [w8o12]) rfl
    obtain rfl : b11 = true := hC 12 w8o12 rfl rfl ⟨11, .data⟩ (by simp [w8o12]) rfl
    obtain rfl : b10 = true := hC 11 w8o11 rfl rfl ⟨10, .data⟩ (by simp [w8o11]) rfl
    obtain rfl : b7 = true := hC 10 w8o10 rfl rfl ⟨7, .data⟩ (by simp [w8o10]) rfl
    obtain rfl : b9 = true := hC 10 w8o10 rfl rfl ⟨9, .data⟩ (by simp [w8o10]) rfl
    obtain rfl : b8 = true := hC 9 w8o9 rfl rfl ⟨8, .data⟩ (by simp [w8o9]) rfl
    obtain rfl : b6 = true := hC 7 w8o7 rfl rfl ⟨6, .data⟩ (by simp [w8o7]) rfl
    obtain rfl : b4 = true := hC 5 w8o5 rfl rfl ⟨4, .data⟩ (by simp [w8o5]) rfl
    obtain rfl : b1 = true := hC 4 w8o4 rfl rfl ⟨1, .data⟩ (by simp [w8o4]) rfl
    obtain rfl : b3 = true := hC 4 w8o4 rfl rfl ⟨3, .data⟩ (by simp [w8o4]) rfl
    obtain rfl : b2 = true := hC 3 w8o3 rfl rfl ⟨2, .data⟩ (by simp [w8o3]) rfl
    obtain rfl : b0 = true := hC 1 w8o1 rfl rfl ⟨0, .data⟩ (by simp [w8o1]) rfl
    obtain rfl : b15 = false := by
      cases b15 with
      | false => rfl
      | true => exact Bool.noConfusion (show false = true from hC 15 w8o15 rfl rfl ⟨14, .data⟩ (by simp [w8o15]) rfl)
    obtain rfl : b17 = false := by
      cases b17 with
      | false => rfl
      | true => exact Bool.noConfusion (show false = true from hC 17 w8o17 rfl rfl ⟨15, .data⟩ (by simp [w8o17]) rfl)
    obtain rfl : b18 = false := by
      cases b18 with
      | false => rfl
      | true => exact Bool.noConfusion (show false = true from hC 18 w8o18 rfl rfl ⟨17, .data⟩ (by simp [w8o18]) rfl)
    exact w8_s14 w0 X5 X6 X9 a b u s0 s1 s2 s3 s4 s7 s8 s10 s11 s12 s13 s14 s15 s16 s17 s18 s19 s20 s21 s22 s23 s24 s25 s26 s27 s28 s29 s30 s31 s32 s33 s34 s35 s36 s37 s38 s39 s40 s41 s42 s43 s44 s45 s46 s47 s48 s49 s50 s51 s52 s53 s54 s55 s56 s57 s58 s59 s60 s61 s62 s63 s64 s65 s66 s67 s68 s69 s70 s71 s72 s73 s74 s75 b13 b16 dm w hB hrX5 hrX6 hrX9 he1 he2
  · obtain rfl : w8o15 = o := Option.some.inj ho
    obtain rfl : b15 = false := h0
    obtain rfl : b14 = true := h1 ⟨14, .data⟩ (by simp [w8o15]) rfl
    obtain rfl : b13 = true := h1 ⟨13, .data⟩ (by simp [w8o15]) rfl
    obtain rfl : b12 = true := h1 ⟨12, .chain⟩ (by simp [w8o15]) rfl
    obtain rfl : b5 = true := hC 12 w8o12 rfl rfl ⟨5, .chain⟩ (by simp [w8o12]) rfl
    obtain rfl : b11 = true := hC 12 w8o12 rfl rfl ⟨11, .data⟩ (by simp [w8o12]) rfl
    obtain rfl : b10 = true := hC 11 w8o11 rfl rfl ⟨10, .data⟩ (by simp [w8o11]) rfl
    obtain rfl : b7 = true := hC 10 w8o10 rfl rfl ⟨7, .data⟩ (by simp [w8o10]) rfl
    obtain rfl : b9 = true := hC 10 w8o10 rfl rfl ⟨9, .data⟩ (by simp [w8o10]) rfl
    obtain rfl : b8 = true := hC 9 w8o9 rfl rfl ⟨8, .data⟩ (by simp [w8o9]) rfl
    obtain rfl : b6 = true := hC 7 w8o7 rfl rfl ⟨6, .data⟩ (by simp [w8o7]) rfl
    obtain rfl : b4 = true := hC 5 w8o5 rfl rfl ⟨4, .data⟩ (by simp [w8o5]) rfl
    obtain rfl : b1 = true := hC 4 w8o4 rfl rfl ⟨1, .data⟩ (by simp [w8o4]) rfl
    obtain rfl : b3 = true := hC 4 w8o4 rfl rfl ⟨3, .data⟩ (by simp [w8o4]) rfl
    obtain rfl : b2 = true := hC 3 w8o3 rfl rfl ⟨2, .data⟩ (by simp [w8o3]) rfl
    obtain rfl : b0 = true := hC 1 w8o1 rfl rfl ⟨0, .data⟩ (by simp [w8o1]) rfl
    obtain rfl : b17 = false := by
      cases b17 with
      | false => rfl
      | true => exact Bool.noConfusion (show false = true from hC 17 w8o17 rfl rfl ⟨15, .data⟩ (by simp [w8o17]) rfl)
    obtain rfl : b18 = false := by
      cases b18 with
      | false => rfl
      | true => exact Bool.noConfusion (show false = true from hC 18 w8o18 rfl rfl ⟨17, .data⟩ (by simp [w8o18]) rfl)
    exact w8_s15 w0 X5 X6 X9 a b u s0 s1 s2 s3 s4 s7 s8 s10 s11 s12 s13 s14 s15 s16 s17 s18 s19 s20 s21 s22 s23 s24 s25 s26 s27 s28 s29 s30 s31 s32 s33 s34 s35 s36 s37 s38 s39 s40 s41 s42 s43 s44 s45 s46 s47 s48 s49 s50 s51 s52 s53 s54 s55 s56 s57 s58 s59 s60 s61 s62 s63 s64 s65 s66 s67 s68 s69 s70 s71 s72 s73 s74 s75 b16 dm w hB hrX5 hrX6 hrX9 he1 he2
  · obtain rfl : w8o16 = o := Option.some.inj ho
    obtain rfl : b16 = false := h0
    obtain rfl : b12 = true := h1 ⟨12, .guard⟩ (by simp [w8o16]) rfl
    obtain rfl : b5 = true := hC 12 w8o12 rfl rfl ⟨5, .chain⟩ (by simp [w8o12]) rfl
    obtain rfl : b11 = true := hC 12 w8o12 rfl rfl ⟨11, .data⟩ (by simp [w8o12]) rfl
    obtain rfl : b10 = true := hC 11 w8o11 rfl rfl ⟨10, .data⟩ (by simp [w8o11]) rfl
    obtain rfl : b7 = true := hC 10 w8o10 rfl rfl ⟨7, .data⟩ (by simp [w8o10]) rfl
    obtain rfl : b9 = true := hC 10 w8o10 rfl rfl ⟨9, .data⟩ (by simp [w8o10]) rfl
    obtain rfl : b8 = true := hC 9 w8o9 rfl rfl ⟨8, .data⟩ (by simp [w8o9]) rfl
    obtain rfl : b6 = true := hC 7 w8o7 rfl rfl ⟨6, .data⟩ (by simp [w8o7]) rfl
    obtain rfl : b4 = true := hC 5 w8o5 rfl rfl ⟨4, .data⟩ (by simp [w8o5]) rfl
    obtain rfl : b1 = true := hC 4 w8o4 rfl rfl ⟨1, .data⟩ (by simp [w8o4]) rfl
    obtain rfl : b3 = true := hC 4 w8o4 rfl rfl ⟨3, .data⟩ (by simp [w8o4]) rfl
    obtain rfl : b2 = true := hC 3 w8o3 rfl rfl ⟨2, .data⟩ (by simp [w8o3]) rfl
    obtain rfl : b0 = true := hC 1 w8o1 rfl rfl ⟨0, .data⟩ (by simp [w8o1]) rfl
    obtain rfl : b17 = false := by
      cases b17 with
      | false => rfl
      | true => exact Bool.noConfusion (show false = true from hC 17 w8o17 rfl rfl ⟨16, .data⟩ (by simp [w8o17]) rfl)
    obtain rfl : b18 = false := by
      cases b18 with
      | false => rfl
      | true => exact Bool.noConfusion (show false = true from hC 18 w8o18 rfl rfl ⟨17, .data⟩ (by simp [w8o18]) rfl)
    exact w8_s16 w0 X5 X6 X9 a b u s0 s1 s2 s3 s4 s7 s8 s10 s11 s12 s13 s14 s15 s16 s17 s18 s19 s20 s21 s22 s23 s24 s25 s26 s27 s28 s29 s30 s31 s32 s33 s34 s35 s36 s37 s38 s39 s40 s41 s42 s43 s44 s45 s46 s47 s48 s49 s50 s51 s52 s53 s54 s55 s56 s57 s58 s59 s60 s61 s62 s63 s64 s65 s66 s67 s68 s69 s70 s71 s72 s73 s74 s75 b13 b14 b15 dm w hB hrX5 hrX6 hrX9 he1 he2
  · obtain rfl : w8o17 = o := Option.some.inj ho
    obtain rfl : b17 = false := h0
    obtain rfl : b16 = true := h1 ⟨16, .data⟩ (by simp [w8o17]) rfl
    obtain rfl : b15 = true := h1 ⟨15, .data⟩ (by simp [w8o17]) rfl
    obtain rfl : b12 = true := h1 ⟨12, .guard⟩ (by simp [w8o17]) rfl
    obtain rfl : b13 = true := hC 15 w8o15 rfl rfl ⟨13, .data⟩ (by simp [w8o15]) rfl
    obtain rfl : b14 = true := hC 15 w8o15 rfl rfl ⟨14, .data⟩ (by simp [w8o15]) rfl
    obtain rfl : b5 = true := hC 12 w8o12 rfl rfl ⟨5, .chain⟩ (by simp [w8o12]) rfl
    obtain rfl : b11 = true := hC 12 w8o12 rfl rfl ⟨11, .data⟩ (by simp [w8o12]) rfl
    obtain rfl : b10 = true := hC 11 w8o11 rfl rfl ⟨10, .data⟩ (by simp [w8o11]) rfl
    obtain rfl : b7 = true := hC 10 w8o10 rfl rfl ⟨7, .data⟩ (by simp [w8o10]) rfl
    obtain rfl : b9 = true := hC 10 w8o10 rfl rfl ⟨9, .data⟩ (by simp [w8o10]) rfl
    obtain rfl : b8 = true := hC 9 w8o9 rfl rfl ⟨8, .data⟩ (by simp [w8o9]) rfl
    obtain rfl : b6 = true := hC 7 w8o7 rfl rfl ⟨6, .data⟩ (by simp [w8o7]) rfl
    obtain rfl : b4 = true := hC 5 w8o5 rfl rfl ⟨4, .data⟩ (by simp [w8o5]) rfl
    obtain rfl : b1 = true := hC 4 w8o4 rfl rfl ⟨1, .data⟩ (by simp [w8o4]) rfl
    obtain rfl : b3 = true := hC 4 w8o4 rfl rfl ⟨3, .data⟩ (by simp [w8o4]) rfl
    obtain rfl : b2 = true := hC 3 w8o3 rfl rfl ⟨2, .data⟩ (by simp [w8o3]) rfl
    obtain rfl : b0 = true := hC 1 w8o1 rfl rfl ⟨0, .data⟩ (by simp [w8o1]) rfl
    obtain rfl : b18 = false := by
      cases b18 with
      | false => rfl
      | true => exact Bool.noConfusion (show false = true from hC 18 w8o18 rfl rfl ⟨17, .data⟩ (by simp [w8o18]) rfl)
    exact w8_s17 w0 X5 X6 X9 a b u s0 s1 s2 s3 s4 s7 s8 s10 s11 s12 s13 s14 s15 s16 s17 s18 s19 s20 s21 s22 s23 s24 s25 s26 s27 s28 s29 s30 s31 s32 s33 s34 s35 s36 s37 s38 s39 s40 s41 s42 s43 s44 s45 s46 s47 s48 s49 s50 s51 s52 s53 s54 s55 s56 s57 s58 s59 s60 s61 s62 s63 s64 s65 s66 s67 s68 s69 s70 s71 s72 s73 s74 s75  dm w hB hrX5 hrX6 hrX9 he1 he2
  · obtain rfl : w8o18 = o := Option.some.inj ho
    obtain rfl : b18 = false := h0
    obtain rfl : b17 = true := h1 ⟨17, .data⟩ (by simp [w8o18]) rfl
    obtain rfl : b12 = true := h1 ⟨12, .data⟩ (by simp [w8o18]) rfl
    obtain rfl : b15 = true := hC 17 w8o17 rfl rfl ⟨15, .data⟩ (by simp [w8o17]) rfl
    obtain rfl : b16 = true := hC 17 w8o17 rfl rfl ⟨16, .data⟩ (by simp [w8o17]) rfl
    obtain rfl : b13 = true := hC 15 w8o15 rfl rfl ⟨13, .data⟩ (by simp [w8o15]) rfl
    obtain rfl : b14 = true := hC 15 w8o15 rfl rfl ⟨14, .data⟩ (by simp [w8o15]) rfl
    obtain rfl : b5 = true := hC 12 w8o12 rfl rfl ⟨5, .chain⟩ (by simp [w8o12]) rfl
    obtain rfl : b11 = true := hC 12 w8o12 rfl rfl ⟨11, .data⟩ (by simp [w8o12]) rfl
    obtain rfl : b10 = true := hC 11 w8o11 rfl rfl ⟨10, .data⟩ (by simp [w8o11]) rfl
    obtain rfl : b7 = true := hC 10 w8o10 rfl rfl ⟨7, .data⟩ (by simp [w8o10]) rfl
    obtain rfl : b9 = true := hC 10 w8o10 rfl rfl ⟨9, .data⟩ (by simp [w8o10]) rfl
    obtain rfl : b8 = true := hC 9 w8o9 rfl rfl ⟨8, .data⟩ (by simp [w8o9]) rfl
    obtain rfl : b6 = true := hC 7 w8o7 rfl rfl ⟨6, .data⟩ (by simp [w8o7]) rfl
    obtain rfl : b4 = true := hC 5 w8o5 rfl rfl ⟨4, .data⟩ (by simp [w8o5]) rfl
    obtain rfl : b1 = true := hC 4 w8o4 rfl rfl ⟨1, .data⟩ (by simp [w8o4]) rfl
    obtain rfl : b3 = true := hC 4 w8o4 rfl rfl ⟨3, .data⟩ (by simp [w8o4]) rfl
    obtain rfl : b2 = true := hC 3 w8o3 rfl rfl ⟨2, .data⟩ (by simp [w8o3]) rfl
    obtain rfl : b0 = true := hC 1 w8o1 rfl rfl ⟨0, .data⟩ (by simp [w8o1]) rfl
    exact w8_s18 w0 X5 X6 X9 a b u s0 s1 s2 s3 s4 s7 s8 s10 s11 s12 s13 s14 s15 s16 s17 s18 s19 s20 s21 s22 s23 s24 s25 s26 s27 s28 s29 s30 s31 s32 s33 s34 s35 s36 s37 s38 s39 s40 s41 s42 s43 s44 s45 s46 s47 s48 s49 s50 s51 s52 s53 s54 s55 s56 s57 s58 s59 s60 s61 s62 s63 s64 s65 s66 s67 s68 s69 s70 s71 s72 s73 s74 s75  dm w hB hrX5 hrX6 hrX9 he1 he2
set_option maxRecDepth 20000 in
set_option maxHeartbeats 4000000 in
theorem w8_wp {Q : Exit → Act → World → Prop} {rid : Nat} (w0 : World) (X5 X6 X9 : Nat) (a b u : Se) {s0 s1 s2 s3 s4 s7 s8 s10 s11 s12 s13 s14 s15 s16 s17 s18 s19 s20 s21 s22 s23 s24 s25 s26 s27 s28 s29 s30 s31 s32 s33 s34 s35 s36 s37 s38 s39 s40 s41 s42 s43 s44 s45 s46 s47 s48 s49 s50 s51 s52 s53 s54 s55 s56 s57 s58 s59 s60 s61 s62 s63 s64 s65 s66 s67 s68 s69 s70 s71 s72 s73 s74 s75 : Value} (w : World) (hB : Below w0.heap.size w0 w) (hrX5 : RowAt w X5 24 #[.string a.k, .int .i64 a.t, .int .i64 a.s, .bool a.g, .string a.d]) (hrX6 : RowAt w X6 24 #[.string b.k, .int .i64 b.t, .int .i64 b.s, .bool b.g, .string b.d]) (hrX9 : RowAt w X9 24 #[.string u.k, .int .i64 u.t, .int .i64 u.s, .bool u.g, .string u.d]) (he1 : (a.t != b.t) = false) (he2 : (a.s != b.s) = false)
    (fin : ∀ (dm : Nat) (w' : World), (Below w0.heap.size w0 w') → (RowAt w' X5 24 #[.string a.k, .int .i64 a.t, .int .i64 a.s, .bool a.g, .string a.d]) → (RowAt w' X6 24 #[.string b.k, .int .i64 b.t, .int .i64 b.s, .bool b.g, .string b.d]) → (RowAt w' X9 24 #[.string u.k, .int .i64 u.t, .int .i64 u.s, .bool u.g, .string u.d]) → ((a.t != b.t) = false) → ((a.s != b.s) = false) → Q .normal { tmps := #[s0, s1, s2, s3, s4, .pointer (some ⟨X5, 0, none⟩), .pointer (some ⟨X6, 0, none⟩), s7, s8, .pointer (some ⟨X9, 0, none⟩), s10, s11, s12, s13, s14, s15, s16, s17, s18, s19, s20, s21, s22, s23, s24, s25, s26, s27, s28, s29, s30, s31, s32, s33, s34, s35, s36, s37, s38, s39, s40, s41, s42, s43, s44, s45, .pointer (some ⟨X5, 1, none⟩), .int .i64 a.t, .pointer (some ⟨X6, 1, none⟩), .int .i64 b.t, .bool false, .bool false, .pointer (some ⟨X5, 2, none⟩), .int .i64 a.s, .pointer (some ⟨X6, 2, none⟩), .int .i64 b.s, .bool false, .bool false, .bool false, undef, undef, undef, undef, undef, .bool false, s65, s66, s67, s68, s69, s70, s71, s72, s73, s74, s75], defers := [] } w') :
    (Code.region rid w8O true).wp Try.prog Q { tmps := #[s0, s1, s2, s3, s4, .pointer (some ⟨X5, 0, none⟩), .pointer (some ⟨X6, 0, none⟩), s7, s8, .pointer (some ⟨X9, 0, none⟩), s10, s11, s12, s13, s14, s15, s16, s17, s18, s19, s20, s21, s22, s23, s24, s25, s26, s27, s28, s29, s30, s31, s32, s33, s34, s35, s36, s37, s38, s39, s40, s41, s42, s43, s44, s45, s46, s47, s48, s49, s50, s51, s52, s53, s54, s55, s56, s57, s58, s59, s60, s61, s62, s63, s64, s65, s66, s67, s68, s69, s70, s71, s72, s73, s74, s75], defers := [] } w := by
  refine wp_region_inv (ops := w8O) (w8I w0 X5 X6 X9 a b u s0 s1 s2 s3 s4 s7 s8 s10 s11 s12 s13 s14 s15 s16 s17 s18 s19 s20 s21 s22 s23 s24 s25 s26 s27 s28 s29 s30 s31 s32 s33 s34 s35 s36 s37 s38 s39 s40 s41 s42 s43 s44 s45 s46 s47 s48 s49 s50 s51 s52 s53 s54 s55 s56 s57 s58 s59 s60 s61 s62 s63 s64 s65 s66 s67 s68 s69 s70 s71 s72 s73 s74 s75) (by kernel_rfl) (by kernel_rfl) (fun l f v hI => ?_) (fun l f v hC hI i h0 o ho h1 => w8_step w0 X5 X6 X9 a b u s0 s1 s2 s3 s4 s7 s8 s10 s11 s12 s13 s14 s15 s16 s17 s18 s19 s20 s21 s22 s23 s24 s25 s26 s27 s28 s29 s30 s31 s32 s33 s34 s35 s36 s37 s38 s39 s40 s41 s42 s43 s44 s45 s46 s47 s48 s49 s50 s51 s52 s53 s54 s55 s56 s57 s58 s59 s60 s61 s62 s63 s64 s65 s66 s67 s68 s69 s70 s71 s72 s73 s74 s75 l f v hC hI i h0 o ho h1) (fun l f v hI hall => ?_) ?_
  · obtain ⟨_, _, _, _, _, _, _, _, _, _, _, _, _, _, _, _, _, _, _, _, rfl, _⟩ := hI; rfl
  · obtain ⟨b0, b1, b2, b3, b4, b5, b6, b7, b8, b9, b10, b11, b12, b13, b14, b15, b16, b17, b18, dm, rfl, rfl, hB, hrX5, hrX6, hrX9, he1, he2⟩ := hI
    obtain rfl : b0 = true := hall 0 (by simp)
    obtain rfl : b1 = true := hall 1 (by simp)
    obtain rfl : b2 = true := hall 2 (by simp)
    obtain rfl : b3 = true := hall 3 (by simp)
    obtain rfl : b4 = true := hall 4 (by simp)
    obtain rfl : b5 = true := hall 5 (by simp)
    obtain rfl : b6 = true := hall 6 (by simp)
    obtain rfl : b7 = true := hall 7 (by simp)
    obtain rfl : b8 = true := hall 8 (by simp)
    obtain rfl : b9 = true := hall 9 (by simp)
    obtain rfl : b10 = true := hall 10 (by simp)
    obtain rfl : b11 = true := hall 11 (by simp)
    obtain rfl : b12 = true := hall 12 (by simp)
    obtain rfl : b13 = true := hall 13 (by simp)
    obtain rfl : b14 = true := hall 14 (by simp)
    obtain rfl : b15 = true := hall 15 (by simp)
    obtain rfl : b16 = true := hall 16 (by simp)
    obtain rfl : b17 = true := hall 17 (by simp)
    obtain rfl : b18 = true := hall 18 (by simp)
    exact fin dm v hB hrX5 hrX6 hrX9 he1 he2
  · exact ⟨false, false, false, false, false, false, false, false, false, false, false, false, false, false, false, false, false, false, false, 0, rfl, rfl, hB.drew, hrX5.drew, hrX6.drew, hrX9.drew, he1, he2⟩
def u10o0 : Oper := { dst := some 65, op := Op.load 24 (Operand.tmp 5), type := 24, pos := "laws.go:1127", after := #[], guard := none }
def u10o1 : Oper := { dst := some 66, op := Op.load 24 (Operand.tmp 6), type := 24, pos := "laws.go:1127", after := #[], guard := none }
def u10o2 : Oper := { dst := some 67, op := Op.call { callee := Callee.value (Operand.func 6), args := #[Operand.tmp 65, Operand.tmp 66], argTypes := #[24, 24] }, type := 24, pos := "laws.go:1127", after := #[{ on := 0, ground := Ground.data }, { on := 1, ground := Ground.data }], guard := none }
def u10o3 : Oper := { dst := some 68, op := Op.load 24 (Operand.tmp 7), type := 24, pos := "laws.go:1127", after := #[], guard := none }
def u10o4 : Oper := { dst := some 69, op := Op.call { callee := Callee.value (Operand.func 6), args := #[Operand.tmp 67, Operand.tmp 68], argTypes := #[24, 24] }, type := 24, pos := "laws.go:1127", after := #[{ on := 2, ground := Ground.data }, { on := 3, ground := Ground.data }, { on := 2, ground := Ground.chain }], guard := none }
def u10o5 : Oper := { dst := some 70, op := Op.load 24 (Operand.tmp 5), type := 24, pos := "laws.go:1127", after := #[], guard := none }
def u10o6 : Oper := { dst := some 71, op := Op.load 24 (Operand.tmp 6), type := 24, pos := "laws.go:1127", after := #[], guard := none }
def u10o7 : Oper := { dst := some 72, op := Op.load 24 (Operand.tmp 7), type := 24, pos := "laws.go:1127", after := #[], guard := none }
def u10o8 : Oper := { dst := some 73, op := Op.call { callee := Callee.value (Operand.func 6), args := #[Operand.tmp 71, Operand.tmp 72], argTypes := #[24, 24] }, type := 24, pos := "laws.go:1127", after := #[{ on := 6, ground := Ground.data }, { on := 7, ground := Ground.data }, { on := 4, ground := Ground.chain }], guard := none }
def u10o9 : Oper := { dst := some 74, op := Op.call { callee := Callee.value (Operand.func 6), args := #[Operand.tmp 70, Operand.tmp 73], argTypes := #[24, 24] }, type := 24, pos := "laws.go:1127", after := #[{ on := 5, ground := Ground.data }, { on := 8, ground := Ground.data }, { on := 8, ground := Ground.chain }], guard := none }
def u10o10 : Oper := { dst := some 75, op := Op.binOp BinOp.eql 24 (Operand.tmp 69) (Operand.tmp 74) 24, type := 4, pos := "laws.go:1127", after := #[{ on := 4, ground := Ground.data }, { on := 9, ground := Ground.data }], guard := none }
def u10o11 : Oper := { dst := some 4, op := Op.assign (Operand.tmp 75), type := 4, pos := "laws.go:1127", after := #[{ on := 10, ground := Ground.data }, { on := 9, ground := Ground.chain }, { on := 0, ground := Ground.phase }, { on := 1, ground := Ground.phase }, { on := 2, ground := Ground.phase }, { on := 3, ground := Ground.phase }, { on := 4, ground := Ground.phase }, { on := 5, ground := Ground.phase }, { on := 6, ground := Ground.phase }, { on := 7, ground := Ground.phase }, { on := 8, ground := Ground.phase }, { on := 9, ground := Ground.phase }, { on := 10, ground := Ground.phase }], guard := none }
def u10O : Array Oper := #[u10o0, u10o1, u10o2, u10o3, u10o4, u10o5, u10o6, u10o7, u10o8, u10o9, u10o10, u10o11]
def u10I (w0 : World) (X5 X6 X7 : Nat) (a b c u z x : Se) (s0 s1 s2 s3 s4 s8 s9 s10 s11 s12 s13 s14 s15 s16 s17 s18 s19 s20 s21 s22 s23 s24 s25 s26 s27 s28 s29 s30 s31 s32 s33 s34 s35 s36 s37 s38 s39 s40 s41 s42 s43 s44 s45 s46 s47 s48 s49 s50 s51 s52 s53 s54 s55 s56 s57 s58 s59 s60 s61 s62 s63 s64 s65 s66 s67 s68 s69 s70 s71 s72 s73 s74 s75 : Value) (l : Array Bool) (f : Act) (w : World) : Prop :=
  ∃ (b0 b1 b2 b3 b4 b5 b6 b7 b8 b9 b10 b11 : Bool) (dm : Nat), l = #[b0, b1, b2, b3, b4, b5, b6, b7, b8, b9, b10, b11] ∧ f = { tmps := #[s0, s1, s2, s3, selS b11 (.bool true) (s4), .pointer (some ⟨X5, 0, none⟩), .pointer (some ⟨X6, 0, none⟩), .pointer (some ⟨X7, 0, none⟩), s8, s9, s10, s11, s12, s13, s14, s15, s16, s17, s18, s19, s20, s21, s22, s23, s24, s25, s26, s27, s28, s29, s30, s31, s32, s33, s34, s35, s36, s37, s38, s39, s40, s41, s42, s43, s44, s45, s46, s47, s48, s49, s50, s51, s52, s53, s54, s55, s56, s57, s58, s59, s60, s61, s62, s63, s64, selS b0 (.agg #[.string a.k, .int .i64 a.t, .int .i64 a.s, .bool a.g, .string a.d]) (s65), selS b1 (.agg #[.string b.k, .int .i64 b.t, .int .i64 b.s, .bool b.g, .string b.d]) (s66), selS b2 (.agg #[.string u.k, .int .i64 u.t, .int .i64 u.s, .bool u.g, .string u.d]) (s67), selS b3 (.agg #[.string c.k, .int .i64 c.t, .int .i64 c.s, .bool c.g, .string c.d]) (s68), selS b4 (.agg #[.string z.k, .int .i64 z.t, .int .i64 z.s, .bool z.g, .string z.d]) (s69), selS b5 (.agg #[.string a.k, .int .i64 a.t, .int .i64 a.s, .bool a.g, .string a.d]) (s70), selS b6 (.agg #[.string b.k, .int .i64 b.t, .int .i64 b.s, .bool b.g, .string b.d]) (s71), selS b7 (.agg #[.string c.k, .int .i64 c.t, .int .i64 c.s, .bool c.g, .string c.d]) (s72), selS b8 (.agg #[.string x.k, .int .i64 x.t, .int .i64 x.s, .bool x.g, .string x.d]) (s73), selS b9 (.agg #[.string z.k, .int .i64 z.t, .int .i64 z.s, .bool z.g, .string z.d]) (s74), selS b10 (.bool true) (s75)], defers := [] } ∧ (Below w0.heap.size w0 w) ∧ (RowAt w X5 24 #[.string a.k, .int .i64 a.t, .int .i64 a.s, .bool a.g, .string a.d]) ∧ (RowAt w X6 24 #[.string b.k, .int .i64 b.t, .int .i64 b.s, .bool b.g, .string b.d]) ∧ (RowAt w X7 24 #[.string c.k, .int .i64 c.t, .int .i64 c.s, .bool c.g, .string c.d]) ∧ (∀ wx, Below w0.heap.size w0 wx → Calls Try.prog 6 #[.agg #[.string a.k, .int .i64 a.t, .int .i64 a.s, .bool a.g, .string a.d], .agg #[.string b.k, .int .i64 b.t, .int .i64 b.s, .bool b.g, .string b.d]] wx fun e w' => e = .returned (.agg #[.string u.k, .int .i64 u.t, .int .i64 u.s, .bool u.g, .string u.d]) ∧ Below wx.heap.size wx w') ∧ (∀ wx, Below w0.heap.size w0 wx → Calls Try.prog 6 #[.agg #[.string u.k, .int .i64 u.t, .int .i64 u.s, .bool u.g, .string u.d], .agg #[.string c.k, .int .i64 c.t, .int .i64 c.s, .bool c.g, .string c.d]] wx fun e w' => e = .returned (.agg #[.string z.k, .int .i64 z.t, .int .i64 z.s, .bool z.g, .string z.d]) ∧ Below wx.heap.size wx w') ∧ (∀ wx, Below w0.heap.size w0 wx → Calls Try.prog 6 #[.agg #[.string b.k, .int .i64 b.t, .int .i64 b.s, .bool b.g, .string b.d], .agg #[.string c.k, .int .i64 c.t, .int .i64 c.s, .bool c.g, .string c.d]] wx fun e w' => e = .returned (.agg #[.string x.k, .int .i64 x.t, .int .i64 x.s, .bool x.g, .string x.d]) ∧ Below wx.heap.size wx w') ∧ (∀ wx, Below w0.heap.size w0 wx → Calls Try.prog 6 #[.agg #[.string a.k, .int .i64 a.t, .int .i64 a.s, .bool a.g, .string a.d], .agg #[.string x.k, .int .i64 x.t, .int .i64 x.s, .bool x.g, .string x.d]] wx fun e w' => e = .returned (.agg #[.string z.k, .int .i64 z.t, .int .i64 z.s, .bool z.g, .string z.d]) ∧ Below wx.heap.size wx w') ∧ (seEq z.k z.t z.s z.g z.d z.k z.t z.s z.g z.d = true)
set_option maxRecDepth 20000 in
set_option maxHeartbeats 1000000 in
theorem u10_s0 {Q : Exit → Act → World → Prop} (w0 : World) (X5 X6 X7 : Nat) (a b c u z x : Se) (s0 s1 s2 s3 s4 s8 s9 s10 s11 s12 s13 s14 s15 s16 s17 s18 s19 s20 s21 s22 s23 s24 s25 s26 s27 s28 s29 s30 s31 s32 s33 s34 s35 s36 s37 s38 s39 s40 s41 s42 s43 s44 s45 s46 s47 s48 s49 s50 s51 s52 s53 s54 s55 s56 s57 s58 s59 s60 s61 s62 s63 s64 s65 s66 s67 s68 s69 s70 s71 s72 s73 s74 s75 : Value) (b1 b3 b5 b6 b7 : Bool) (dm : Nat) (w : World) (hB : Below w0.heap.size w0 w) (hrX5 : RowAt w X5 24 #[.string a.k, .int .i64 a.t, .int .i64 a.s, .bool a.g, .string a.d]) (hrX6 : RowAt w X6 24 #[.string b.k, .int .i64 b.t, .int .i64 b.s, .bool b.g, .string b.d]) (hrX7 : RowAt w X7 24 #[.string c.k, .int .i64 c.t, .int .i64 c.s, .bool c.g, .string c.d]) (hk1 : ∀ wx, Below w0.heap.size w0 wx → Calls Try.prog 6 #[.agg #[.string a.k, .int .i64 a.t, .int .i64 a.s, .bool a.g, .string a.d], .agg #[.string b.k, .int .i64 b.t, .int .i64 b.s, .bool b.g, .string b.d]] wx fun e w' => e = .returned (.agg #[.string u.k, .int .i64 u.t, .int .i64 u.s, .bool u.g, .string u.d]) ∧ Below wx.heap.size wx w') (hk2 : ∀ wx, Below w0.heap.size w0 wx → Calls Try.prog 6 #[.agg #[.string u.k, .int .i64 u.t, .int .i64 u.s, .bool u.g, .string u.d], .agg #[.string c.k, .int .i64 c.t, .int .i64 c.s, .bool c.g, .string c.d]] wx fun e w' => e = .returned (.agg #[.string z.k, .int .i64 z.t, .int .i64 z.s, .bool z.g, .string z.d]) ∧ Below wx.heap.size wx w') (hk3 : ∀ wx, Below w0.heap.size w0 wx → Calls Try.prog 6 #[.agg #[.string b.k, .int .i64 b.t, .int .i64 b.s, .bool b.g, .string b.d], .agg #[.string c.k, .int .i64 c.t, .int .i64 c.s, .bool c.g, .string c.d]] wx fun e w' => e = .returned (.agg #[.string x.k, .int .i64 x.t, .int .i64 x.s, .bool x.g, .string x.d]) ∧ Below wx.heap.size wx w') (hk4 : ∀ wx, Below w0.heap.size w0 wx → Calls Try.prog 6 #[.agg #[.string a.k, .int .i64 a.t, .int .i64 a.s, .bool a.g, .string a.d], .agg #[.string x.k, .int .i64 x.t, .int .i64 x.s, .bool x.g, .string x.d]] wx fun e w' => e = .returned (.agg #[.string z.k, .int .i64 z.t, .int .i64 z.s, .bool z.g, .string z.d]) ∧ Below wx.heap.size wx w') (he1 : seEq z.k z.t z.s z.g z.d z.k z.t z.s z.g z.d = true) :
    wpOp Try.prog u10O Q 0 (u10I w0 X5 X6 X7 a b c u z x s0 s1 s2 s3 s4 s8 s9 s10 s11 s12 s13 s14 s15 s16 s17 s18 s19 s20 s21 s22 s23 s24 s25 s26 s27 s28 s29 s30 s31 s32 s33 s34 s35 s36 s37 s38 s39 s40 s41 s42 s43 s44 s45 s46 s47 s48 s49 s50 s51 s52 s53 s54 s55 s56 s57 s58 s59 s60 s61 s62 s63 s64 s65 s66 s67 s68 s69 s70 s71 s72 s73 s74 s75 #[true, b1, false, b3, false, b5, b6, b7, false, false, false, false]) { tmps := #[s0, s1, s2, s3, s4, .pointer (some ⟨X5, 0, none⟩), .pointer (some ⟨X6, 0, none⟩), .pointer (some ⟨X7, 0, none⟩), s8, s9, s10, s11, s12, s13, s14, s15, s16, s17, s18, s19, s20, s21, s22, s23, s24, s25, s26, s27, s28, s29, s30, s31, s32, s33, s34, s35, s36, s37, s38, s39, s40, s41, s42, s43, s44, s45, s46, s47, s48, s49, s50, s51, s52, s53, s54, s55, s56, s57, s58, s59, s60, s61, s62, s63, s64, s65, selS b1 (.agg #[.string b.k, .int .i64 b.t, .int .i64 b.s, .bool b.g, .string b.d]) (s66), s67, selS b3 (.agg #[.string c.k, .int .i64 c.t, .int .i64 c.s, .bool c.g, .string c.d]) (s68), s69, selS b5 (.agg #[.string a.k, .int .i64 a.t, .int .i64 a.s, .bool a.g, .string a.d]) (s70), selS b6 (.agg #[.string b.k, .int .i64 b.t, .int .i64 b.s, .bool b.g, .string b.d]) (s71), selS b7 (.agg #[.string c.k, .int .i64 c.t, .int .i64 c.s, .bool c.g, .string c.d]) (s72), s73, s74, s75], defers := [] } w := by
  have q0 := hrX5.cell 0
  have q1 := hrX5.cell 1
  have q2 := hrX5.cell 2
  have q3 := hrX5.cell 3
  have q4 := hrX5.cell 4
  refine wpOp_step (o := { dst := some 65, op := Op.load 24 (Operand.tmp 5), type := 24, pos := "laws.go:1127", after := #[], guard := none }) rfl (fun K hK => ?_)
  replace hK := hid hK
  go_simp
  exact hK.out _ _ ⟨true, b1, false, b3, false, b5, b6, b7, false, false, false, false, dm, rfl, rfl, hB, hrX5, hrX6, hrX7, hk1, hk2, hk3, hk4, he1⟩
set_option maxRecDepth 20000 in
set_option maxHeartbeats 1000000 in
theorem u10_s1 {Q : Exit → Act → World → Prop} (w0 : World) (X5 X6 X7 : Nat) (a b c u z x : Se) (s0 s1 s2 s3 s4 s8 s9 s10 s11 s12 s13 s14 s15 s16 s17 s18 s19 s20 s21 s22 s23 s24 s25 s26 s27 s28 s29 s30 s31 s32 s33 s34 s35 s36 s37 s38 s39 s40 s41 s42 s43 s44 s45 s46 s47 s48 s49 s50 s51 s52 s53 s54 s55 s56 s57 s58 s59 s60 s61 s62 s63 s64 s65 s66 s67 s68 s69 s70 s71 s72 s73 s74 s75 : Value) (b0 b3 b5 b6 b7 : Bool) (dm : Nat) (w : World) (hB : Below w0.heap.size w0 w) (hrX5 : RowAt w X5 24 #[.string a.k, .int .i64 a.t, .int .i64 a.s, .bool a.g, .string a.d]) (hrX6 : RowAt w X6 24 #[.string b.k, .int .i64 b.t, .int .i64 b.s, .bool b.g, .string b.d]) (hrX7 : RowAt w X7 24 #[.string c.k, .int .i64 c.t, .int .i64 c.s, .bool c.g, .string c.d]) (hk1 : ∀ wx, Below w0.heap.size w0 wx → Calls Try.prog 6 #[.agg #[.string a.k, .int .i64 a.t, .int .i64 a.s, .bool a.g, .string a.d], .agg #[.string b.k, .int .i64 b.t, .int .i64 b.s, .bool b.g, .string b.d]] wx fun e w' => e = .returned (.agg #[.string u.k, .int .i64 u.t, .int .i64 u.s, .bool u.g, .string u.d]) ∧ Below wx.heap.size wx w') (hk2 : ∀ wx, Below w0.heap.size w0 wx → Calls Try.prog 6 #[.agg #[.string u.k, .int .i64 u.t, .int .i64 u.s, .bool u.g, .string u.d], .agg #[.string c.k, .int .i64 c.t, .int .i64 c.s, .bool c.g, .string c.d]] wx fun e w' => e = .returned (.agg #[.string z.k, .int .i64 z.t, .int .i64 z.s, .bool z.g, .string z.d]) ∧ Below wx.heap.size wx w') (hk3 : ∀ wx, Below w0.heap.size w0 wx → Calls Try.prog 6 #[.agg #[.string b.k, .int .i64 b.t, .int .i64 b.s, .bool b.g, .string b.d], .agg #[.string c.k, .int .i64 c.t, .int .i64 c.s, .bool c.g, .string c.d]] wx fun e w' => e = .returned (.agg #[.string x.k, .int .i64 x.t, .int .i64 x.s, .bool x.g, .string x.d]) ∧ Below wx.heap.size wx w') (hk4 : ∀ wx, Below w0.heap.size w0 wx → Calls Try.prog 6 #[.agg #[.string a.k, .int .i64 a.t, .int .i64 a.s, .bool a.g, .string a.d], .agg #[.string x.k, .int .i64 x.t, .int .i64 x.s, .bool x.g, .string x.d]] wx fun e w' => e = .returned (.agg #[.string z.k, .int .i64 z.t, .int .i64 z.s, .bool z.g, .string z.d]) ∧ Below wx.heap.size wx w') (he1 : seEq z.k z.t z.s z.g z.d z.k z.t z.s z.g z.d = true) :
    wpOp Try.prog u10O Q 1 (u10I w0 X5 X6 X7 a b c u z x s0 s1 s2 s3 s4 s8 s9 s10 s11 s12 s13 s14 s15 s16 s17 s18 s19 s20 s21 s22 s23 s24 s25 s26 s27 s28 s29 s30 s31 s32 s33 s34 s35 s36 s37 s38 s39 s40 s41 s42 s43 s44 s45 s46 s47 s48 s49 s50 s51 s52 s53 s54 s55 s56 s57 s58 s59 s60 s61 s62 s63 s64 s65 s66 s67 s68 s69 s70 s71 s72 s73 s74 s75 #[b0, true, false, b3, false, b5, b6, b7, false, false, false, false]) { tmps := #[s0, s1, s2, s3, s4, .pointer (some ⟨X5, 0, none⟩), .pointer (some ⟨X6, 0, none⟩), .pointer (some ⟨X7, 0, none⟩), s8, s9, s10, s11, s12, s13, s14, s15, s16, s17, s18, s19, s20, s21, s22, s23, s24, s25, s26, s27, s28, s29, s30, s31, s32, s33, s34, s35, s36, s37, s38, s39, s40, s41, s42, s43, s44, s45, s46, s47, s48, s49, s50, s51, s52, s53, s54, s55, s56, s57, s58, s59, s60, s61, s62, s63, s64, selS b0 (.agg #[.string a.k, .int .i64 a.t, .int .i64 a.s, .bool a.g, .string a.d]) (s65), s66, s67, selS b3 (.agg #[.string c.k, .int .i64 c.t, .int .i64 c.s, .bool c.g, .string c.d]) (s68), s69, selS b5 (.agg #[.string a.k, .int .i64 a.t, .int .i64 a.s, .bool a.g, .string a.d]) (s70), selS b6 (.agg #[.string b.k, .int .i64 b.t, .int .i64 b.s, .bool b.g, .string b.d]) (s71), selS b7 (.agg #[.string c.k, .int .i64 c.t, .int .i64 c.s, .bool c.g, .string c.d]) (s72), s73, s74, s75], defers := [] } w := by
  have q0 := hrX6.cell 0
  have q1 := hrX6.cell 1
  have q2 := hrX6.cell 2
  have q3 := hrX6.cell 3
  have q4 := hrX6.cell 4
  refine wpOp_step (o := { dst := some 66, op := Op.load 24 (Operand.tmp 6), type := 24, pos := "laws.go:1127", after := #[], guard := none }) rfl (fun K hK => ?_)
  replace hK := hid hK
  go_simp
  exact hK.out _ _ ⟨b0, true, false, b3, false, b5, b6, b7, false, false, false, false, dm, rfl, rfl, hB, hrX5, hrX6, hrX7, hk1, hk2, hk3, hk4, he1⟩
set_option maxRecDepth 20000 in
set_option maxHeartbeats 1000000 in
theorem u10_s2 {Q : Exit → Act → World → Prop} (w0 : World) (X5 X6 X7 : Nat) (a b c u z x : Se) (s0 s1 s2 s3 s4 s8 s9 s10 s11 s12 s13 s14 s15 s16 s17 s18 s19 s20 s21 s22 s23 s24 s25 s26 s27 s28 s29 s30 s31 s32 s33 s34 s35 s36 s37 s38 s39 s40 s41 s42 s43 s44 s45 s46 s47 s48 s49 s50 s51 s52 s53 s54 s55 s56 s57 s58 s59 s60 s61 s62 s63 s64 s65 s66 s67 s68 s69 s70 s71 s72 s73 s74 s75 : Value) (b3 b5 b6 b7 : Bool) (dm : Nat) (w : World) (hB : Below w0.heap.size w0 w) (hrX5 : RowAt w X5 24 #[.string a.k, .int .i64 a.t, .int .i64 a.s, .bool a.g, .string a.d]) (hrX6 : RowAt w X6 24 #[.string b.k, .int .i64 b.t, .int .i64 b.s, .bool b.g, .string b.d]) (hrX7 : RowAt w X7 24 #[.string c.k, .int .i64 c.t, .int .i64 c.s, .bool c.g, .string c.d]) (hk1 : ∀ wx, Below w0.heap.size w0 wx → Calls Try.prog 6 #[.agg #[.string a.k, .int .i64 a.t, .int .i64 a.s, .bool a.g, .string a.d], .agg #[.string b.k, .int .i64 b.t, .int .i64 b.s, .bool b.g, .string b.d]] wx fun e w' => e = .returned (.agg #[.string u.k, .int .i64 u.t, .int .i64 u.s, .bool u.g, .string u.d]) ∧ Below wx.heap.size wx w') (hk2 : ∀ wx, Below w0.heap.size w0 wx → Calls Try.prog 6 #[.agg #[.string u.k, .int .i64 u.t, .int .i64 u.s, .bool u.g, .string u.d], .agg #[.string c.k, .int .i64 c.t, .int .i64 c.s, .bool c.g, .string c.d]] wx fun e w' => e = .returned (.agg #[.string z.k, .int .i64 z.t, .int .i64 z.s, .bool z.g, .string z.d]) ∧ Below wx.heap.size wx w') (hk3 : ∀ wx, Below w0.heap.size w0 wx → Calls Try.prog 6 #[.agg #[.string b.k, .int .i64 b.t, .int .i64 b.s, .bool b.g, .string b.d], .agg #[.string c.k, .int .i64 c.t, .int .i64 c.s, .bool c.g, .string c.d]] wx fun e w' => e = .returned (.agg #[.string x.k, .int .i64 x.t, .int .i64 x.s, .bool x.g, .string x.d]) ∧ Below wx.heap.size wx w') (hk4 : ∀ wx, Below w0.heap.size w0 wx → Calls Try.prog 6 #[.agg #[.string a.k, .int .i64 a.t, .int .i64 a.s, .bool a.g, .string a.d], .agg #[.string x.k, .int .i64 x.t, .int .i64 x.s, .bool x.g, .string x.d]] wx fun e w' => e = .returned (.agg #[.string z.k, .int .i64 z.t, .int .i64 z.s, .bool z.g, .string z.d]) ∧ Below wx.heap.size wx w') (he1 : seEq z.k z.t z.s z.g z.d z.k z.t z.s z.g z.d = true) :
    wpOp Try.prog u10O Q 2 (u10I w0 X5 X6 X7 a b c u z x s0 s1 s2 s3 s4 s8 s9 s10 s11 s12 s13 s14 s15 s16 s17 s18 s19 s20 s21 s22 s23 s24 s25 s26 s27 s28 s29 s30 s31 s32 s33 s34 s35 s36 s37 s38 s39 s40 s41 s42 s43 s44 s45 s46 s47 s48 s49 s50 s51 s52 s53 s54 s55 s56 s57 s58 s59 s60 s61 s62 s63 s64 s65 s66 s67 s68 s69 s70 s71 s72 s73 s74 s75 #[true, true, true, b3, false, b5, b6, b7, false, false, false, false]) { tmps := #[s0, s1, s2, s3, s4, .pointer (some ⟨X5, 0, none⟩), .pointer (some ⟨X6, 0, none⟩), .pointer (some ⟨X7, 0, none⟩), s8, s9, s10, s11, s12, s13, s14, s15, s16, s17, s18, s19, s20, s21, s22, s23, s24, s25, s26, s27, s28, s29, s30, s31, s32, s33, s34, s35, s36, s37, s38, s39, s40, s41, s42, s43, s44, s45, s46, s47, s48, s49, s50, s51, s52, s53, s54, s55, s56, s57, s58, s59, s60, s61, s62, s63, s64, .agg #[.string a.k, .int .i64 a.t, .int .i64 a.s, .bool a.g, .string a.d], .agg #[.string b.k, .int .i64 b.t, .int .i64 b.s, .bool b.g, .string b.d], s67, selS b3 (.agg #[.string c.k, .int .i64 c.t, .int .i64 c.s, .bool c.g, .string c.d]) (s68), s69, selS b5 (.agg #[.string a.k, .int .i64 a.t, .int .i64 a.s, .bool a.g, .string a.d]) (s70), selS b6 (.agg #[.string b.k, .int .i64 b.t, .int .i64 b.s, .bool b.g, .string b.d]) (s71), selS b7 (.agg #[.string c.k, .int .i64 c.t, .int .i64 c.s, .bool c.g, .string c.d]) (s72), s73, s74, s75], defers := [] } w := by
  refine wpOp_step (o := { dst := some 67, op := Op.call { callee := Callee.value (Operand.func 6), args := #[Operand.tmp 65, Operand.tmp 66], argTypes := #[24, 24] }, type := 24, pos := "laws.go:1127", after := #[{ on := 0, ground := Ground.data }, { on := 1, ground := Ground.data }], guard := none }) rfl (fun K hK => ?_)
  replace hK := hid hK
  go_simp
  refine (hk1 _ hB).mono ?_
  rintro e w2 ⟨rfl, hb2⟩
  dsimp only
  exact hK.out _ _ ⟨true, true, true, b3, false, b5, b6, b7, false, false, false, false, dm, rfl, rfl, hB.trans (hb2.mono hB.size), RowAt.nxW hb2 hrX5, RowAt.nxW hb2 hrX6, RowAt.nxW hb2 hrX7, hk1, hk2, hk3, hk4, he1⟩
set_option maxRecDepth 20000 in
set_option maxHeartbeats 1000000 in
theorem u10_s3 {Q : Exit → Act → World → Prop} (w0 : World) (X5 X6 X7 : Nat) (a b c u z x : Se) (s0 s1 s2 s3 s4 s8 s9 s10 s11 s12 s13 s14 s15 s16 s17 s18 s19 s20 s21 s22 s23 s24 s25 s26 s27 s28 s29 s30 s31 s32 s33 s34 s35 s36 s37 s38 s39 s40 s41 s42 s43 s44 s45 s46 s47 s48 s49 s50 s51 s52 s53 s54 s55 s56 s57 s58 s59 s60 s61 s62 s63 s64 s65 s66 s67 s68 s69 s70 s71 s72 s73 s74 s75 : Value) (b0 b1 b2 b5 b6 b7 : Bool) (dm : Nat) (w : World) (hB : Below w0.heap.size w0 w) (hrX5 : RowAt w X5 24 #[.string a.k, .int .i64 a.t, .int .i64 a.s, .bool a.g, .string a.d]) (hrX6 : RowAt w X6 24 #[.string b.k, .int .i64 b.t, .int .i64 b.s, .bool b.g, .string b.d]) (hrX7 : RowAt w X7 24 #[.string c.k, .int .i64 c.t, .int .i64 c.s, .bool c.g, .string c.d]) (hk1 : ∀ wx, Below w0.heap.size w0 wx → Calls Try.prog 6 #[.agg #[.string a.k, .int .i64 a.t, .int .i64 a.s, .bool a.g, .string a.d], .agg #[.string b.k, .int .i64 b.t, .int .i64 b.s, .bool b.g, .string b.d]] wx fun e w' => e = .returned (.agg #[.string u.k, .int .i64 u.t, .int .i64 u.s, .bool u.g, .string u.d]) ∧ Below wx.heap.size wx w') (hk2 : ∀ wx, Below w0.heap.size w0 wx → Calls Try.prog 6 #[.agg #[.string u.k, .int .i64 u.t, .int .i64 u.s, .bool u.g, .string u.d], .agg #[.string c.k, .int .i64 c.t, .int .i64 c.s, .bool c.g, .string c.d]] wx fun e w' => e = .returned (.agg #[.string z.k, .int .i64 z.t, .int .i64 z.s, .bool z.g, .string z.d]) ∧ Below wx.heap.size wx w') (hk3 : ∀ wx, Below w0.heap.size w0 wx → Calls Try.prog 6 #[.agg #[.string b.k, .int .i64 b.t, .int .i64 b.s, .bool b.g, .string b.d], .agg #[.string c.k, .int .i64 c.t, .int .i64 c.s, .bool c.g, .string c.d]] wx fun e w' => e = .returned (.agg #[.string x.k, .int .i64 x.t, .int .i64 x.s, .bool x.g, .string x.d]) ∧ Below wx.heap.size wx w') (hk4 : ∀ wx, Below w0.heap.size w0 wx → Calls Try.prog 6 #[.agg #[.string a.k, .int .i64 a.t, .int .i64 a.s, .bool a.g, .string a.d], .agg #[.string x.k, .int .i64 x.t, .int .i64 x.s, .bool x.g, .string x.d]] wx fun e w' => e = .returned (.agg #[.string z.k, .int .i64 z.t, .int .i64 z.s, .bool z.g, .string z.d]) ∧ Below wx.heap.size wx w') (he1 : seEq z.k z.t z.s z.g z.d z.k z.t z.s z.g z.d = true) :
    wpOp Try.prog u10O Q 3 (u10I w0 X5 X6 X7 a b c u z x s0 s1 s2 s3 s4 s8 s9 s10 s11 s12 s13 s14 s15 s16 s17 s18 s19 s20 s21 s22 s23 s24 s25 s26 s27 s28 s29 s30 s31 s32 s33 s34 s35 s36 s37 s38 s39 s40 s41 s42 s43 s44 s45 s46 s47 s48 s49 s50 s51 s52 s53 s54 s55 s56 s57 s58 s59 s60 s61 s62 s63 s64 s65 s66 s67 s68 s69 s70 s71 s72 s73 s74 s75 #[b0, b1, b2, true, false, b5, b6, b7, false, false, false, false]) { tmps := #[s0, s1, s2, s3, s4, .pointer (some ⟨X5, 0, none⟩), .pointer (some ⟨X6, 0, none⟩), .pointer (some ⟨X7, 0, none⟩), s8, s9, s10, s11, s12, s13, s14, s15, s16, s17, s18, s19, s20, s21, s22, s23, s24, s25, s26, s27, s28, s29, s30, s31, s32, s33, s34, s35, s36, s37, s38, s39, s40, s41, s42, s43, s44, s45, s46, s47, s48, s49, s50, s51, s52, s53, s54, s55, s56, s57, s58, s59, s60, s61, s62, s63, s64, selS b0 (.agg #[.string a.k, .int .i64 a.t, .int .i64 a.s, .bool a.g, .string a.d]) (s65), selS b1 (.agg #[.string b.k, .int .i64 b.t, .int .i64 b.s, .bool b.g, .string b.d]) (s66), selS b2 (.agg #[.string u.k, .int .i64 u.t, .int .i64 u.s, .bool u.g, .string u.d]) (s67), s68, s69, selS b5 (.agg #[.string a.k, .int .i64 a.t, .int .i64 a.s, .bool a.g, .string a.d]) (s70), selS b6 (.agg #[.string b.k, .int .i64 b.t, .int .i64 b.s, .bool b.g, .string b.d]) (s71), selS b7 (.agg #[.string c.k, .int .i64 c.t, .int .i64 c.s, .bool c.g, .string c.d]) (s72), s73, s74, s75], defers := [] } w := by
  have q0 := hrX7.cell 0
  have q1 := hrX7.cell 1
  have q2 := hrX7.cell 2
  have q3 := hrX7.cell 3
  have q4 := hrX7.cell 4
  refine wpOp_step (o := { dst := some 68, op := Op.load 24 (Operand.tmp 7), type := 24, pos := "laws.go:1127", after := #[], guard := none }) rfl (fun K hK => ?_)
  replace hK := hid hK
  go_simp
  exact hK.out _ _ ⟨b0, b1, b2, true, false, b5, b6, b7, false, false, false, false, dm, rfl, rfl, hB, hrX5, hrX6, hrX7, hk1, hk2, hk3, hk4, he1⟩
set_option maxRecDepth 20000 in
set_option maxHeartbeats 1000000 in
theorem u10_s4 {Q : Exit → Act → World → Prop} (w0 : World) (X5 X6 X7 : Nat) (a b c u z x : Se) (s0 s1 s2 s3 s4 s8 s9 s10 s11 s12 s13 s14 s15 s16 s17 s18 s19 s20 s21 s22 s23 s24 s25 s26 s27 s28 s29 s30 s31 s32 s33 s34 s35 s36 s37 s38 s39 s40 s41 s42 s43 s44 s45 s46 s47 s48 s49 s50 s51 s52 s53 s54 s55 s56 s57 s58 s59 s60 s61 s62 s63 s64 s65 s66 s67 s68 s69 s70 s71 s72 s73 s74 s75 : Value) (b5 b6 b7 : Bool) (dm : Nat) (w : World) (hB : Below w0.heap.size w0 w) (hrX5 : RowAt w X5 24 #[.string a.k, .int .i64 a.t, .int .i64 a.s, .bool a.g, .string a.d]) (hrX6 : RowAt w X6 24 #[.string b.k, .int .i64 b.t, .int .i64 b.s, .bool b.g, .string b.d]) (hrX7 : RowAt w X7 24 #[.string c.k, .int .i64 c.t, .int .i64 c.s, .bool c.g, .string c.d]) (hk1 : ∀ wx, Below w0.heap.size w0 wx → Calls Try.prog 6 #[.agg #[.string a.k, .int .i64 a.t, .int .i64 a.s, .bool a.g, .string a.d], .agg #[.string b.k, .int .i64 b.t, .int .i64 b.s, .bool b.g, .string b.d]] wx fun e w' => e = .returned (.agg #[.string u.k, .int .i64 u.t, .int .i64 u.s, .bool u.g, .string u.d]) ∧ Below wx.heap.size wx w') (hk2 : ∀ wx, Below w0.heap.size w0 wx → Calls Try.prog 6 #[.agg #[.string u.k, .int .i64 u.t, .int .i64 u.s, .bool u.g, .string u.d], .agg #[.string c.k, .int .i64 c.t, .int .i64 c.s, .bool c.g, .string c.d]] wx fun e w' => e = .returned (.agg #[.string z.k, .int .i64 z.t, .int .i64 z.s, .bool z.g, .string z.d]) ∧ Below wx.heap.size wx w') (hk3 : ∀ wx, Below w0.heap.size w0 wx → Calls Try.prog 6 #[.agg #[.string b.k, .int .i64 b.t, .int .i64 b.s, .bool b.g, .string b.d], .agg #[.string c.k, .int .i64 c.t, .int .i64 c.s, .bool c.g, .string c.d]] wx fun e w' => e = .returned (.agg #[.string x.k, .int .i64 x.t, .int .i64 x.s, .bool x.g, .string x.d]) ∧ Below wx.heap.size wx w') (hk4 : ∀ wx, Below w0.heap.size w0 wx → Calls Try.prog 6 #[.agg #[.string a.k, .int .i64 a.t, .int .i64 a.s, .bool a.g, .string a.d], .agg #[.string x.k, .int .i64 x.t, .int .i64 x.s, .bool x.g, .string x.d]] wx fun e w' => e = .returned (.agg #[.string z.k, .int .i64 z.t, .int .i64 z.s, .bool z.g, .string z.d]) ∧ Below wx.heap.size wx w') (he1 : seEq z.k z.t z.s z.g z.d z.k z.t z.s z.g z.d = true) :
    wpOp Try.prog u10O Q 4 (u10I w0 X5 X6 X7 a b c u z x s0 s1 s2 s3 s4 s8 s9 s10 s11 s12 s13 s14 s15 s16 s17 s18 s19 s20 s21 s22 s23 s24 s25 s26 s27 s28 s29 s30 s31 s32 s33 s34 s35 s36 s37 s38 s39 s40 s41 s42 s43 s44 s45 s46 s47 s48 s49 s50 s51 s52 s53 s54 s55 s56 s57 s58 s59 s60 s61 s62 s63 s64 s65 s66 s67 s68 s69 s70 s71 s72 s73 s74 s75 #[true, true, true, true, true, b5, b6, b7, false, false, false, false]) { tmps := #[s0, s1, s2, s3, s4, .pointer (some ⟨X5, 0, none⟩), .pointer (some ⟨X6, 0, none⟩), .pointer (some ⟨X7, 0, none⟩), s8, s9, s10, s11, s12, s13, s14, s15, s16, s17, s18, s19, s20, s21, s22, s23, s24, s25, s26, s27, s28, s29, s30, s31, s32, s33, s34, s35, s36, s37, s38, s39, s40, s41, s42, s43, s44, s45, s46, s47, s48, s49, s50, s51, s52, s53, s54, s55, s56, s57, s58, s59, s60, s61, s62, s63, s64, .agg #[.string a.k, .int .i64 a.t, .int .i64 a.s, .bool a.g, .string a.d], .agg #[.string b.k, .int .i64 b.t, .int .i64 b.s, .bool b.g, .string b.d], .agg #[.string u.k, .int .i64 u.t, .int .i64 u.s, .bool u.g, .string u.d], .agg #[.string c.k, .int .i64 c.t, .int .i64 c.s, .bool c.g, .string c.d], s69, selS b5 (.agg #[.string a.k, .int .i64 a.t, .int .i64 a.s, .bool a.g, .string a.d]) (s70), selS b6 (.agg #[.string b.k, .int .i64 b.t, .int .i64 b.s, .bool b.g, .string b.d]) (s71), selS b7 (.agg #[.string c.k, .int .i64 c.t, .int .i64 c.s, .bool c.g, .string c.d]) (s72), s73, s74, s75], defers := [] } w := by
  refine wpOp_step (o := { dst := some 69, op := Op.call { callee := Callee.value (Operand.func 6), args := #[Operand.tmp 67, Operand.tmp 68], argTypes := #[24, 24] }, type := 24, pos := "laws.go:1127", after := #[{ on := 2, ground := Ground.data }, { on := 3, ground := Ground.data }, { on := 2, ground := Ground.chain }], guard := none }) rfl (fun K hK => ?_)
  replace hK := hid hK
  go_simp
  refine (hk2 _ hB).mono ?_
  rintro e w2 ⟨rfl, hb2⟩
  dsimp only
  exact hK.out _ _ ⟨true, true, true, true, true, b5, b6, b7, false, false, false, false, dm, rfl, rfl, hB.trans (hb2.mono hB.size), RowAt.nxW hb2 hrX5, RowAt.nxW hb2 hrX6, RowAt.nxW hb2 hrX7, hk1, hk2, hk3, hk4, he1⟩
set_option maxRecDepth 20000 in
set_option maxHeartbeats 1000000 in
theorem u10_s5 {Q : Exit → Act → World → Prop} (w0 : World) (X5 X6 X7 : Nat) (a b c u z x : Se) (s0 s1 s2 s3 s4 s8 s9 s10 s11 s12 s13 s14 s15 s16 s17 s18 s19 s20 s21 s22 s23 s24 s25 s26 s27 s28 s29 s30 s31 s32 s33 s34 s35 s36 s37 s38 s39 s40 s41 s42 s43 s44 s45 s46 s47 s48 s49 s50 s51 s52 s53 s54 s55 s56 s57 s58 s59 s60 s61 s62 s63 s64 s65 s66 s67 s68 s69 s70 s71 s72 s73 s74 s75 : Value) (b0 b1 b2 b3 b4 b6 b7 b8 : Bool) (dm : Nat) (w : World) (hB : Below w0.heap.size w0 w) (hrX5 : RowAt w X5 24 #[.string a.k, .int .i64 a.t, .int .i64 a.s, .bool a.g, .string a.d]) (hrX6 : RowAt w X6 24 #[.string b.k, .int .i64 b.t, .int .i64 b.s, .bool b.g, .string b.d]) (hrX7 : RowAt w X7 24 #[.string c.k, .int .i64 c.t, .int .i64 c.s, .bool c.g, .string c.d]) (hk1 : ∀ wx, Below w0.heap.size w0 wx → Calls Try.prog 6 #[.agg #[.string a.k, .int .i64 a.t, .int .i64 a.s, .bool a.g, .string a.d], .agg #[.string b.k, .int .i64 b.t, .int .i64 b.s, .bool b.g, .string b.d]] wx fun e w' => e = .returned (.agg #[.string u.k, .int .i64 u.t, .int .i64 u.s, .bool u.g, .string u.d]) ∧ Below wx.heap.size wx w') (hk2 : ∀ wx, Below w0.heap.size w0 wx → Calls Try.prog 6 #[.agg #[.string u.k, .int .i64 u.t, .int .i64 u.s, .bool u.g, .string u.d], .agg #[.string c.k, .int .i64 c.t, .int .i64 c.s, .bool c.g, .string c.d]] wx fun e w' => e = .returned (.agg #[.string z.k, .int .i64 z.t, .int .i64 z.s, .bool z.g, .string z.d]) ∧ Below wx.heap.size wx w') (hk3 : ∀ wx, Below w0.heap.size w0 wx → Calls Try.prog 6 #[.agg #[.string b.k, .int .i64 b.t, .int .i64 b.s, .bool b.g, .string b.d], .agg #[.string c.k, .int .i64 c.t, .int .i64 c.s, .bool c.g, .string c.d]] wx fun e w' => e = .returned (.agg #[.string x.k, .int .i64 x.t, .int .i64 x.s, .bool x.g, .string x.d]) ∧ Below wx.heap.size wx w') (hk4 : ∀ wx, Below w0.heap.size w0 wx → Calls Try.prog 6 #[.agg #[.string a.k, .int .i64 a.t, .int .i64 a.s, .bool a.g, .string a.d], .agg #[.string x.k, .int .i64 x.t, .int .i64 x.s, .bool x.g, .string x.d]] wx fun e w' => e = .returned (.agg #[.string z.k, .int .i64 z.t, .int .i64 z.s, .bool z.g, .string z.d]) ∧ Below wx.heap.size wx w') (he1 : seEq z.k z.t z.s z.g z.d z.k z.t z.s z.g z.d = true) :
    wpOp Try.prog u10O Q 5 (u10I w0 X5 X6 X7 a b c u z x s0 s1 s2 s3 s4 s8 s9 s10 s11 s12 s13 s14 s15 s16 s17 s18 s19 s20 s21 s22 s23 s24 s25 s26 s27 s28 s29 s30 s31 s32 s33 s34 s35 s36 s37 s38 s39 s40 s41 s42 s43 s44 s45 s46 s47 s48 s49 s50 s51 s52 s53 s54 s55 s56 s57 s58 s59 s60 s61 s62 s63 s64 s65 s66 s67 s68 s69 s70 s71 s72 s73 s74 s75 #[b0, b1, b2, b3, b4, true, b6, b7, b8, false, false, false]) { tmps := #[s0, s1, s2, s3, s4, .pointer (some ⟨X5, 0, none⟩), .pointer (some ⟨X6, 0, none⟩), .pointer (some ⟨X7, 0, none⟩), s8, s9, s10, s11, s12, s13, s14, s15, s16, s17, s18, s19, s20, s21, s22, s23, s24, s25, s26, s27, s28, s29, s30, s31, s32, s33, s34, s35, s36, s37, s38, s39, s40, s41, s42, s43, s44, s45, s46, s47, s48, s49, s50, s51, s52, s53, s54, s55, s56, s57, s58, s59, s60, s61, s62, s63, s64, selS b0 (.agg #[.string a.k, .int .i64 a.t, .int .i64 a.s, .bool a.g, .string a.d]) (s65), selS b1 (.agg #[.string b.k, .int .i64 b.t, .int .i64 b.s, .bool b.g, .string b.d]) (s66), selS b2 (.agg #[.string u.k, .int .i64 u.t, .int .i64 u.s, .bool u.g, .string u.d]) (s67), selS b3 (.agg #[.string c.k, .int .i64 c.t, .int .i64 c.s, .bool c.g, .string c.d]) (s68), selS b4 (.agg #[.string z.k, .int .i64 z.t, .int .i64 z.s, .bool z.g, .string z.d]) (s69), s70, selS b6 (.agg #[.string b.k, .int .i64 b.t, .int .i64 b.s, .bool b.g, .string b.d]) (s71), selS b7 (.agg #[.string c.k, .int .i64 c.t, .int .i64 c.s, .bool c.g, .string c.d]) (s72), selS b8 (.agg #[.string x.k, .int .i64 x.t, .int .i64 x.s, .bool x.g, .string x.d]) (s73), s74, s75], defers := [] } w := by
  have q0 := hrX5.cell 0
  have q1 := hrX5.cell 1
  have q2 := hrX5.cell 2
  have q3 := hrX5.cell 3
  have q4 := hrX5.cell 4
  refine wpOp_step (o := { dst := some 70, op := Op.load 24 (Operand.tmp 5), type := 24, pos := "laws.go:1127", after := #[], guard := none }) rfl (fun K hK => ?_)
  replace hK := hid hK
  go_simp
  exact hK.out _ _ ⟨b0, b1, b2, b3, b4, true, b6, b7, b8, false, false, false, dm, rfl, rfl, hB, hrX5, hrX6, hrX7, hk1, hk2, hk3, hk4, he1⟩
set_option maxRecDepth 20000 in
set_option maxHeartbeats 1000000 in
theorem u10_s6 {Q : Exit → Act → World → Prop} (w0 : World) (X5 X6 X7 : Nat) (a b c u z x : Se) (s0 s1 s2 s3 s4 s8 s9 s10 s11 s12 s13 s14 s15 s16 s17 s18 s19 s20 s21 s22 s23 s24 s25 s26 s27 s28 s29 s30 s31 s32 s33 s34 s35 s36 s37 s38 s39 s40 s41 s42 s43 s44 s45 s46 s47 s48 s49 s50 s51 s52 s53 s54 s55 s56 s57 s58 s59 s60 s61 s62 s63 s64 s65 s66 s67 s68 s69 s70 s71 s72 s73 s74 s75 : Value) (b0 b1 b2 b3 b4 b5 b7 : Bool) (dm : Nat) (w : World) (hB : Below w0.heap.size w0 w) (hrX5 : RowAt w X5 24 #[.string a.k, .int .i64 a.t, .int .i64 a.s, .bool a.g, .string a.d]) (hrX6 : RowAt w X6 24 #[.string b.k, .int .i64 b.t, .int .i64 b.s, .bool b.g, .string b.d]) (hrX7 : RowAt w X7 24 #[.string c.k, .int .i64 c.t, .int .i64 c.s, .bool c.g, .string c.d]) (hk1 : ∀ wx, Below w0.heap.size w0 wx → Calls Try.prog 6 #[.agg #[.string a.k, .int .i64 a.t, .int .i64 a.s, .bool a.g, .string a.d], .agg #[.string b.k, .int .i64 b.t, .int .i64 b.s, .bool b.g, .string b.d]] wx fun e w' => e = .returned (.agg #[.string u.k, .int .i64 u.t, .int .i64 u.s, .bool u.g, .string u.d]) ∧ Below wx.heap.size wx w') (hk2 : ∀ wx, Below w0.heap.size w0 wx → Calls Try.prog 6 #[.agg #[.string u.k, .int .i64 u.t, .int .i64 u.s, .bool u.g, .string u.d], .agg #[.string c.k, .int .i64 c.t, .int .i64 c.s, .bool c.g, .string c.d]] wx fun e w' => e = .returned (.agg #[.string z.k, .int .i64 z.t, .int .i64 z.s, .bool z.g, .string z.d]) ∧ Below wx.heap.size wx w') (hk3 : ∀ wx, Below w0.heap.size w0 wx → Calls Try.prog 6 #[.agg #[.string b.k, .int .i64 b.t, .int .i64 b.s, .bool b.g, .string b.d], .agg #[.string c.k, .int .i64 c.t, .int .i64 c.s, .bool c.g, .string c.d]] wx fun e w' => e = .returned (.agg #[.string x.k, .int .i64 x.t, .int .i64 x.s, .bool x.g, .string x.d]) ∧ Below wx.heap.size wx w') (hk4 : ∀ wx, Below w0.heap.size w0 wx → Calls Try.prog 6 #[.agg #[.string a.k, .int .i64 a.t, .int .i64 a.s, .bool a.g, .string a.d], .agg #[.string x.k, .int .i64 x.t, .int .i64 x.s, .bool x.g, .string x.d]] wx fun e w' => e = .returned (.agg #[.string z.k, .int .i64 z.t, .int .i64 z.s, .bool z.g, .string z.d]) ∧ Below wx.heap.size wx w') (he1 : seEq z.k z.t z.s z.g z.d z.k z.t z.s z.g z.d = true) :
    wpOp Try.prog u10O Q 6 (u10I w0 X5 X6 X7 a b c u z x s0 s1 s2 s3 s4 s8 s9 s10 s11 s12 s13 s14 s15 s16 s17 s18 s19 s20 s21 s22 s23 s24 s25 s26 s27 s28 s29 s30 s31 s32 s33 s34 s35 s36 s37 s38 s39 s40 s41 s42 s43 s44 s45 s46 s47 s48 s49 s50 s51 s52 s53 s54 s55 s56 s57 s58 s59 s60 s61 s62 s63 s64 s65 s66 s67 s68 s69 s70 s71 s72 s73 s74 s75 #[b0, b1, b2, b3, b4, b5, true, b7, false, false, false, false]) { tmps := #[s0, s1, s2, s3, s4, .pointer (some ⟨X5, 0, none⟩), .pointer (some ⟨X6, 0, none⟩), .pointer (some ⟨X7, 0, none⟩), s8, s9, s10, s11, s12, s13, s14, s15, s16, s17, s18, s19, s20, s21, s22, s23, s24, s25, s26, s27, s28, s29, s30, s31, s32, s33, s34, s35, s36, s37, s38, s39, s40, s41, s42, s43, s44, s45, s46, s47, s48, s49, s50, s51, s52, s53, s54, s55, s56, s57, s58, s59, s60, s61, s62, s63, s64, selS b0 (.agg #[.string a.k, .int .i64 a.t, .int .i64 a.s, .bool a.g, .string a.d]) (s65), selS b1 (.agg #[.string b.k, .int .i64 b.t, .int .i64 b.s, .bool b.g, .string b.d]) (s66), selS b2 (.agg #[.string u.k, .int .i64 u.t, .int .i64 u.s, .bool u.g, .string u.d]) (s67), selS b3 (.agg #[.string c.k, .int .i64 c.t, .int .i64 c.s, .bool c.g, .string c.d]) (s68), selS b4 (.agg #[.string z.k, .int .i64 z.t, .int .i64 z.s, .bool z.g, .string z.d]) (s69), selS b5 (.agg #[.string a.k, .int .i64 a.t, .int .i64 a.s, .bool a.g, .string a.d]) (s70), s71, selS b7 (.agg #[.string c.k, .int .i64 c.t, .int .i64 c.s, .bool c.g, .string c.d]) (s72), s73, s74, s75], defers := [] } w := by
  have q0 := hrX6.cell 0
  have q1 := hrX6.cell 1
  have q2 := hrX6.cell 2
  have q3 := hrX6.cell 3
  have q4 := hrX6.cell 4
  refine wpOp_step (o := { dst := some 71, op := Op.load 24 (Operand.tmp 6), type := 24, pos := "laws.go:1127", after := #[], guard := none }) rfl (fun K hK => ?_)
  replace hK := hid hK
  go_simp
  exact hK.out _ _ ⟨b0, b1, b2, b3, b4, b5, true, b7, false, false, false, false, dm, rfl, rfl, hB, hrX5, hrX6, hrX7, hk1, hk2, hk3, hk4, he1⟩
set_option maxRecDepth 20000 in
set_option maxHeartbeats 1000000 in
theorem u10_s7 {Q : Exit → Act → World → Prop} (w0 : World) (X5 X6 X7 : Nat) (a b c u z x : Se) (s0 s1 s2 s3 s4 s8 s9 s10 s11 s12 s13 s14 s15 s16 s17 s18 s19 s20 s21 s22 s23 s24 s25 s26 s27 s28 s29 s30 s31 s32 s33 s34 s35 s36 s37 s38 s39 s40 s41 s42 s43 s44 s45 s46 s47 s48 s49 s50 s51 s52 s53 s54 s55 s56 s57 s58 s59 s60 s61 s62 s63 s64 s65 s66 s67 s68 s69 s70 s71 s72 s73 s74 s75 : Value) (b0 b1 b2 b3 b4 b5 b6 : Bool) (dm : Nat) (w : World) (hB : Below w0.heap.size w0 w) (hrX5 : RowAt w X5 24 #[.string a.k, .int .i64 a.t, .int .i64 a.s, .bool a.g, .string a.d]) (hrX6 : RowAt w X6 24 #[.string b.k, .int .i64 b.t, .int .i64 b.s, .bool b.g, .string b.d]) (hrX7 : RowAt w X7 24 #[.string c.k, .int .i64 c.t, .int .i64 c.s, .bool c.g, .string c.d]) (hk1 : ∀ wx, Below w0.heap.size w0 wx → Calls Try.prog 6 #[.agg #[.string a.k, .int .i64 a.t, .int .i64 a.s, .bool a.g, .string a.d], .agg #[.string b.k, .int .i64 b.t, .int .i64 b.s, .bool b.g, .string b.d]] wx fun e w' => e = .returned (.agg #[.string u.k, .int .i64 u.t, .int .i64 u.s, .bool u.g, .string u.d]) ∧ Below wx.heap.size wx w') (hk2 : ∀ wx, Below w0.heap.size w0 wx → Calls Try.prog 6 #[.agg #[.string u.k, .int .i64 u.t, .int .i64 u.s, .bool u.g, .string u.d], .agg #[.string c.k, .int .i64 c.t, .int .i64 c.s, .bool c.g, .string c.d]] wx fun e w' => e = .returned (.agg #[.string z.k, .int .i64 z.t, .int .i64 z.s, .bool z.g, .string z.d]) ∧ Below wx.heap.size wx w') (hk3 : ∀ wx, Below w0.heap.size w0 wx → Calls Try.prog 6 #[.agg #[.string b.k, .int .i64 b.t, .int .i64 b.s, .bool b.g, .string b.d], .agg #[.string c.k, .int .i64 c.t, .int .i64 c.s, .bool c.g, .string c.d]] wx fun e w' => e = .returned (.agg #[.string x.k, .int .i64 x.t, .int .i64 x.s, .bool x.g, .string x.d]) ∧ Below wx.heap.size wx w') (hk4 : ∀ wx, Below w0.heap.size w0 wx → Calls Try.prog 6 #[.agg #[.string a.k, .int .i64 a.t, .int .i64 a.s, .bool a.g, .string a.d], .agg #[.string x.k, .int .i64 x.t, .int .i64 x.s, .bool x.g, .string x.d]] wx fun e w' => e = .returned (.agg #[.string z.k, .int .i64 z.t, .int .i64 z.s, .bool z.g, .string z.d]) ∧ Below wx.heap.size wx w') (he1 : seEq z.k z.t z.s z.g z.d z.k z.t z.s z.g z.d = true) :
    wpOp Try.prog u10O Q 7 (u10I w0 X5 X6 X7 a b c u z x s0 s1 s2 s3 s4 s8 s9 s10 s11 s12 s13 s14 s15 s16 s17 s18 s19 s20 s21 s22 s23 s24 s25 s26 s27 s28 s29 s30 s31 s32 s33 s34 s35 s36 s37 s38 s39 s40 s41 s42 s43 s44 s45 s46 s47 s48 s49 s50 s51 s52 s53 s54 s55 s56 s57 s58 s59 s60 s61 s62 s63 s64 s65 s66 s67 s68 s69 s70 s71 s72 s73 s74 s75 #[b0, b1, b2, b3, b4, b5, b6, true, false, false, false, false]) { tmps := #[s0, s1, s2, s3, s4, .pointer (some ⟨X5, 0, none⟩), .pointer (some ⟨X6, 0, none⟩), .pointer (some ⟨X7, 0, none⟩), s8, s9, s10, s11, s12, s13, s14, s15, s16, s17, s18, s19, s20, s21, s22, s23, s24, s25, s26, s27, s28, s29, s30, s31, s32, s33, s34, s35, s36, s37, s38, s39, s40, s41, s42, s43, s44, s45, s46, s47, s48, s49, s50, s51, s52, s53, s54, s55, s56, s57, s58, s59, s60, s61, s62, s63, s64, selS b0 (.agg #[.string a.k, .int .i64 a.t, .int .i64 a.s, .bool a.g, .string a.d]) (s65), selS b1 (.agg #[.string b.k, .int .i64 b.t, .int .i64 b.s, .bool b.g, .string b.d]) (s66), selS b2 (.agg #[.string u.k, .int .i64 u.t, .int .i64 u.s, .bool u.g, .string u.d]) (s67), selS b3 (.agg #[.string c.k, .int .i64 c.t, .int .i64 c.s, .bool c.g, .string c.d]) (s68), selS b4 (.agg #[.string z.k, .int .i64 z.t, .int .i64 z.s, .bool z.g, .string z.d]) (s69), selS b5 (.agg #[.string a.k, .int .i64 a.t, .int .i64 a.s, .bool a.g, .string a.d]) (s70), selS b6 (.agg #[.string b.k, .int .i64 b.t, .int .i64 b.s, .bool b.g, .string b.d]) (s71), s72, s73, s74, s75], defers := [] } w := by
  have q0 := hrX7.cell 0
  have q1 := hrX7.cell 1
  have q2 := hrX7.cell 2
  have q3 := hrX7.cell 3
  have q4 := hrX7.cell 4
  refine wpOp_step (o := { dst := some 72, op := Op.load 24 (Operand.tmp 7), type := 24, pos := "laws.go:1127", after := #[], guard := none }) rfl (fun K hK => ?_)
  replace hK := hid hK
  go_simp
  exact hK.out _ _ ⟨b0, b1, b2, b3, b4, b5, b6, true, false, false, false, false, dm, rfl, rfl, hB, hrX5, hrX6, hrX7, hk1, hk2, hk3, hk4, he1⟩
set_option maxRecDepth 20000 in
set_option maxHeartbeats 1000000 in
theorem u10_s8 {Q : Exit → Act → World → Prop} (w0 : World) (X5 X6 X7 : Nat) (a b c u z x : Se) (s0 s1 s2 s3 s4 s8 s9 s10 s11 s12 s13 s14 s15 s16 s17 s18 s19 s20 s21 s22 s23 s24 s25 s26 s27 s28 s29 s30 s31 s32 s33 s34 s35 s36 s37 s38 s39 s40 s41 s42 s43 s44 s45 s46 s47 s48 s49 s50 s51 s52 s53 s54 s55 s56 s57 s58 s59 s60 s61 s62 s63 s64 s65 s66 s67 s68 s69 s70 s71 s72 s73 s74 s75 : Value) (b5 : Bool) (dm : Nat) (w : World) (hB : Below w0.heap.size w0 w) (hrX5 : RowAt w X5 24 #[.string a.k, .int .i64 a.t, .int .i64 a.s, .bool a.g, .string a.d]) (hrX6 : RowAt w X6 24 #[.string b.k, .int .i64 b.t, .int .i64 b.s, .bool b.g, .string b.d]) (hrX7 : RowAt w X7 24 #[.string c.k, .int .i64 c.t, .int .i64 c.s, .bool c.g, .string c.d]) (hk1 : ∀ wx, Below w0.heap.size w0 wx → Calls Try.prog 6 #[.agg #[.string a.k, .int .i64 a.t, .int .i64 a.s, .bool a.g, .string a.d], .agg #[.string b.k, .int .i64 b.t, .int .i64 b.s, .bool b.g, .string b.d]] wx fun e w' => e = .returned (.agg #[.string u.k, .int .i64 u.t, .int .i64 u.s, .bool u.g, .string u.d]) ∧ Below wx.heap.size wx w') (hk2 : ∀ wx, Below w0.heap.size w0 wx → Calls Try.prog 6 #[.agg #[.string u.k, .int .i64 u.t, .int .i64 u.s, .bool u.g, .string u.d], .agg #[.string c.k, .int .i64 c.t, .int .i64 c.s, .bool c.g, .string c.d]] wx fun e w' => e = .returned (.agg #[.string z.k, .int .i64 z.t, .int .i64 z.s, .bool z.g, .string z.d]) ∧ Below wx.heap.size wx w') (hk3 : ∀ wx, Below w0.heap.size w0 wx → Calls Try.prog 6 #[.agg #[.string b.k, .int .i64 b.t, .int .i64 b.s, .bool b.g, .string b.d], .agg #[.string c.k, .int .i64 c.t, .int .i64 c.s, .bool c.g, .string c.d]] wx fun e w' => e = .returned (.agg #[.string x.k, .int .i64 x.t, .int .i64 x.s, .bool x.g, .string x.d]) ∧ Below wx.heap.size wx w') (hk4 : ∀ wx, Below w0.heap.size w0 wx → Calls Try.prog 6 #[.agg #[.string a.k, .int .i64 a.t, .int .i64 a.s, .bool a.g, .string a.d], .agg #[.string x.k, .int .i64 x.t, .int .i64 x.s, .bool x.g, .string x.d]] wx fun e w' => e = .returned (.agg #[.string z.k, .int .i64 z.t, .int .i64 z.s, .bool z.g, .string z.d]) ∧ Below wx.heap.size wx w') (he1 : seEq z.k z.t z.s z.g z.d z.k z.t z.s z.g z.d = true) :
    wpOp Try.prog u10O Q 8 (u10I w0 X5 X6 X7 a b c u z x s0 s1 s2 s3 s4 s8 s9 s10 s11 s12 s13 s14 s15 s16 s17 s18 s19 s20 s21 s22 s23 s24 s25 s26 s27 s28 s29 s30 s31 s32 s33 s34 s35 s36 s37 s38 s39 s40 s41 s42 s43 s44 s45 s46 s47 s48 s49 s50 s51 s52 s53 s54 s55 s56 s57 s58 s59 s60 s61 s62 s63 s64 s65 s66 s67 s68 s69 s70 s71 s72 s73 s74 s75 #[true, true, true, true, true, b5, true, true, true, false, false, false]) { tmps := #[s0, s1, s2, s3, s4, .pointer (some ⟨X5, 0, none⟩), .pointer (some ⟨X6, 0, none⟩), .pointer (some ⟨X7, 0, none⟩), s8, s9, s10, s11, s12, s13, s14, s15, s16, s17, s18, s19, s20, s21, s22, s23, s24, s25, s26, s27, s28, s29, s30, s31, s32, s33, s34, s35, s36, s37, s38, s39, s40, s41, s42, s43, s44, s45, s46, s47, s48, s49, s50, s51, s52, s53, s54, s55, s56, s57, s58, s59, s60, s61, s62, s63, s64, .agg #[.string a.k, .int .i64 a.t, .int .i64 a.s, .bool a.g, .string a.d], .agg #[.string b.k, .int .i64 b.t, .int .i64 b.s, .bool b.g, .string b.d], .agg #[.string u.k, .int .i64 u.t, .int .i64 u.s, .bool u.g, .string u.d], .agg #[.string c.k, .int .i64 c.t, .int .i64 c.s, .bool c.g, .string c.d], .agg #[.string z.k, .int .i64 z.t, .int .i64 z.s, .bool z.g, .string z.d], selS b5 (.agg #[.string a.k, .int .i64 a.t, .int .i64 a.s, .bool a.g, .string a.d]) (s70), .agg #[.string b.k, .int .i64 b.t, .int .i64 b.s, .bool b.g, .string b.d], .agg #[.string c.k, .int .i64 c.t, .int .i64 c.s, .bool c.g, .string c.d], s73, s74, s75], defers := [] } w := by
  refine wpOp_step (o := { dst := some 73, op := Op.call { callee := Callee.value (Operand.func 6), args := #[Operand.tmp 71, Operand.tmp 72], argTypes := #[24, 24] }, type := 24, pos := "laws.go:1127", after := #[{ on := 6, ground := Ground.data }, { on := 7, ground := Ground.data }, { on := 4, ground := Ground.chain }], guard := none }) rfl (fun K hK => ?_)
  replace hK := hid hK
  go_simp
  refine (hk3 _ hB).mono ?_
  rintro e w2 ⟨rfl, hb2⟩
  dsimp only
  exact hK.out _ _ ⟨true, true, true, true, true, b5, true, true, true, false, false, false, dm, rfl, rfl, hB.trans (hb2.mono hB.size), RowAt.nxW hb2 hrX5, RowAt.nxW hb2 hrX6, RowAt.nxW hb2 hrX7, hk1, hk2, hk3, hk4, he1⟩
set_option maxRecDepth 20000 in
set_option maxHeartbeats 1000000 in
theorem u10_s9 {Q : Exit → Act → World → Prop} (w0 : World) (X5 X6 X7 : Nat) (a b c u z x : Se) (s0 s1 s2 s3 s4 s8 s9 s10 s11 s12 s13 s14 s15 s16 s17 s18 s19 s20 s21 s22 s23 s24 s25 s26 s27 s28 s29 s30 s31 s32 s33 s34 s35 s36 s37 s38 s39 s40 s41 s42 s43 s44 s45 s46 s47 s48 s49 s50 s51 s52 s53 s54 s55 s56 s57 s58 s59 s60 s61 s62 s63 s64 s65 s66 s67 s68 s69 s70 s71 s72 s73 s74 s75 : Value) (dm : Nat) (w : World) (hB : Below w0.heap.size w0 w) (hrX5 : RowAt w X5 24 #[.string a.k, .int .i64 a.t, .int .i64 a.s, .bool a.g, .string a.d]) (hrX6 : RowAt w X6 24 #[.string b.k, .int .i64 b.t, .int .i64 b.s, .bool b.g, .string b.d]) (hrX7 : RowAt w X7 24 #[.string c.k, .int .i64 c.t, .int .i64 c.s, .bool c.g, .string c.d]) (hk1 : ∀ wx, Below w0.heap.size w0 wx → Calls Try.prog 6 #[.agg #[.string a.k, .int .i64 a.t, .int .i64 a.s, .bool a.g, .string a.d], .agg #[.string b.k, .int .i64 b.t, .int .i64 b.s, .bool b.g, .string b.d]] wx fun e w' => e = .returned (.agg #[.string u.k, .int .i64 u.t, .int .i64 u.s, .bool u.g, .string u.d]) ∧ Below wx.heap.size wx w') (hk2 : ∀ wx, Below w0.heap.size w0 wx → Calls Try.prog 6 #[.agg #[.string u.k, .int .i64 u.t, .int .i64 u.s, .bool u.g, .string u.d], .agg #[.string c.k, .int .i64 c.t, .int .i64 c.s, .bool c.g, .string c.d]] wx fun e w' => e = .returned (.agg #[.string z.k, .int .i64 z.t, .int .i64 z.s, .bool z.g, .string z.d]) ∧ Below wx.heap.size wx w') (hk3 : ∀ wx, Below w0.heap.size w0 wx → Calls Try.prog 6 #[.agg #[.string b.k, .int .i64 b.t, .int .i64 b.s, .bool b.g, .string b.d], .agg #[.string c.k, .int .i64 c.t, .int .i64 c.s, .bool c.g, .string c.d]] wx fun e w' => e = .returned (.agg #[.string x.k, .int .i64 x.t, .int .i64 x.s, .bool x.g, .string x.d]) ∧ Below wx.heap.size wx w') (hk4 : ∀ wx, Below w0.heap.size w0 wx → Calls Try.prog 6 #[.agg #[.string a.k, .int .i64 a.t, .int .i64 a.s, .bool a.g, .string a.d], .agg #[.string x.k, .int .i64 x.t, .int .i64 x.s, .bool x.g, .string x.d]] wx fun e w' => e = .returned (.agg #[.string z.k, .int .i64 z.t, .int .i64 z.s, .bool z.g, .string z.d]) ∧ Below wx.heap.size wx w') (he1 : seEq z.k z.t z.s z.g z.d z.k z.t z.s z.g z.d = true) :
    wpOp Try.prog u10O Q 9 (u10I w0 X5 X6 X7 a b c u z x s0 s1 s2 s3 s4 s8 s9 s10 s11 s12 s13 s14 s15 s16 s17 s18 s19 s20 s21 s22 s23 s24 s25 s26 s27 s28 s29 s30 s31 s32 s33 s34 s35 s36 s37 s38 s39 s40 s41 s42 s43 s44 s45 s46 s47 s48 s49 s50 s51 s52 s53 s54 s55 s56 s57 s58 s59 s60 s61 s62 s63 s64 s65 s66 s67 s68 s69 s70 s71 s72 s73 s74 s75 #[true, true, true, true, true, true, true, true, true, true, false, false]) { tmps := #[s0, s1, s2, s3, s4, .pointer (some ⟨X5, 0, none⟩), .pointer (some ⟨X6, 0, none⟩), .pointer (some ⟨X7, 0, none⟩), s8, s9, s10, s11, s12, s13, s14, s15, s16, s17, s18, s19, s20, s21, s22, s23, s24, s25, s26, s27, s28, s29, s30, s31, s32, s33, s34, s35, s36, s37, s38, s39, s40, s41, s42, s43, s44, s45, s46, s47, s48, s49, s50, s51, s52, s53, s54, s55, s56, s57, s58, s59, s60, s61, s62, s63, s64, .agg #[.string a.k, .int .i64 a.t, .int .i64 a.s, .bool a.g, .string a.d], .agg #[.string b.k, .int .i64 b.t, .int .i64 b.s, .bool b.g, .string b.d], .agg #[.string u.k, .int .i64 u.t, .int .i64 u.s, .bool u.g, .string u.d], .agg #[.string c.k, .int .i64 c.t, .int .i64 c.s, .bool c.g, .string c.d], .agg #[.string z.k, .int .i64 z.t, .int .i64 z.s, .bool z.g, .string z.d], .agg #[.string a.k, .int .i64 a.t, .int .i64 a.s, .bool a.g, .string a.d], .agg #[.string b.k, .int .i64 b.t, .int .i64 b.s, .bool b.g, .string b.d], .agg #[.string c.k, .int .i64 c.t, .int .i64 c.s, .bool c.g, .string c.d], .agg #[.string x.k, .int .i64 x.t, .int .i64 x.s, .bool x.g, .string x.d], s74, s75], defers := [] } w := by
  refine wpOp_step (o := { dst := some 74, op := Op.call { callee := Callee.value (Operand.func 6), args := #[Operand.tmp 70, Operand.tmp 73], argTypes := #[24, 24] }, type := 24, pos := "laws.go:1127", after := #[{ on := 5, ground := Ground.data }, { on := 8, ground := Ground.data }, { on := 8, ground := Ground.chain }], guard := none }) rfl (fun K hK => ?_)
  replace hK := hid hK
  go_simp
  refine (hk4 _ hB).mono ?_
  rintro e w2 ⟨rfl, hb2⟩
  dsimp only
  exact hK.out _ _ ⟨true, true, true, true, true, true, true, true, true, true, false, false, dm, rfl, rfl, hB.trans (hb2.mono hB.size), RowAt.nxW hb2 hrX5, RowAt.nxW hb2 hrX6, RowAt.nxW hb2 hrX7, hk1, hk2, hk3, hk4, he1⟩
set_option maxRecDepth 20000 in
set_option maxHeartbeats 1000000 in
theorem u10_s10 {Q : Exit → Act → World → Prop} (w0 : World) (X5 X6 X7 : Nat) (a b c u z x : Se) (s0 s1 s2 s3 s4 s8 s9 s10 s11 s12 s13 s14 s15 s16 s17 s18 s19 s20 s21 s22 s23 s24 s25 s26 s27 s28 s29 s30 s31 s32 s33 s34 s35 s36 s37 s38 s39 s40 s41 s42 s43 s44 s45 s46 s47 s48 s49 s50 s51 s52 s53 s54 s55 s56 s57 s58 s59 s60 s61 s62 s63 s64 s65 s66 s67 s68 s69 s70 s71 s72 s73 s74 s75 : Value) (dm : Nat) (w : World) (hB : Below w0.heap.size w0 w) (hrX5 : RowAt w X5 24 #[.string a.k, .int .i64 a.t, .int .i64 a.s, .bool a.g, .string a.d]) (hrX6 : RowAt w X6 24 #[.string b.k, .int .i64 b.t, .int .i64 b.s, .bool b.g, .string b.d]) (hrX7 : RowAt w X7 24 #[.string c.k, .int .i64 c.t, .int .i64 c.s, .bool c.g, .string c.d]) (hk1 : ∀ wx, Below w0.heap.size w0 wx → Calls Try.prog 6 #[.agg #[.string a.k, .int .i64 a.t, .int .i64 a.s, .bool a.g, .string a.d], .agg #[.string b.k, .int .i64 b.t, .int .i64 b.s, .bool b.g, .string b.d]] wx fun e w' => e = .returned (.agg #[.string u.k, .int .i64 u.t, .int .i64 u.s, .bool u.g, .string u.d]) ∧ Below wx.heap.size wx w') (hk2 : ∀ wx, Below w0.heap.size w0 wx → Calls Try.prog 6 #[.agg #[.string u.k, .int .i64 u.t, .int .i64 u.s, .bool u.g, .string u.d], .agg #[.string c.k, .int .i64 c.t, .int .i64 c.s, .bool c.g, .string c.d]] wx fun e w' => e = .returned (.agg #[.string z.k, .int .i64 z.t, .int .i64 z.s, .bool z.g, .string z.d]) ∧ Below wx.heap.size wx w') (hk3 : ∀ wx, Below w0.heap.size w0 wx → Calls Try.prog 6 #[.agg #[.string b.k, .int .i64 b.t, .int .i64 b.s, .bool b.g, .string b.d], .agg #[.string c.k, .int .i64 c.t, .int .i64 c.s, .bool c.g, .string c.d]] wx fun e w' => e = .returned (.agg #[.string x.k, .int .i64 x.t, .int .i64 x.s, .bool x.g, .string x.d]) ∧ Below wx.heap.size wx w') (hk4 : ∀ wx, Below w0.heap.size w0 wx → Calls Try.prog 6 #[.agg #[.string a.k, .int .i64 a.t, .int .i64 a.s, .bool a.g, .string a.d], .agg #[.string x.k, .int .i64 x.t, .int .i64 x.s, .bool x.g, .string x.d]] wx fun e w' => e = .returned (.agg #[.string z.k, .int .i64 z.t, .int .i64 z.s, .bool z.g, .string z.d]) ∧ Below wx.heap.size wx w') (he1 : seEq z.k z.t z.s z.g z.d z.k z.t z.s z.g z.d = true) :
    wpOp Try.prog u10O Q 10 (u10I w0 X5 X6 X7 a b c u z x s0 s1 s2 s3 s4 s8 s9 s10 s11 s12 s13 s14 s15 s16 s17 s18 s19 s20 s21 s22 s23 s24 s25 s26 s27 s28 s29 s30 s31 s32 s33 s34 s35 s36 s37 s38 s39 s40 s41 s42 s43 s44 s45 s46 s47 s48 s49 s50 s51 s52 s53 s54 s55 s56 s57 s58 s59 s60 s61 s62 s63 s64 s65 s66 s67 s68 s69 s70 s71 s72 s73 s74 s75 #[true, true, true, true, true, true, true, true, true, true, true, false]) { tmps := #[s0, s1, s2, s3, s4, .pointer (some ⟨X5, 0, none⟩), .pointer (some ⟨X6, 0, none⟩), .pointer (some ⟨X7, 0, none⟩), s8, s9, s10, s11, s12, s13, s14, s15, s16, s17, s18, s19, s20, s21, s22, s23, s24, s25, s26, s27, s28, s29, s30, s31, s32, s33, s34, s35, s36, s37, s38, s39, s40, s41, s42, s43, s44, s45, s46, s47, s48, s49, s50, s51, s52, s53, s54, s55, s56, s57, s58, s59, s60, s61, s62, s63, s64, .agg #[.string a.k, .int .i64 a.t, .int .i64 a.s, .bool a.g, .string a.d], .agg #[.string b.k, .int .i64 b.t, .int .i64 b.s, .bool b.g, .string b.d], .agg #[.string u.k, .int .i64 u.t, .int .i64 u.s, .bool u.g, .string u.d], .agg #[.string c.k, .int .i64 c.t, .int .i64 c.s, .bool c.g, .string c.d], .agg #[.string z.k, .int .i64 z.t, .int .i64 z.s, .bool z.g, .string z.d], .agg #[.string a.k, .int .i64 a.t, .int .i64 a.s, .bool a.g, .string a.d], .agg #[.string b.k, .int .i64 b.t, .int .i64 b.s, .bool b.g, .string b.d], .agg #[.string c.k, .int .i64 c.t, .int .i64 c.s, .bool c.g, .string c.d], .agg #[.string x.k, .int .i64 x.t, .int .i64 x.s, .bool x.g, .string x.d], .agg #[.string z.k, .int .i64 z.t, .int .i64 z.s, .bool z.g, .string z.d], s75], defers := [] } w := by
  refine wpOp_step (o := { dst := some 75, op := Op.binOp BinOp.eql 24 (Operand.tmp 69) (Operand.tmp 74) 24, type := 4, pos := "laws.go:1127", after := #[{ on := 4, ground := Ground.data }, { on := 9, ground := Ground.data }], guard := none }) rfl (fun K hK => ?_)
  replace hK := hid hK
  go_simp
  exact hK.out _ _ ⟨true, true, true, true, true, true, true, true, true, true, true, false, dm, rfl, rfl, hB, hrX5, hrX6, hrX7, hk1, hk2, hk3, hk4, he1⟩
set_option maxRecDepth 20000 in
set_option maxHeartbeats 1000000 in
theorem u10_s11 {Q : Exit → Act → World → Prop} (w0 : World) (X5 X6 X7 : Nat) (a b c u z x : Se) (s0 s1 s2 s3 s4 s8 s9 s10 s11 s12 s13 s14 s15 s16 s17 s18 s19 s20 s21 s22 s23 s24 s25 s26 s27 s28 s29 s30 s31 s32 s33 s34 s35 s36 s37 s38 s39 s40 s41 s42 s43 s44 s45 s46 s47 s48 s49 s50 s51 s52 s53 s54 s55 s56 s57 s58 s59 s60 s61 s62 s63 s64 s65 s66 s67 s68 s69 s70 s71 s72 s73 s74 s75 : Value) (dm : Nat) (w : World) (hB : Below w0.heap.size w0 w) (hrX5 : RowAt w X5 24 #[.string a.k, .int .i64 a.t, .int .i64 a.s, .bool a.g, .string a.d]) (hrX6 : RowAt w X6 24 #[.string b.k, .int .i64 b.t, .int .i64 b.s, .bool b.g, .string b.d]) (hrX7 : RowAt w X7 24 #[.string c.k, .int .i64 c.t, .int .i64 c.s, .bool c.g, .string c.d]) (hk1 : ∀ wx, Below w0.heap.size w0 wx → Calls Try.prog 6 #[.agg #[.string a.k, .int .i64 a.t, .int .i64 a.s, .bool a.g, .string a.d], .agg #[.string b.k, .int .i64 b.t, .int .i64 b.s, .bool b.g, .string b.d]] wx fun e w' => e = .returned (.agg #[.string u.k, .int .i64 u.t, .int .i64 u.s, .bool u.g, .string u.d]) ∧ Below wx.heap.size wx w') (hk2 : ∀ wx, Below w0.heap.size w0 wx → Calls Try.prog 6 #[.agg #[.string u.k, .int .i64 u.t, .int .i64 u.s, .bool u.g, .string u.d], .agg #[.string c.k, .int .i64 c.t, .int .i64 c.s, .bool c.g, .string c.d]] wx fun e w' => e = .returned (.agg #[.string z.k, .int .i64 z.t, .int .i64 z.s, .bool z.g, .string z.d]) ∧ Below wx.heap.size wx w') (hk3 : ∀ wx, Below w0.heap.size w0 wx → Calls Try.prog 6 #[.agg #[.string b.k, .int .i64 b.t, .int .i64 b.s, .bool b.g, .string b.d], .agg #[.string c.k, .int .i64 c.t, .int .i64 c.s, .bool c.g, .string c.d]] wx fun e w' => e = .returned (.agg #[.string x.k, .int .i64 x.t, .int .i64 x.s, .bool x.g, .string x.d]) ∧ Below wx.heap.size wx w') (hk4 : ∀ wx, Below w0.heap.size w0 wx → Calls Try.prog 6 #[.agg #[.string a.k, .int .i64 a.t, .int .i64 a.s, .bool a.g, .string a.d], .agg #[.string x.k, .int .i64 x.t, .int .i64 x.s, .bool x.g, .string x.d]] wx fun e w' => e = .returned (.agg #[.string z.k, .int .i64 z.t, .int .i64 z.s, .bool z.g, .string z.d]) ∧ Below wx.heap.size wx w') (he1 : seEq z.k z.t z.s z.g z.d z.k z.t z.s z.g z.d = true) :
    wpOp Try.prog u10O Q 11 (u10I w0 X5 X6 X7 a b c u z x s0 s1 s2 s3 s4 s8 s9 s10 s11 s12 s13 s14 s15 s16 s17 s18 s19 s20 s21 s22 s23 s24 s25 s26 s27 s28 s29 s30 s31 s32 s33 s34 s35 s36 s37 s38 s39 s40 s41 s42 s43 s44 s45 s46 s47 s48 s49 s50 s51 s52 s53 s54 s55 s56 s57 s58 s59 s60 s61 s62 s63 s64 s65 s66 s67 s68 s69 s70 s71 s72 s73 s74 s75 #[true, true, true, true, true, true, true, true, true, true, true, true]) { tmps := #[s0, s1, s2, s3, s4, .pointer (some ⟨X5, 0, none⟩), .pointer (some ⟨X6, 0, none⟩), .pointer (some ⟨X7, 0, none⟩), s8, s9, s10, s11, s12, s13, s14, s15, s16, s17, s18, s19, s20, s21, s22, s23, s24, s25, s26, s27, s28, s29, s30, s31, s32, s33, s34, s35, s36, s37, s38, s39, s40, s41, s42, s43, s44, s45, s46, s47, s48, s49, s50, s51, s52, s53, s54, s55, s56, s57, s58, s59, s60, s61, s62, s63, s64, .agg #[.string a.k, .int .i64 a.t, .int .i64 a.s, .bool a.g, .string a.d], .agg #[.string b.k, .int .i64 b.t, .int .i64 b.s, .bool b.g, .string b.d], .agg #[.string u.k, .int .i64 u.t, .int .i64 u.s, .bool u.g, .string u.d], .agg #[.string c.k, .int .i64 c.t, .int .i64 c.s, .bool c.g, .string c.d], .agg #[.string z.k, .int .i64 z.t, .int .i64 z.s, .bool z.g, .string z.d], .agg #[.string a.k, .int .i64 a.t, .int .i64 a.s, .bool a.g, .string a.d], .agg #[.string b.k, .int .i64 b.t, .int .i64 b.s, .bool b.g, .string b.d], .agg #[.string c.k, .int .i64 c.t, .int .i64 c.s, .bool c.g, .string c.d], .agg #[.string x.k, .int .i64 x.t, .int .i64 x.s, .bool x.g, .string x.d], .agg #[.string z.k, .int .i64 z.t, .int .i64 z.s, .bool z.g, .string z.d], .bool true], defers := [] } w := by
  refine wpOp_step (o := { dst := some 4, op := Op.assign (Operand.tmp 75), type := 4, pos := "laws.go:1127", after := #[{ on := 10, ground := Ground.data }, { on := 9, ground := Ground.chain }, { on := 0, ground := Ground.phase }, { on := 1, ground := Ground.phase }, { on := 2, ground := Ground.phase }, { on := 3, ground := Ground.phase }, { on := 4, ground := Ground.phase }, { on := 5, ground := Ground.phase }, { on := 6, ground := Ground.phase }, { on := 7, ground := Ground.phase }, { on := 8, ground := Ground.phase }, { on := 9, ground := Ground.phase }, { on := 10, ground := Ground.phase }], guard := none }) rfl (fun K hK => ?_)
  replace hK := hid hK
  go_simp
  exact hK.out _ _ ⟨true, true, true, true, true, true, true, true, true, true, true, true, dm, rfl, rfl, hB, hrX5, hrX6, hrX7, hk1, hk2, hk3, hk4, he1⟩
set_option maxRecDepth 20000 in
set_option maxHeartbeats 2000000 in
theorem u10_step {Q : Exit → Act → World → Prop} (w0 : World) (X5 X6 X7 : Nat) (a b c u z x : Se) (s0 s1 s2 s3 s4 s8 s9 s10 s11 s12 s13 s14 s15 s16 s17 s18 s19 s20 s21 s22 s23 s24 s25 s26 s27 s28 s29 s30 s31 s32 s33 s34 s35 s36 s37 s38 s39 s40 s41 s42 s43 s44 s45 s46 s47 s48 s49 s50 s51 s52 s53 s54 s55 s56 s57 s58 s59 s60 s61 s62 s63 s64 s65 s66 s67 s68 s69 s70 s71 s72 s73 s74 s75 : Value) (l : Array Bool) (f : Act) (w : World) (hC : Closed u10O l) (hI : u10I w0 X5 X6 X7 a b c u z x s0 s1 s2 s3 s4 s8 s9 s10 s11 s12 s13 s14 s15 s16 s17 s18 s19 s20 s21 s22 s23 s24 s25 s26 s27 s28 s29 s30 s31 s32 s33 s34 s35 s36 s37 s38 s39 s40 s41 s42 s43 s44 s45 s46 s47 s48 s49 s50 s51 s52 s53 s54 s55 s56 s57 s58 s59 s60 s61 s62 s63 s64 s65 s66 s67 s68 s69 s70 s71 s72 s73 s74 s75 l f w) (i : Nat) (h0 : l.getD i true = false) (o : Oper) (ho : u10O[i]? = some o) (h1 : ∀ e ∈ o.after, Region.binds .any e = true → l.getD e.on false = true) : wpOp Try.prog u10O Q i (u10I w0 X5 X6 X7 a b c u z x s0 s1 s2 s3 s4 s8 s9 s10 s11 s12 s13 s14 s15 s16 s17 s18 s19 s20 s21 s22 s23 s24 s25 s26 s27 s28 s29 s30 s31 s32 s33 s34 s35 s36 s37 s38 s39 s40 s41 s42 s43 s44 s45 s46 s47 s48 s49 s50 s51 s52 s53 s54 s55 s56 s57 s58 s59 s60 s61 s62 s63 s64 s65 s66 s67 s68 s69 s70 s71 s72 s73 s74 s75 (l.setIfInBounds i true)) f w := by
  obtain ⟨b0, b1, b2, b3, b4, b5, b6, b7, b8, b9, b10, b11, dm, rfl, rfl, hB, hrX5, hrX6, hrX7, hk1, hk2, hk3, hk4, he1⟩ := hI
  have hi : i < 12 := by
    rcases Nat.lt_or_ge i 12 with h | h
    · exact h
    · rw [show u10O[i]? = none from Array.getElem?_eq_none h] at ho; cases ho
  rcases (by omega : i = 0 ∨ i = 1 ∨ i = 2 ∨ i = 3 ∨ i = 4 ∨ i = 5 ∨ i = 6 ∨ i = 7 ∨ i = 8 ∨ i = 9 ∨ i = 10 ∨ i = 11) with rfl | rfl | rfl | rfl | rfl | rfl | rfl | rfl | rfl | rfl | rfl | rfl
  · obtain rfl : u10o0 = o := Option.some.inj ho
    obtain rfl : b0 = false := h0
    obtain rfl : b2 = false := by
      cases b2 with
      | false => rfl
      | true => exact Bool.noConfusion (show false = true from hC 2 u10o2 rfl rfl ⟨0, .data⟩ (by simp [u10o2]) rfl)
    obtain rfl : b4 = false := by
      cases b4 with
      | false => rfl
      | true => exact Bool.noConfusion (show false = true from hC 4 u10o4 rfl rfl ⟨2, .chain⟩ (by simp [u10o4]) rfl)
    obtain rfl : b8 = false := by
      cases b8 with
      | false => rfl
      | true => exact Bool.noConfusion (show false = true from hC 8 u10o8 rfl rfl ⟨4, .chain⟩ (by simp [u10o8]) rfl)
    obtain rfl : b9 = false := by
      cases b9 with
      | false => rfl
      | true => exact Bool.noConfusion (show false = true from hC 9 u10o9 rfl rfl ⟨8, .chain⟩ (by simp [u10o9]) rfl)
    obtain rfl : b10 = false := by
      cases b10 with
      | false => rfl
      | true => exact Bool.noConfusion (show false = true from hC 10 u10o10 rfl rfl ⟨4, .data⟩ (by simp [u10o10]) rfl)
    obtain rfl : b11 = false := by
      cases b11 with
      | false => rfl
      | true => exact Bool.noConfusion (show false = true from hC 11 u10o11 rfl rfl ⟨0, .phase⟩ (by simp [u10o11]) rfl)
    exact u10_s0 w0 X5 X6 X7 a b c u z x s0 s1 s2 s3 s4 s8 s9 s10 s11 s12 s13 s14 s15 s16 s17 s18 s19 s20 s21 s22 s23 s24 s25 s26 s27 s28 s29 s30 s31 s32 s33 s34 s35 s36 s37 s38 s39 s40 s41 s42 s43 s44 s45 s46 s47 s48 s49 s50 s51 s52 s53 s54 s55 s56 s57 s58 s59 s60 s61 s62 s63 s64 s65 s66 s67 s68 s69 s70 s71 s72 s73 s74 s75 b1 b3 b5 b6 b7 dm w hB hrX5 hrX6 hrX7 hk1 hk2 hk3 hk4 he1
  · obtain rfl : u10o1 = o := Option.some.inj ho
    obtain rfl : b1 = false := h0
    obtain rfl : b2 = false := by
      cases b2 with
      | false => rfl
      | true => exact Bool.noConfusion (show false = true from hC 2 u10o2 rfl rfl ⟨1, .data⟩ (by simp [u10o2]) rfl)
    obtain rfl : b4 = false := by
      cases b4 with
      | false => rfl
      | true => exact Bool.noConfusion (show false = true from hC 4 u10o4 rfl rfl ⟨2, .chain⟩ (by simp [u10o4]) rfl)
    obtain rfl : b8 = false := by
      cases b8 with
      | false => rfl
      | true => exact Bool.noConfusion (show false = true from hC 8 u10o8 rfl rfl ⟨4, .chain⟩ (by simp [u10o8]) rfl)
    obtain rfl : b9 = false := by
      cases b9 with
      | false => rfl
      | true => exact Bool.noConfusion (show false = true from hC 9 u10o9 rfl rfl ⟨8, .chain⟩ (by simp [u10o9]) rfl)
    obtain rfl : b10 = false := by
      cases b10 with
      | false => rfl
      | true => exact Bool.noConfusion (show false = true from hC 10 u10o10 rfl rfl ⟨4, .data⟩ (by simp [u10o10]) rfl)
    obtain rfl : b11 = false := by
      cases b11 with
      | false => rfl
      | true => exact Bool.noConfusion (show false = true from hC 11 u10o11 rfl rfl ⟨1, .phase⟩ (by simp [u10o11]) rfl)
    exact u10_s1 w0 X5 X6 X7 a b c u z x s0 s1 s2 s3 s4 s8 s9 s10 s11 s12 s13 s14 s15 s16 s17 s18 s19 s20 s21 s22 s23 s24 s25 s26 s27 s28 s29 s30 s31 s32 s33 s34 s35 s36 s37 s38 s39 s40 s41 s42 s43 s44 s45 s46 s47 s48 s49 s50 s51 s52 s53 s54 s55 s56 s57 s58 s59 s60 s61 s62 s63 s64 s65 s66 s67 s68 s69 s70 s71 s72 s73 s74 s75 b0 b3 b5 b6 b7 dm w hB hrX5 hrX6 hrX7 hk1 hk2 hk3 hk4 he1
  · obtain rfl : u10o2 = o := Option.some.inj ho
    obtain rfl : b2 = false := h0
    obtain rfl : b1 = true := h1 ⟨1, .data⟩ (by simp [u10o2]) rfl
    obtain rfl : b0 = true := h1 ⟨0, .data⟩ (by simp [u10o2]) rfl
    obtain rfl : b4 = false := by
      cases b4 with
      | false => rfl
      | true => exact Bool.noConfusion (show false = true from hC 4 u10o4 rfl rfl ⟨2, .chain⟩ (by simp [u10o4]) rfl)
    obtain rfl : b8 = false := by
      cases b8 with
      | false => rfl
      | true => exact Bool.noConfusion (show false = true from hC 8 u10o8 rfl rfl ⟨4, .chain⟩ (by simp [u10o8]) rfl)
    obtain rfl : b9 = false := by
      cases b9 with
      | false => rfl
      | true => exact Bool.noConfusion (show false = true from hC 9 u10o9 rfl rfl ⟨8, .chain⟩ (by simp [u10o9]) rfl)
    obtain rfl : b10 = false := by
      cases b10 with
      | false => rfl
      | true => exact Bool.noConfusion (show false = true from hC 10 u10o10 rfl rfl ⟨4, .data⟩ (by simp [u10o10]) rfl)
    obtain rfl : b11 = false := by
      cases b11 with
      | false => rfl
      | true => exact Bool.noConfusion (show false = true from hC 11 u10o11 rfl rfl ⟨2, .phase⟩ (by simp [u10o11]) rfl)
    exact u10_s2 w0 X5 X6 X7 a b c u z x s0 s1 s2 s3 s4 s8 s9 s10 s11 s12 s13 s14 s15 s16 s17 s18 s19 s20 s21 s22 s23 s24 s25 s26 s27 s28 s29 s30 s31 s32 s33 s34 s35 s36 s37 s38 s39 s40 s41 s42 s43 s44 s45 s46 s47 s48 s49 s50 s51 s52 s53 s54 s55 s56 s57 s58 s59 s60 s61 s62 s63 s64 s65 s66 s67 s68 s69 s70 s71 s72 s73 s74 s75 b3 b5 b6 b7 dm w hB hrX5 hrX6 hrX7 hk1 hk2 hk3 hk4 he1
  · obtain rfl : u10o3 = o := Option.some.inj ho
    obtain rfl : b3 = false := h0
    obtain rfl : b4 = false := by
      cases b4 with
      | false => rfl
      | true => exact Bool.noConfusion (show false = true from hC 4 u10o4 rfl rfl ⟨3, .data⟩ (by simp [u10o4]) rfl)
    obtain rfl : b8 = false := by
      cases b8 with
      | false => rfl
      | true => exact Bool.noConfusion (show false = true from hC 8 u10o8 rfl rfl ⟨4, .chain⟩ (by simp [u10o8]) rfl)
    obtain rfl : b9 = false := by
      cases b9 with
      | false => rfl
      | true => exact Bool.noConfusion (show false = true from hC 9 u10o9 rfl rfl ⟨8, .chain⟩ (by simp [u10o9]) rfl)
    obtain rfl : b10 = false := by
      cases b10 with
      | false => rfl
      | true => exact Bool.noConfusion (show false = true from hC 10 u10o10 rfl rfl ⟨4, .data⟩ (by simp [u10o10]) rfl)
    obtain rfl : b11 = false := by
      cases b11 with
      | false => rfl
      | true => exact Bool.noConfusion (show false = true from hC 11 u10o11 rfl rfl ⟨3, .phase⟩ (by simp [u10o11]) rfl)
    exact u10_s3 w0 X5 X6 X7 a b c u z x s0 s1 s2 s3 s4 s8 s9 s10 s11 s12 s13 s14 s15 s16 s17 s18 s19 s20 s21 s22 s23 s24 s25 s26 s27 s28 s29 s30 s31 s32 s33 s34 s35 s36 s37 s38 s39 s40 s41 s42 s43 s44 s45 s46 s47 s48 s49 s50 s51 s52 s53 s54 s55 s56 s57 s58 s59 s60 s61 s62 s63 s64 s65 s66 s67 s68 s69 s70 s71 s72 s73 s74 s75 b0 b1 b2 b5 b6 b7 dm w hB hrX5 hrX6 hrX7 hk1 hk2 hk3 hk4 he1
  · obtain rfl : u10o4 = o := Option.some.inj ho
    obtain rfl : b4 = false := h0
    obtain rfl : b3 = true := h1 ⟨3, .data⟩ (by simp [u10o4]) rfl
    obtain rfl : b2 = true := h1 ⟨2, .chain⟩ (by simp [u10o4]) rfl
    obtain rfl : b0 = true := hC 2 u10o2 rfl rfl ⟨0, .data⟩ (by simp [u10o2]) rfl
    obtain rfl : b1 = true := hC 2 u10o2 rfl rfl ⟨1, .data⟩ (by simp [u10o2]) rfl
    obtain rfl : b8 = false := by
      cases b8 with
      | false => rfl
      | true => exact Bool.noConfusion (show false = true from hC 8 u10o8 rfl rfl ⟨4, .chain⟩ (by simp [u10o8]) rfl)
    obtain rfl : b9 = false := by
      cases b9 with
      | false => rfl
      | true => exact Bool.noConfusion (show false = true from hC 9 u10o9 rfl rfl ⟨8, .chain⟩ (by simp [u10o9]) rfl)
    obtain rfl : b10 = false := by
      cases b10 with
      | false => rfl
      | true => exact Bool.noConfusion (show false = true from hC 10 u10o10 rfl rfl ⟨4, .data⟩ (by simp [u10o10]) rfl)
    obtain rfl : b11 = false := by
      cases b11 with
      | false => rfl
      | true => exact Bool.noConfusion (show false = true from hC 11 u10o11 rfl rfl ⟨4, .phase⟩ (by simp [u10o11]) rfl)
    exact u10_s4 w0 X5 X6 X7 a b c u z x s0 s1 s2 s3 s4 s8 s9 s10 s11 s12 s13 s14 s15 s16 s17 s18 s19 s20 s21 s22 s23 s24 s25 s26 s27 s28 s29 s30 s31 s32 s33 s34 s35 s36 s37 s38 s39 s40 s41 s42 s43 s44 s45 s46 s47 s48 s49 s50 s51 s52 s53 s54 s55 s56 s57 s58 s59 s60 s61 s62 s63 s64 s65 s66 s67 s68 s69 s70 s71 s72 s73 s74 s75 b5 b6 b7 dm w hB hrX5 hrX6 hrX7 hk1 hk2 hk3 hk4 he1
  · obtain rfl : u10o5 = o := Option.some.inj ho
    obtain rfl : b5 = false := h0
    obtain rfl : b9 = false := by
      cases b9 with
      | false => rfl
      | true => exact Bool.noConfusion (show false = true from hC 9 u10o9 rfl rfl ⟨5, .data⟩ (by simp [u10o9]) rfl)
    obtain rfl : b10 = false := by
      cases b10 with
      | false => rfl
      | true => exact Bool.noConfusion (show false = true from hC 10 u10o10 rfl rfl ⟨9, .data⟩ (by simp [u10o10]) rfl)
    obtain rfl : b11 = false := by
      cases b11 with
      | false => rfl
      | true => exact Bool.noConfusion (show false = true from hC 11 u10o11 rfl rfl ⟨5, .phase⟩ (by simp [u10o11]) rfl)
    exact u10_s5 w0 X5 X6 X7 a b c u z x s0 s1 s2 s3 s4 s8 s9 s10 s11 s12 s13 s14 s15 s16 s17 s18 s19 s20 s21 s22 s23 s24 s25 s26 s27 s28 s29 s30 s31 s32 s33 s34 s35 s36 s37 s38 s39 s40 s41 s42 s43 s44 s45 s46 s47 s48 s49 s50 s51 s52 s53 s54 s55 s56 s57 s58 s59 s60 s61 s62 s63 s64 s65 s66 s67 s68 s69 s70 s71 s72 s73 s74 s75 b0 b1 b2 b3 b4 b6 b7 b8 dm w hB hrX5 hrX6 hrX7 hk1 hk2 hk3 hk4 he1
  · obtain rfl : u10o6 = o := Option.some.inj ho
    obtain rfl : b6 = false := h0
    obtain rfl : b8 = false := by
      cases b8 with
      | false => rfl
      | true => exact Bool.noConfusion (show false = true from hC 8 u10o8 rfl rfl ⟨6, .data⟩ (by simp [u10o8]) rfl)
    obtain rfl : b9 = false := by
      cases b9 with
      | false => rfl
      | true => exact Bool.noConfusion (show false = true from hC 9 u10o9 rfl rfl ⟨8, .chain⟩ (by simp [u10o9]) rfl)
    obtain rfl : b10 = false := by
      cases b10 with
      | false => rfl
      | true => exact Bool.noConfusion (show false = true from hC 10 u10o10 rfl rfl ⟨9, .data⟩ (by simp [u10o10]) rfl)
    obtain rfl : b11 = false := by
      cases b11 with
      | false => rfl
      | true => exact Bool.noConfusion (show false = true from hC 11 u10o11 rfl rfl ⟨6, .phase⟩ (by simp [u10o11]) rfl)
    exact u10_s6 w0 X5 X6 X7 a b c u z x s0 s1 s2 s3 s4 s8 s9 s10 s11 s12 s13 s14 s15 s16 s17 s18 s19 s20 s21 s22 s23 s24 s25 s26 s27 s28 s29 s30 s31 s32 s33 s34 s35 s36 s37 s38 s39 s40 s41 s42 s43 s44 s45 s46 s47 s48 s49 s50 s51 s52 s53 s54 s55 s56 s57 s58 s59 s60 s61 s62 s63 s64 s65 s66 s67 s68 s69 s70 s71 s72 s73 s74 s75 b0 b1 b2 b3 b4 b5 b7 dm w hB hrX5 hrX6 hrX7 hk1 hk2 hk3 hk4 he1
  · obtain rfl : u10o7 = o := Option.some.inj ho
    obtain rfl : b7 = false := h0
    obtain rfl : b8 = false := by
      cases b8 with
      | false => rfl
      | true => exact Bool.noConfusion (show false = true from hC 8 u10o8 rfl rfl ⟨7, .data⟩ (by simp [u10o8]) rfl)
    obtain rfl : b9 = false := by
      cases b9 with
      | false => rfl
      | true => exact Bool.noConfusion (show false = true from hC 9 u10o9 rfl rfl ⟨8, .chain⟩ (by simp [u10o9]) rfl)
    obtain rfl : b10 = false := by
      cases b10 with
      | false => rfl
      | true => exact Bool.noConfusion (show false = true from hC 10 u10o10 rfl rfl ⟨9, .data⟩ (by simp [u10o10]) rfl)
    obtain rfl : b11 = false := by
      cases b11 with
      | false => rfl
      | true => exact Bool.noConfusion (show false = true from hC 11 u10o11 rfl rfl ⟨7, .phase⟩ (by simp [u10o11]) rfl)
    exact u10_s7 w0 X5 X6 X7 a b c u z x s0 s1 s2 s3 s4 s8 s9 s10 s11 s12 s13 s14 s15 s16 s17 s18 s19 s20 s21 s22 s23 s24 s25 s26 s27 s28 s29 s30 s31 s32 s33 s34 s35 s36 s37 s38 s39 s40 s41 s42 s43 s44 s45 s46 s47 s48 s49 s50 s51 s52 s53 s54 s55 s56 s57 s58 s59 s60 s61 s62 s63 s64 s65 s66 s67 s68 s69 s70 s71 s72 s73 s74 s75 b0 b1 b2 b3 b4 b5 b6 dm w hB hrX5 hrX6 hrX7 hk1 hk2 hk3 hk4 he1
  · obtain rfl : u10o8 = o := Option.some.inj ho
    obtain rfl : b8 = false := h0
    obtain rfl : b7 = true := h1 ⟨7, .data⟩ (by simp [u10o8]) rfl
    obtain rfl : b6 = true := h1 ⟨6, .data⟩ (by simp [u10o8]) rfl
    obtain rfl : b4 = true := h1 ⟨4, .chain⟩ (by simp [u10o8]) rfl
    obtain rfl : b2 = true := hC 4 u10o4 rfl rfl ⟨2, .chain⟩ (by simp [u10o4]) rfl
    obtain rfl : b3 = true := hC 4 u10o4 rfl rfl ⟨3, .data⟩ (by simp [u10o4]) rfl
    obtain rfl : b0 = true := hC 2 u10o2 rfl rfl ⟨0, .data⟩ (by simp [u10o2]) rfl
    obtain rfl : b1 = true := hC 2 u10o2 rfl rfl ⟨1, .data⟩ (by simp [u10o2]) rfl
    obtain rfl : b9 = false := by
      cases b9 with
      | false => rfl
      | true => exact Bool.noConfusion (show false = true from hC 9 u10o9 rfl rfl ⟨8, .chain⟩ (by simp [u10o9]) rfl)
    obtain rfl : b10 = false := by
      cases b10 with
      | false => rfl
      | true => exact Bool.noConfusion (show false = true from hC 10 u10o10 rfl rfl ⟨9, .data⟩ (by simp [u10o10]) rfl)
    obtain rfl : b11 = false := by
      cases b11 with
      | false => rfl
      | true => exact Bool.noConfusion (show false = true from hC 11 u10o11 rfl rfl ⟨8, .phase⟩ (by simp [u10o11]) rfl)
    exact u10_s8 w0 X5 X6 X7 a b c u z x s0 s1 s2 s3 s4 s8 s9 s10 s11 s12 s13 s14 s15 s16 s17 s18 s19 s20 s21 s22 s23 s24 s25 s26 s27 s28 s29 s30 s31 s32 s33 s34 s35 s36 s37 s38 s39 s40 s41 s42 s43 s44 s45 s46 s47 s48 s49 s50 s51 s52 s53 s54 s55 s56 s57 s58 s59 s60 s61 s62 s63 s64 s65 s66 s67 s68 s69 s70 s71 s72 s73 s74 s75 b5 dm w hB hrX5 hrX6 hrX7 hk1 hk2 hk3 hk4 he1
  · obtain rfl : u10o9 = o := Option.some.inj ho
    obtain rfl : b9 = false := h0
    obtain rfl : b8 = true := h1 ⟨8, .chain⟩ (by simp [u10o9]) rfl
    obtain rfl : b5 = true := h1 ⟨5, .data⟩ (by simp [u10o9]) rfl
    obtain rfl : b4 = true := hC 8 u10o8 rfl rfl ⟨4, .chain⟩ (by simp [u10o8]) rfl
    obtain rfl : b6 = true := hC 8 u10o8 rfl rfl ⟨6, .data⟩ (by simp [u10o8]) rfl
    obtain rfl : b7 = true := hC 8 u10o8 rfl rfl ⟨7, .data⟩ (by simp [u10o8]) rfl
    obtain rfl : b2 = true := hC 4 u10o4 rfl rfl ⟨2, .chain⟩ (by simp [u10o4]) rfl
    obtain rfl : b3 = true := hC 4 u10o4 rfl rfl ⟨3, .data⟩ (by simp [u10o4]) rfl
    obtain rfl : b0 = true := hC 2 u10o2 rfl rfl ⟨0, .data⟩ (by simp [u10o2]) rfl
    obtain rfl : b1 = true := hC 2 u10o2 rfl rfl ⟨1, .data⟩ (by simp [u10o2]) rfl
    obtain rfl : b10 = false := by
      cases b10 with
      | false => rfl
      | true => exact Bool.noConfusion (show false = true from hC 10 u10o10 rfl rfl ⟨9, .data⟩ (by simp [u10o10]) rfl)
    obtain rfl : b11 = false := by
      cases b11 with
      | false => rfl
      | true => exact Bool.noConfusion (show false = true from hC 11 u10o11 rfl rfl ⟨9, .chain⟩ (by simp [u10o11]) rfl)
    exact u10_s9 w0 X5 X6 X7 a b c u z x s0 s1 s2 s3 s4 s8 s9 s10 s11 s12 s13 s14 s15 s16 s17 s18 s19 s20 s21 s22 s23 s24 s25 s26 s27 s28 s29 s30 s31 s32 s33 s34 s35 s36 s37 s38 s39 s40 s41 s42 s43 s44 s45 s46 s47 s48 s49 s50 s51 s52 s53 s54 s55 s56 s57 s58 s59 s60 s61 s62 s63 s64 s65 s66 s67 s68 s69 s70 s71 s72 s73 s74 s75  dm w hB hrX5 hrX6 hrX7 hk1 hk2 hk3 hk4 he1
  · obtain rfl : u10o10 = o := Option.some.inj ho
    obtain rfl : b10 = false := h0
    obtain rfl : b9 = true := h1 ⟨9, .data⟩ (by simp [u10o10]) rfl
    obtain rfl : b4 = true := h1 ⟨4, .data⟩ (by simp [u10o10]) rfl
    obtain rfl : b5 = true := hC 9 u10o9 rfl rfl ⟨5, .data⟩ (by simp [u10o9]) rfl
    obtain rfl : b8 = true := hC 9 u10o9 rfl rfl ⟨8, .chain⟩ (by simp [u10o9]) rfl
    obtain rfl : b6 = true := hC 8 u10o8 rfl rfl ⟨6, .data⟩ (by simp [u10o8]) rfl
    obtain rfl : b7 = true := hC 8 u10o8 rfl rfl ⟨7, .data⟩ (by simp [u10o8]) rfl
    obtain rfl : b2 = true := hC 4 u10o4 rfl rfl ⟨2, .chain⟩ (by simp [u10o4]) rfl
    obtain rfl : b3 = true := hC 4 u10o4 rfl rfl ⟨3, .data⟩ (by simp [u10o4]) rfl
    obtain rfl : b0 = true := hC 2 u10o2 rfl rfl ⟨0, .data⟩ (by simp [u10o2]) rfl
    obtain rfl : b1 = true := hC 2 u10o2 rfl rfl ⟨1, .data⟩ (by simp [u10o2]) rfl
    obtain rfl : b11 = false := by
      cases b11 with
      | false => rfl
      | true => exact Bool.noConfusion (show false = true from hC 11 u10o11 rfl rfl ⟨10, .data⟩ (by simp [u10o11]) rfl)
    exact u10_s10 w0 X5 X6 X7 a b c u z x s0 s1 s2 s3 s4 s8 s9 s10 s11 s12 s13 s14 s15 s16 s17 s18 s19 s20 s21 s22 s23 s24 s25 s26 s27 s28 s29 s30 s31 s32 s33 s34 s35 s36 s37 s38 s39 s40 s41 s42 s43 s44 s45 s46 s47 s48 s49 s50 s51 s52 s53 s54 s55 s56 s57 s58 s59 s60 s61 s62 s63 s64 s65 s66 s67 s68 s69 s70 s71 s72 s73 s74 s75  dm w hB hrX5 hrX6 hrX7 hk1 hk2 hk3 hk4 he1
  · obtain rfl : u10o11 = o := Option.some.inj ho
    obtain rfl : b11 = false := h0
    obtain rfl : b10 = true := h1 ⟨10, .data⟩ (by simp [u10o11]) rfl
    obtain rfl : b9 = true := h1 ⟨9, .chain⟩ (by simp [u10o11]) rfl
    obtain rfl : b8 = true := h1 ⟨8, .phase⟩ (by simp [u10o11]) rfl
    obtain rfl : b7 = true := h1 ⟨7, .phase⟩ (by simp [u10o11]) rfl
    obtain rfl : b6 = true := h1 ⟨6, .phase⟩ (by simp [u10o11]) rfl
    obtain rfl : b5 = true := h1 ⟨5, .phase⟩ (by simp [u10o11]) rfl
    obtain rfl : b4 = true := h1 ⟨4, .phase⟩ (by simp [u10o11]) rfl
    obtain rfl : b3 = true := h1 ⟨3, .phase⟩ (by simp [u10o11]) rfl
    obtain rfl : b2 = true := h1 ⟨2, .phase⟩ (by simp [u10o11]) rfl
    obtain rfl : b1 = true := h1 ⟨1, .phase⟩ (by simp [u10o11]) rfl
    obtain rfl : b0 = true := h1 ⟨0, .phase⟩ (by simp [u10o11]) rfl
    exact u10_s11 w0 X5 X6 X7 a b c u z x s0 s1 s2 s3 s4 s8 s9 s10 s11 s12 s13 s14 s15 s16 s17 s18 s19 s20 s21 s22 s23 s24 s25 s26 s27 s28 s29 s30 s31 s32 s33 s34 s35 s36 s37 s38 s39 s40 s41 s42 s43 s44 s45 s46 s47 s48 s49 s50 s51 s52 s53 s54 s55 s56 s57 s58 s59 s60 s61 s62 s63 s64 s65 s66 s67 s68 s69 s70 s71 s72 s73 s74 s75  dm w hB hrX5 hrX6 hrX7 hk1 hk2 hk3 hk4 he1
set_option maxRecDepth 20000 in
set_option maxHeartbeats 4000000 in
theorem u10_wp {Q : Exit → Act → World → Prop} {rid : Nat} (w0 : World) (X5 X6 X7 : Nat) (a b c u z x : Se) {s0 s1 s2 s3 s4 s8 s9 s10 s11 s12 s13 s14 s15 s16 s17 s18 s19 s20 s21 s22 s23 s24 s25 s26 s27 s28 s29 s30 s31 s32 s33 s34 s35 s36 s37 s38 s39 s40 s41 s42 s43 s44 s45 s46 s47 s48 s49 s50 s51 s52 s53 s54 s55 s56 s57 s58 s59 s60 s61 s62 s63 s64 s65 s66 s67 s68 s69 s70 s71 s72 s73 s74 s75 : Value} (w : World) (hB : Below w0.heap.size w0 w) (hrX5 : RowAt w X5 24 #[.string a.k, .int .i64 a.t, .int .i64 a.s, .bool a.g, .string a.d]) (hrX6 : RowAt w X6 24 #[.string b.k, .int .i64 b.t, .int .i64 b.s, .bool b.g, .string b.d]) (hrX7 : RowAt w X7 24 #[.string c.k, .int .i64 c.t, .int .i64 c.s, .bool c.g, .string c.d]) (hk1 : ∀ wx, Below w0.heap.size w0 wx → Calls Try.prog 6 #[.agg #[.string a.k, .int .i64 a.t, .int .i64 a.s, .bool a.g, .string a.d], .agg #[.string b.k, .int .i64 b.t, .int .i64 b.s, .bool b.g, .string b.d]] wx fun e w' => e = .returned (.agg #[.string u.k, .int .i64 u.t, .int .i64 u.s, .bool u.g, .string u.d]) ∧ Below wx.heap.size wx w') (hk2 : ∀ wx, Below w0.heap.size w0 wx → Calls Try.prog 6 #[.agg #[.string u.k, .int .i64 u.t, .int .i64 u.s, .bool u.g, .string u.d], .agg #[.string c.k, .int .i64 c.t, .int .i64 c.s, .bool c.g, .string c.d]] wx fun e w' => e = .returned (.agg #[.string z.k, .int .i64 z.t, .int .i64 z.s, .bool z.g, .string z.d]) ∧ Below wx.heap.size wx w') (hk3 : ∀ wx, Below w0.heap.size w0 wx → Calls Try.prog 6 #[.agg #[.string b.k, .int .i64 b.t, .int .i64 b.s, .bool b.g, .string b.d], .agg #[.string c.k, .int .i64 c.t, .int .i64 c.s, .bool c.g, .string c.d]] wx fun e w' => e = .returned (.agg #[.string x.k, .int .i64 x.t, .int .i64 x.s, .bool x.g, .string x.d]) ∧ Below wx.heap.size wx w') (hk4 : ∀ wx, Below w0.heap.size w0 wx → Calls Try.prog 6 #[.agg #[.string a.k, .int .i64 a.t, .int .i64 a.s, .bool a.g, .string a.d], .agg #[.string x.k, .int .i64 x.t, .int .i64 x.s, .bool x.g, .string x.d]] wx fun e w' => e = .returned (.agg #[.string z.k, .int .i64 z.t, .int .i64 z.s, .bool z.g, .string z.d]) ∧ Below wx.heap.size wx w') (he1 : seEq z.k z.t z.s z.g z.d z.k z.t z.s z.g z.d = true)
    (fin : ∀ (dm : Nat) (w' : World), (Below w0.heap.size w0 w') → (RowAt w' X5 24 #[.string a.k, .int .i64 a.t, .int .i64 a.s, .bool a.g, .string a.d]) → (RowAt w' X6 24 #[.string b.k, .int .i64 b.t, .int .i64 b.s, .bool b.g, .string b.d]) → (RowAt w' X7 24 #[.string c.k, .int .i64 c.t, .int .i64 c.s, .bool c.g, .string c.d]) → (∀ wx, Below w0.heap.size w0 wx → Calls Try.prog 6 #[.agg #[.string a.k, .int .i64 a.t, .int .i64 a.s, .bool a.g, .string a.d], .agg #[.string b.k, .int .i64 b.t, .int .i64 b.s, .bool b.g, .string b.d]] wx fun e w' => e = .returned (.agg #[.string u.k, .int .i64 u.t, .int .i64 u.s, .bool u.g, .string u.d]) ∧ Below wx.heap.size wx w') → (∀ wx, Below w0.heap.size w0 wx → Calls Try.prog 6 #[.agg #[.string u.k, .int .i64 u.t, .int .i64 u.s, .bool u.g, .string u.d], .agg #[.string c.k, .int .i64 c.t, .int .i64 c.s, .bool c.g, .string c.d]] wx fun e w' => e = .returned (.agg #[.string z.k, .int .i64 z.t, .int .i64 z.s, .bool z.g, .string z.d]) ∧ Below wx.heap.size wx w') → (∀ wx, Below w0.heap.size w0 wx → Calls Try.prog 6 #[.agg #[.string b.k, .int .i64 b.t, .int .i64 b.s, .bool b.g, .string b.d], .agg #[.string c.k, .int .i64 c.t, .int .i64 c.s, .bool c.g, .string c.d]] wx fun e w' => e = .returned (.agg #[.string x.k, .int .i64 x.t, .int .i64 x.s, .bool x.g, .string x.d]) ∧ Below wx.heap.size wx w') → (∀ wx, Below w0.heap.size w0 wx → Calls Try.prog 6 #[.agg #[.string a.k, .int .i64 a.t, .int .i64 a.s, .bool a.g, .string a.d], .agg #[.string x.k, .int .i64 x.t, .int .i64 x.s, .bool x.g, .string x.d]] wx fun e w' => e = .returned (.agg #[.string z.k, .int .i64 z.t, .int .i64 z.s, .bool z.g, .string z.d]) ∧ Below wx.heap.size wx w') → (seEq z.k z.t z.s z.g z.d z.k z.t z.s z.g z.d = true) → Q .normal { tmps := #[s0, s1, s2, s3, .bool true, .pointer (some ⟨X5, 0, none⟩), .pointer (some ⟨X6, 0, none⟩), .pointer (some ⟨X7, 0, none⟩), s8, s9, s10, s11, s12, s13, s14, s15, s16, s17, s18, s19, s20, s21, s22, s23, s24, s25, s26, s27, s28, s29, s30, s31, s32, s33, s34, s35, s36, s37, s38, s39, s40, s41, s42, s43, s44, s45, s46, s47, s48, s49, s50, s51, s52, s53, s54, s55, s56, s57, s58, s59, s60, s61, s62, s63, s64, .agg #[.string a.k, .int .i64 a.t, .int .i64 a.s, .bool a.g, .string a.d], .agg #[.string b.k, .int .i64 b.t, .int .i64 b.s, .bool b.g, .string b.d], .agg #[.string u.k, .int .i64 u.t, .int .i64 u.s, .bool u.g, .string u.d], .agg #[.string c.k, .int .i64 c.t, .int .i64 c.s, .bool c.g, .string c.d], .agg #[.string z.k, .int .i64 z.t, .int .i64 z.s, .bool z.g, .string z.d], .agg #[.string a.k, .int .i64 a.t, .int .i64 a.s, .bool a.g, .string a.d], .agg #[.string b.k, .int .i64 b.t, .int .i64 b.s, .bool b.g, .string b.d], .agg #[.string c.k, .int .i64 c.t, .int .i64 c.s, .bool c.g, .string c.d], .agg #[.string x.k, .int .i64 x.t, .int .i64 x.s, .bool x.g, .string x.d], .agg #[.string z.k, .int .i64 z.t, .int .i64 z.s, .bool z.g, .string z.d], .bool true], defers := [] } w') :
    (Code.region rid u10O true).wp Try.prog Q { tmps := #[s0, s1, s2, s3, s4, .pointer (some ⟨X5, 0, none⟩), .pointer (some ⟨X6, 0, none⟩), .pointer (some ⟨X7, 0, none⟩), s8, s9, s10, s11, s12, s13, s14, s15, s16, s17, s18, s19, s20, s21, s22, s23, s24, s25, s26, s27, s28, s29, s30, s31, s32, s33, s34, s35, s36, s37, s38, s39, s40, s41, s42, s43, s44, s45, s46, s47, s48, s49, s50, s51, s52, s53, s54, s55, s56, s57, s58, s59, s60, s61, s62, s63, s64, s65, s66, s67, s68, s69, s70, s71, s72, s73, s74, s75], defers := [] } w := by
  refine wp_region_inv (ops := u10O) (u10I w0 X5 X6 X7 a b c u z x s0 s1 s2 s3 s4 s8 s9 s10 s11 s12 s13 s14 s15 s16 s17 s18 s19 s20 s21 s22 s23 s24 s25 s26 s27 s28 s29 s30 s31 s32 s33 s34 s35 s36 s37 s38 s39 s40 s41 s42 s43 s44 s45 s46 s47 s48 s49 s50 s51 s52 s53 s54 s55 s56 s57 s58 s59 s60 s61 s62 s63 s64 s65 s66 s67 s68 s69 s70 s71 s72 s73 s74 s75) (by kernel_rfl) (by kernel_rfl) (fun l f v hI => ?_) (fun l f v hC hI i h0 o ho h1 => u10_step w0 X5 X6 X7 a b c u z x s0 s1 s2 s3 s4 s8 s9 s10 s11 s12 s13 s14 s15 s16 s17 s18 s19 s20 s21 s22 s23 s24 s25 s26 s27 s28 s29 s30 s31 s32 s33 s34 s35 s36 s37 s38 s39 s40 s41 s42 s43 s44 s45 s46 s47 s48 s49 s50 s51 s52 s53 s54 s55 s56 s57 s58 s59 s60 s61 s62 s63 s64 s65 s66 s67 s68 s69 s70 s71 s72 s73 s74 s75 l f v hC hI i h0 o ho h1) (fun l f v hI hall => ?_) ?_
  · obtain ⟨_, _, _, _, _, _, _, _, _, _, _, _, _, rfl, _⟩ := hI; rfl
  · obtain ⟨b0, b1, b2, b3, b4, b5, b6, b7, b8, b9, b10, b11, dm, rfl, rfl, hB, hrX5, hrX6, hrX7, hk1, hk2, hk3, hk4, he1⟩ := hI
    obtain rfl : b0 = true := hall 0 (by simp)
    obtain rfl : b1 = true := hall 1 (by simp)
    obtain rfl : b2 = true := hall 2 (by simp)
    obtain rfl : b3 = true := hall 3 (by simp)
    obtain rfl : b4 = true := hall 4 (by simp)
    obtain rfl : b5 = true := hall 5 (by simp)
    obtain rfl : b6 = true := hall 6 (by simp)
    obtain rfl : b7 = true := hall 7 (by simp)
    obtain rfl : b8 = true := hall 8 (by simp)
    obtain rfl : b9 = true := hall 9 (by simp)
    obtain rfl : b10 = true := hall 10 (by simp)
    obtain rfl : b11 = true := hall 11 (by simp)
    exact fin dm v hB hrX5 hrX6 hrX7 hk1 hk2 hk3 hk4 he1
  · exact ⟨false, false, false, false, false, false, false, false, false, false, false, false, 0, rfl, rfl, hB.drew, hrX5.drew, hrX6.drew, hrX7.drew, hk1, hk2, hk3, hk4, he1⟩
end Go.Proofs.Ytkedjhpaeojclaa
