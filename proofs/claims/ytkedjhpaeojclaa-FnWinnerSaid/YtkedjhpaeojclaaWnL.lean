import Derived.Test.YtkedjhpaeojclaaWnD
import Derived.BigQuiet
namespace Go.Proofs.Ytkedjhpaeojclaa
open Go.RowKit
set_option linter.unusedVariables false
/-! FnWinner's drawn regions (by genwn2.py). -/
def selS (b : Bool) (v o : Value) : Value := cond b v o
theorem ifs_no {α : Type} {p q r s t : Prop} [Decidable p] [Decidable q] [Decidable r] [Decidable s] [Decidable t] {x y : α} (h : ¬ (p ∧ q ∧ r ∧ s ∧ t)) : (if p then if q then if r then if s then if t then x else y else y else y else y else y) = y := by
  by_cases h1 : p <;> by_cases h2 : q <;> by_cases h3 : r <;> by_cases h4 : s <;> by_cases h5 : t <;> simp_all
theorem ifs_yes {α : Type} {p q r s t : Prop} [Decidable p] [Decidable q] [Decidable r] [Decidable s] [Decidable t] {x y : α} (h : p ∧ q ∧ r ∧ s ∧ t) : (if p then if q then if r then if s then if t then x else y else y else y else y else y) = x := by
  obtain ⟨h1, h2, h3, h4, h5⟩ := h
  rw [if_pos h1, if_pos h2, if_pos h3, if_pos h4, if_pos h5]
/-- whether two entries are the same, as the program compares them -/
def seEq (k : ByteArray) (t s : Int) (g : Bool) (d k' : ByteArray) (t' s' : Int) (g' : Bool) (d' : ByteArray) : Bool := decide (k.toList = k'.toList ∧ t = t' ∧ s = s' ∧ g = g' ∧ d.toList = d'.toList)
theorem seEq_self (a : Se) : seEq a.k a.t a.s a.g a.d a.k a.t a.s a.g a.d = true := by simp [seEq]
theorem seEq_no {a b : Se} (h : btP a b) : seEq b.k b.t b.s b.g b.d a.k a.t a.s a.g a.d = false := by
  unfold seEq
  rw [decide_eq_false_iff_not]
  rintro ⟨_, h1, h2, _⟩
  unfold btP at h
  omega
@[go_sem] theorem eqSE (k : ByteArray) (t s : Int) (g : Bool) (d k' : ByteArray) (t' s' : Int) (g' : Bool) (d' : ByteArray) (w : World) : (Op.equalIn 10000 24 (.agg #[.string k, .int .i64 t, .int .i64 s, .bool g, .string d]) (.agg #[.string k', .int .i64 t', .int .i64 s', .bool g', .string d'])).run Try.prog w = .ok (seEq k t s g d k' t' s' g' d') w := by
  have u1 := Try.underlying9
  have u2 := Try.underlying2
  have u3 := Try.underlying4
  have hS : Try.prog.underlying 24 = some (.struct (Try.prog.fieldsOf 24)) := by kernel_rfl
  rw [show (10000 : Nat) = 9999 + 1 from rfl, run_equalIn_agg w 9999 24 _ _ hS (by kernel_rfl)]
  simp only [Program.fieldsOf, Try.underlying24]
  go_simp
  unfold seEq
  by_cases h1 : k.toList = k'.toList <;> by_cases h2 : t = t' <;> by_cases h3 : s = s' <;> by_cases h4 : g = g' <;> by_cases h5 : d.toList = d'.toList <;> simp [h1, h2, h3, h4, h5]
@[go_sem] theorem eqGSE (op : BinOp) (x y : Operand) (xs ys : Array Value) (w : World) : (eqGuard op 24 x y (.agg xs) (.agg ys)).run Try.prog w = .ok () w := run_eqGuard_agg w op _ x y xs ys (by kernel_rfl)
def u6o0 : Oper := { dst := some 31, op := Op.load 24 (Operand.tmp 9), type := 24, pos := "laws.go:1121", after := #[], guard := none }
def u6o1 : Oper := { dst := some 32, op := Op.load 24 (Operand.tmp 5), type := 24, pos := "laws.go:1121", after := #[], guard := none }
def u6o2 : Oper := { dst := some 33, op := Op.load 24 (Operand.tmp 6), type := 24, pos := "laws.go:1121", after := #[], guard := none }
def u6o3 : Oper := { dst := some 34, op := Op.call { callee := Callee.value (Operand.func 7), args := #[Operand.tmp 32, Operand.tmp 33], argTypes := #[24, 24] }, type := 24, pos := "laws.go:1121", after := #[{ on := 1, ground := Ground.data }, { on := 2, ground := Ground.data }], guard := none }
def u6o4 : Oper := { dst := some 35, op := Op.binOp BinOp.neq 24 (Operand.tmp 31) (Operand.tmp 34) 24, type := 4, pos := "laws.go:1121", after := #[{ on := 0, ground := Ground.data }, { on := 3, ground := Ground.data }], guard := none }
def u6o5 : Oper := { dst := some 36, op := Op.move (Operand.tmp 35), type := 4, pos := "laws.go:1121", after := #[{ on := 4, ground := Ground.data }, { on := 3, ground := Ground.chain }], guard := none }
def u6o6 : Oper := { dst := some 37, op := Op.load 24 (Operand.tmp 9), type := 24, pos := "laws.go:1121", after := #[{ on := 5, ground := Ground.guard }], guard := some (5, false) }
def u6o7 : Oper := { dst := some 38, op := Op.load 24 (Operand.tmp 5), type := 24, pos := "laws.go:1121", after := #[{ on := 5, ground := Ground.guard }], guard := some (5, false) }
def u6o8 : Oper := { dst := some 39, op := Op.binOp BinOp.neq 24 (Operand.tmp 37) (Operand.tmp 38) 24, type := 4, pos := "laws.go:1121", after := #[{ on := 6, ground := Ground.data }, { on := 7, ground := Ground.data }, { on := 5, ground := Ground.guard }], guard := some (5, false) }
def u6o9 : Oper := { dst := some 40, op := Op.move (Operand.tmp 39), type := 4, pos := "laws.go:1121", after := #[{ on := 8, ground := Ground.data }, { on := 5, ground := Ground.chain }, { on := 5, ground := Ground.guard }], guard := some (5, false) }
def u6o10 : Oper := { dst := some 41, op := Op.load 24 (Operand.tmp 9), type := 24, pos := "laws.go:1121", after := #[{ on := 9, ground := Ground.guard }], guard := some (9, true) }
def u6o11 : Oper := { dst := some 42, op := Op.load 24 (Operand.tmp 6), type := 24, pos := "laws.go:1121", after := #[{ on := 9, ground := Ground.guard }], guard := some (9, true) }
def u6o12 : Oper := { dst := some 43, op := Op.binOp BinOp.neq 24 (Operand.tmp 41) (Operand.tmp 42) 24, type := 4, pos := "laws.go:1121", after := #[{ on := 10, ground := Ground.data }, { on := 11, ground := Ground.data }, { on := 9, ground := Ground.guard }], guard := some (9, true) }
def u6o13 : Oper := { dst := some 44, op := Op.pick (Operand.tmp 40) (Operand.tmp 43) (Operand.const (Value.bool false)), type := 4, pos := "laws.go:1121", after := #[{ on := 9, ground := Ground.data }, { on := 12, ground := Ground.data }, { on := 5, ground := Ground.guard }], guard := some (5, false) }
def u6o14 : Oper := { dst := some 45, op := Op.pick (Operand.tmp 36) (Operand.const (Value.bool true)) (Operand.tmp 44), type := 4, pos := "laws.go:1121", after := #[{ on := 5, ground := Ground.data }, { on := 13, ground := Ground.data }], guard := none }
def u6O : Array Oper := #[u6o0, u6o1, u6o2, u6o3, u6o4, u6o5, u6o6, u6o7, u6o8, u6o9, u6o10, u6o11, u6o12, u6o13, u6o14]
def u6I (w0 : World) (X5 X6 X9 : Nat) (a b u : Se) (s0 s1 s2 s3 s4 s7 s8 s10 s11 s12 s13 s14 s15 s16 s17 s18 s19 s20 s21 s22 s23 s24 s25 s26 s27 s28 s29 s30 s31 s32 s33 s34 s35 s36 s37 s38 s39 s40 s41 s42 s43 s44 s45 s46 s47 s48 s49 s50 s51 s52 s53 s54 s55 s56 s57 s58 s59 s60 s61 s62 s63 s64 s65 s66 s67 s68 s69 s70 s71 s72 s73 s74 s75 : Value) (l : Array Bool) (f : Act) (w : World) : Prop :=
  ∃ (b0 b1 b2 b3 b4 b5 b6 b7 b8 b9 b10 b11 b12 b13 b14 : Bool) (dm : Nat), l = #[b0, b1, b2, b3, b4, b5, b6, b7, b8, b9, b10, b11, b12, b13, b14] ∧ f = { tmps := #[s0, s1, s2, s3, s4, .pointer (some ⟨X5, 0, none⟩), .pointer (some ⟨X6, 0, none⟩), s7, s8, .pointer (some ⟨X9, 0, none⟩), s10, s11, s12, s13, s14, s15, s16, s17, s18, s19, s20, s21, s22, s23, s24, s25, s26, s27, s28, s29, s30, selS b0 (.agg #[.string u.k, .int .i64 u.t, .int .i64 u.s, .bool u.g, .string u.d]) (s31), selS b1 (.agg #[.string a.k, .int .i64 a.t, .int .i64 a.s, .bool a.g, .string a.d]) (s32), selS b2 (.agg #[.string b.k, .int .i64 b.t, .int .i64 b.s, .bool b.g, .string b.d]) (s33), selS b3 (.agg #[.string u.k, .int .i64 u.t, .int .i64 u.s, .bool u.g, .string u.d]) (s34), selS b4 (.bool false) (s35), selS b5 (.bool false) (s36), selS b6 (.agg #[.string u.k, .int .i64 u.t, .int .i64 u.s, .bool u.g, .string u.d]) (s37), selS b7 (.agg #[.string a.k, .int .i64 a.t, .int .i64 a.s, .bool a.g, .string a.d]) (s38), selS b8 (.bool false) (s39), selS b9 (.bool false) (s40), selS b10 (undef) (s41), selS b11 (undef) (s42), selS b12 (undef) (s43), selS b13 (.bool false) (s44), selS b14 (.bool false) (s45), s46, s47, s48, s49, s50, s51, s52, s53, s54, s55, s56, s57, s58, s59, s60, s61, s62, s63, s64, s65, s66, s67, s68, s69, s70, s71, s72, s73, s74, s75], defers := [] } ∧ (Below w0.heap.size w0 w) ∧ (RowAt w X5 24 #[.string a.k, .int .i64 a.t, .int .i64 a.s, .bool a.g, .string a.d]) ∧ (RowAt w X6 24 #[.string b.k, .int .i64 b.t, .int .i64 b.s, .bool b.g, .string b.d]) ∧ (RowAt w X9 24 #[.string u.k, .int .i64 u.t, .int .i64 u.s, .bool u.g, .string u.d]) ∧ (∀ wx, Below w0.heap.size w0 wx → Calls Try.prog 7 #[.agg #[.string a.k, .int .i64 a.t, .int .i64 a.s, .bool a.g, .string a.d], .agg #[.string b.k, .int .i64 b.t, .int .i64 b.s, .bool b.g, .string b.d]] wx fun e w' => e = .returned (.agg #[.string u.k, .int .i64 u.t, .int .i64 u.s, .bool u.g, .string u.d]) ∧ Below wx.heap.size wx w') ∧ (seEq u.k u.t u.s u.g u.d u.k u.t u.s u.g u.d = true) ∧ (seEq u.k u.t u.s u.g u.d a.k a.t a.s a.g a.d = true)
set_option maxRecDepth 20000 in
set_option maxHeartbeats 1000000 in
theorem u6_s0 {Q : Exit → Act → World → Prop} (w0 : World) (X5 X6 X9 : Nat) (a b u : Se) (s0 s1 s2 s3 s4 s7 s8 s10 s11 s12 s13 s14 s15 s16 s17 s18 s19 s20 s21 s22 s23 s24 s25 s26 s27 s28 s29 s30 s31 s32 s33 s34 s35 s36 s37 s38 s39 s40 s41 s42 s43 s44 s45 s46 s47 s48 s49 s50 s51 s52 s53 s54 s55 s56 s57 s58 s59 s60 s61 s62 s63 s64 s65 s66 s67 s68 s69 s70 s71 s72 s73 s74 s75 : Value) (b1 b2 b3 : Bool) (dm : Nat) (w : World) (hB : Below w0.heap.size w0 w) (hrX5 : RowAt w X5 24 #[.string a.k, .int .i64 a.t, .int .i64 a.s, .bool a.g, .string a.d]) (hrX6 : RowAt w X6 24 #[.string b.k, .int .i64 b.t, .int .i64 b.s, .bool b.g, .string b.d]) (hrX9 : RowAt w X9 24 #[.string u.k, .int .i64 u.t, .int .i64 u.s, .bool u.g, .string u.d]) (hkS : ∀ wx, Below w0.heap.size w0 wx → Calls Try.prog 7 #[.agg #[.string a.k, .int .i64 a.t, .int .i64 a.s, .bool a.g, .string a.d], .agg #[.string b.k, .int .i64 b.t, .int .i64 b.s, .bool b.g, .string b.d]] wx fun e w' => e = .returned (.agg #[.string u.k, .int .i64 u.t, .int .i64 u.s, .bool u.g, .string u.d]) ∧ Below wx.heap.size wx w') (he1 : seEq u.k u.t u.s u.g u.d u.k u.t u.s u.g u.d = true) (he2 : seEq u.k u.t u.s u.g u.d a.k a.t a.s a.g a.d = true) :
    wpOp Try.prog u6O Q 0 (u6I w0 X5 X6 X9 a b u s0 s1 s2 s3 s4 s7 s8 s10 s11 s12 s13 s14 s15 s16 s17 s18 s19 s20 s21 s22 s23 s24 s25 s26 s27 s28 s29 s30 s31 s32 s33 s34 s35 s36 s37 s38 s39 s40 s41 s42 s43 s44 s45 s46 s47 s48 s49 s50 s51 s52 s53 s54 s55 s56 s57 s58 s59 s60 s61 s62 s63 s64 s65 s66 s67 s68 s69 s70 s71 s72 s73 s74 s75 #[true, b1, b2, b3, false, false, false, false, false, false, false, false, false, false, false]) { tmps := #[s0, s1, s2, s3, s4, .pointer (some ⟨X5, 0, none⟩), .pointer (some ⟨X6, 0, none⟩), s7, s8, .pointer (some ⟨X9, 0, none⟩), s10, s11, s12, s13, s14, s15, s16, s17, s18, s19, s20, s21, s22, s23, s24, s25, s26, s27, s28, s29, s30, s31, selS b1 (.agg #[.string a.k, .int .i64 a.t, .int .i64 a.s, .bool a.g, .string a.d]) (s32), selS b2 (.agg #[.string b.k, .int .i64 b.t, .int .i64 b.s, .bool b.g, .string b.d]) (s33), selS b3 (.agg #[.string u.k, .int .i64 u.t, .int .i64 u.s, .bool u.g, .string u.d]) (s34), s35, s36, s37, s38, s39, s40, s41, s42, s43, s44, s45, s46, s47, s48, s49, s50, s51, s52, s53, s54, s55, s56, s57, s58, s59, s60, s61, s62, s63, s64, s65, s66, s67, s68, s69, s70, s71, s72, s73, s74, s75], defers := [] } w := by
  have q0 := hrX9.cell 0
  have q1 := hrX9.cell 1
  have q2 := hrX9.cell 2
  have q3 := hrX9.cell 3
  have q4 := hrX9.cell 4
  refine wpOp_step (o := { dst := some 31, op := Op.load 24 (Operand.tmp 9), type := 24, pos := "laws.go:1121", after := #[], guard := none }) rfl (fun K hK => ?_)
  replace hK := hid hK
  go_simp
  exact hK.out _ _ ⟨true, b1, b2, b3, false, false, false, false, false, false, false, false, false, false, false, dm, rfl, rfl, hB, hrX5, hrX6, hrX9, hkS, he1, he2⟩
set_option maxRecDepth 20000 in
set_option maxHeartbeats 1000000 in
theorem u6_s1 {Q : Exit → Act → World → Prop} (w0 : World) (X5 X6 X9 : Nat) (a b u : Se) (s0 s1 s2 s3 s4 s7 s8 s10 s11 s12 s13 s14 s15 s16 s17 s18 s19 s20 s21 s22 s23 s24 s25 s26 s27 s28 s29 s30 s31 s32 s33 s34 s35 s36 s37 s38 s39 s40 s41 s42 s43 s44 s45 s46 s47 s48 s49 s50 s51 s52 s53 s54 s55 s56 s57 s58 s59 s60 s61 s62 s63 s64 s65 s66 s67 s68 s69 s70 s71 s72 s73 s74 s75 : Value) (b0 b2 : Bool) (dm : Nat) (w : World) (hB : Below w0.heap.size w0 w) (hrX5 : RowAt w X5 24 #[.string a.k, .int .i64 a.t, .int .i64 a.s, .bool a.g, .string a.d]) (hrX6 : RowAt w X6 24 #[.string b.k, .int .i64 b.t, .int .i64 b.s, .bool b.g, .string b.d]) (hrX9 : RowAt w X9 24 #[.string u.k, .int .i64 u.t, .int .i64 u.s, .bool u.g, .string u.d]) (hkS : ∀ wx, Below w0.heap.size w0 wx → Calls Try.prog 7 #[.agg #[.string a.k, .int .i64 a.t, .int .i64 a.s, .bool a.g, .string a.d], .agg #[.string b.k, .int .i64 b.t, .int .i64 b.s, .bool b.g, .string b.d]] wx fun e w' => e = .returned (.agg #[.string u.k, .int .i64 u.t, .int .i64 u.s, .bool u.g, .string u.d]) ∧ Below wx.heap.size wx w') (he1 : seEq u.k u.t u.s u.g u.d u.k u.t u.s u.g u.d = true) (he2 : seEq u.k u.t u.s u.g u.d a.k a.t a.s a.g a.d = true) :
    wpOp Try.prog u6O Q 1 (u6I w0 X5 X6 X9 a b u s0 s1 s2 s3 s4 s7 s8 s10 s11 s12 s13 s14 s15 s16 s17 s18 s19 s20 s21 s22 s23 s24 s25 s26 s27 s28 s29 s30 s31 s32 s33 s34 s35 s36 s37 s38 s39 s40 s41 s42 s43 s44 s45 s46 s47 s48 s49 s50 s51 s52 s53 s54 s55 s56 s57 s58 s59 s60 s61 s62 s63 s64 s65 s66 s67 s68 s69 s70 s71 s72 s73 s74 s75 #[b0, true, b2, false, false, false, false, false, false, false, false, false, false, false, false]) { tmps := #[s0, s1, s2, s3, s4, .pointer (some ⟨X5, 0, none⟩), .pointer (some ⟨X6, 0, none⟩), s7, s8, .pointer (some ⟨X9, 0, none⟩), s10, s11, s12, s13, s14, s15, s16, s17, s18, s19, s20, s21, s22, s23, s24, s25, s26, s27, s28, s29, s30, selS b0 (.agg #[.string u.k, .int .i64 u.t, .int .i64 u.s, .bool u.g, .string u.d]) (s31), s32, selS b2 (.agg #[.string b.k, .int .i64 b.t, .int .i64 b.s, .bool b.g, .string b.d]) (s33), s34, s35, s36, s37, s38, s39, s40, s41, s42, s43, s44, s45, s46, s47, s48, s49, s50, s51, s52, s53, s54, s55, s56, s57, s58, s59, s60, s61, s62, s63, s64, s65, s66, s67, s68, s69, s70, s71, s72, s73, s74, s75], defers := [] } w := by
  have q0 := hrX5.cell 0
  have q1 := hrX5.cell 1
  have q2 := hrX5.cell 2
  have q3 := hrX5.cell 3
  have q4 := hrX5.cell 4
  refine wpOp_step (o := { dst := some 32, op := Op.load 24 (Operand.tmp 5), type := 24, pos := "laws.go:1121", after := #[], guard := none }) rfl (fun K hK => ?_)
  replace hK := hid hK
  go_simp
  exact hK.out _ _ ⟨b0, true, b2, false, false, false, false, false, false, false, false, false, false, false, false, dm, rfl, rfl, hB, hrX5, hrX6, hrX9, hkS, he1, he2⟩
set_option maxRecDepth 20000 in
set_option maxHeartbeats 1000000 in
theorem u6_s2 {Q : Exit → Act → World → Prop} (w0 : World) (X5 X6 X9 : Nat) (a b u : Se) (s0 s1 s2 s3 s4 s7 s8 s10 s11 s12 s13 s14 s15 s16 s17 s18 s19 s20 s21 s22 s23 s24 s25 s26 s27 s28 s29 s30 s31 s32 s33 s34 s35 s36 s37 s38 s39 s40 s41 s42 s43 s44 s45 s46 s47 s48 s49 s50 s51 s52 s53 s54 s55 s56 s57 s58 s59 s60 s61 s62 s63 s64 s65 s66 s67 s68 s69 s70 s71 s72 s73 s74 s75 : Value) (b0 b1 : Bool) (dm : Nat) (w : World) (hB : Below w0.heap.size w0 w) (hrX5 : RowAt w X5 24 #[.string a.k, .int .i64 a.t, .int .i64 a.s, .bool a.g, .string a.d]) (hrX6 : RowAt w X6 24 #[.string b.k, .int .i64 b.t, .int .i64 b.s, .bool b.g, .string b.d]) (hrX9 : RowAt w X9 24 #[.string u.k, .int .i64 u.t, .int .i64 u.s, .bool u.g, .string u.d]) (hkS : ∀ wx, Below w0.heap.size w0 wx → Calls Try.prog 7 #[.agg #[.string a.k, .int .i64 a.t, .int .i64 a.s, .bool a.g, .string a.d], .agg #[.string b.k, .int .i64 b.t, .int .i64 b.s, .bool b.g, .string b.d]] wx fun e w' => e = .returned (.agg #[.string u.k, .int .i64 u.t, .int .i64 u.s, .bool u.g, .string u.d]) ∧ Below wx.heap.size wx w') (he1 : seEq u.k u.t u.s u.g u.d u.k u.t u.s u.g u.d = true) (he2 : seEq u.k u.t u.s u.g u.d a.k a.t a.s a.g a.d = true) :
    wpOp Try.prog u6O Q 2 (u6I w0 X5 X6 X9 a b u s0 s1 s2 s3 s4 s7 s8 s10 s11 s12 s13 s14 s15 s16 s17 s18 s19 s20 s21 s22 s23 s24 s25 s26 s27 s28 s29 s30 s31 s32 s33 s34 s35 s36 s37 s38 s39 s40 s41 s42 s43 s44 s45 s46 s47 s48 s49 s50 s51 s52 s53 s54 s55 s56 s57 s58 s59 s60 s61 s62 s63 s64 s65 s66 s67 s68 s69 s70 s71 s72 s73 s74 s75 #[b0, b1, true, false, false, false, false, false, false, false, false, false, false, false, false]) { tmps := #[s0, s1, s2, s3, s4, .pointer (some ⟨X5, 0, none⟩), .pointer (some ⟨X6, 0, none⟩), s7, s8, .pointer (some ⟨X9, 0, none⟩), s10, s11, s12, s13, s14, s15, s16, s17, s18, s19, s20, s21, s22, s23, s24, s25, s26, s27, s28, s29, s30, selS b0 (.agg #[.string u.k, .int .i64 u.t, .int .i64 u.s, .bool u.g, .string u.d]) (s31), selS b1 (.agg #[.string a.k, .int .i64 a.t, .int .i64 a.s, .bool a.g, .string a.d]) (s32), s33, s34, s35, s36, s37, s38, s39, s40, s41, s42, s43, s44, s45, s46, s47, s48, s49, s50, s51, s52, s53, s54, s55, s56, s57, s58, s59, s60, s61, s62, s63, s64, s65, s66, s67, s68, s69, s70, s71, s72, s73, s74, s75], defers := [] } w := by
  have q0 := hrX6.cell 0
  have q1 := hrX6.cell 1
  have q2 := hrX6.cell 2
  have q3 := hrX6.cell 3
  have q4 := hrX6.cell 4
  refine wpOp_step (o := { dst := some 33, op := Op.load 24 (Operand.tmp 6), type := 24, pos := "laws.go:1121", after := #[], guard := none }) rfl (fun K hK => ?_)
  replace hK := hid hK
  go_simp
  exact hK.out _ _ ⟨b0, b1, true, false, false, false, false, false, false, false, false, false, false, false, false, dm, rfl, rfl, hB, hrX5, hrX6, hrX9, hkS, he1, he2⟩
set_option maxRecDepth 20000 in
set_option maxHeartbeats 1000000 in
theorem u6_s3 {Q : Exit → Act → World → Prop} (w0 : World) (X5 X6 X9 : Nat) (a b u : Se) (s0 s1 s2 s3 s4 s7 s8 s10 s11 s12 s13 s14 s15 s16 s17 s18 s19 s20 s21 s22 s23 s24 s25 s26 s27 s28 s29 s30 s31 s32 s33 s34 s35 s36 s37 s38 s39 s40 s41 s42 s43 s44 s45 s46 s47 s48 s49 s50 s51 s52 s53 s54 s55 s56 s57 s58 s59 s60 s61 s62 s63 s64 s65 s66 s67 s68 s69 s70 s71 s72 s73 s74 s75 : Value) (b0 : Bool) (dm : Nat) (w : World) (hB : Below w0.heap.size w0 w) (hrX5 : RowAt w X5 24 #[.string a.k, .int .i64 a.t, .int .i64 a.s, .bool a.g, .string a.d]) (hrX6 : RowAt w X6 24 #[.string b.k, .int .i64 b.t, .int .i64 b.s, .bool b.g, .string b.d]) (hrX9 : RowAt w X9 24 #[.string u.k, .int .i64 u.t, .int .i64 u.s, .bool u.g, .string u.d]) (hkS : ∀ wx, Below w0.heap.size w0 wx → Calls Try.prog 7 #[.agg #[.string a.k, .int .i64 a.t, .int .i64 a.s, .bool a.g, .string a.d], .agg #[.string b.k, .int .i64 b.t, .int .i64 b.s, .bool b.g, .string b.d]] wx fun e w' => e = .returned (.agg #[.string u.k, .int .i64 u.t, .int .i64 u.s, .bool u.g, .string u.d]) ∧ Below wx.heap.size wx w') (he1 : seEq u.k u.t u.s u.g u.d u.k u.t u.s u.g u.d = true) (he2 : seEq u.k u.t u.s u.g u.d a.k a.t a.s a.g a.d = true) :
    wpOp Try.prog u6O Q 3 (u6I w0 X5 X6 X9 a b u s0 s1 s2 s3 s4 s7 s8 s10 s11 s12 s13 s14 s15 s16 s17 s18 s19 s20 s21 s22 s23 s24 s25 s26 s27 s28 s29 s30 s31 s32 s33 s34 s35 s36 s37 s38 s39 s40 s41 s42 s43 s44 s45 s46 s47 s48 s49 s50 s51 s52 s53 s54 s55 s56 s57 s58 s59 s60 s61 s62 s63 s64 s65 s66 s67 s68 s69 s70 s71 s72 s73 s74 s75 #[b0, true, true, true, false, false, false, false, false, false, false, false, false, false, false]) { tmps := #[s0, s1, s2, s3, s4, .pointer (some ⟨X5, 0, none⟩), .pointer (some ⟨X6, 0, none⟩), s7, s8, .pointer (some ⟨X9, 0, none⟩), s10, s11, s12, s13, s14, s15, s16, s17, s18, s19, s20, s21, s22, s23, s24, s25, s26, s27, s28, s29, s30, selS b0 (.agg #[.string u.k, .int .i64 u.t, .int .i64 u.s, .bool u.g, .string u.d]) (s31), .agg #[.string a.k, .int .i64 a.t, .int .i64 a.s, .bool a.g, .string a.d], .agg #[.string b.k, .int .i64 b.t, .int .i64 b.s, .bool b.g, .string b.d], s34, s35, s36, s37, s38, s39, s40, s41, s42, s43, s44, s45, s46, s47, s48, s49, s50, s51, s52, s53, s54, s55, s56, s57, s58, s59, s60, s61, s62, s63, s64, s65, s66, s67, s68, s69, s70, s71, s72, s73, s74, s75], defers := [] } w := by
  refine wpOp_step (o := { dst := some 34, op := Op.call { callee := Callee.value (Operand.func 7), args := #[Operand.tmp 32, Operand.tmp 33], argTypes := #[24, 24] }, type := 24, pos := "laws.go:1121", after := #[{ on := 1, ground := Ground.data }, { on := 2, ground := Ground.data }], guard := none }) rfl (fun K hK => ?_)
  replace hK := hid hK
  go_simp
  refine (hkS _ hB).mono ?_
  rintro e w2 ⟨rfl, hb2⟩
  dsimp only
  exact hK.out _ _ ⟨b0, true, true, true, false, false, false, false, false, false, false, false, false, false, false, dm, rfl, rfl, hB.trans (hb2.mono hB.size), RowAt.nxW hb2 hrX5, RowAt.nxW hb2 hrX6, RowAt.nxW hb2 hrX9, hkS, he1, he2⟩
set_option maxRecDepth 20000 in
set_option maxHeartbeats 1000000 in
theorem u6_s4 {Q : Exit → Act → World → Prop} (w0 : World) (X5 X6 X9 : Nat) (a b u : Se) (s0 s1 s2 s3 s4 s7 s8 s10 s11 s12 s13 s14 s15 s16 s17 s18 s19 s20 s21 s22 s23 s24 s25 s26 s27 s28 s29 s30 s31 s32 s33 s34 s35 s36 s37 s38 s39 s40 s41 s42 s43 s44 s45 s46 s47 s48 s49 s50 s51 s52 s53 s54 s55 s56 s57 s58 s59 s60 s61 s62 s63 s64 s65 s66 s67 s68 s69 s70 s71 s72 s73 s74 s75 : Value) (dm : Nat) (w : World) (hB : Below w0.heap.size w0 w) (hrX5 : RowAt w X5 24 #[.string a.k, .int .i64 a.t, .int .i64 a.s, .bool a.g, .string a.d]) (hrX6 : RowAt w X6 24 #[.string b.k, .int .i64 b.t, .int .i64 b.s, .bool b.g, .string b.d]) (hrX9 : RowAt w X9 24 #[.string u.k, .int .i64 u.t, .int .i64 u.s, .bool u.g, .string u.d]) (hkS : ∀ wx, Below w0.heap.size w0 wx → Calls Try.prog 7 #[.agg #[.string a.k, .int .i64 a.t, .int .i64 a.s, .bool a.g, .string a.d], .agg #[.string b.k, .int .i64 b.t, .int .i64 b.s, .bool b.g, .string b.d]] wx fun e w' => e = .returned (.agg #[.string u.k, .int .i64 u.t, .int .i64 u.s, .bool u.g, .string u.d]) ∧ Below wx.heap.size wx w') (he1 : seEq u.k u.t u.s u.g u.d u.k u.t u.s u.g u.d = true) (he2 : seEq u.k u.t u.s u.g u.d a.k a.t a.s a.g a.d = true) :
    wpOp Try.prog u6O Q 4 (u6I w0 X5 X6 X9 a b u s0 s1 s2 s3 s4 s7 s8 s10 s11 s12 s13 s14 s15 s16 s17 s18 s19 s20 s21 s22 s23 s24 s25 s26 s27 s28 s29 s30 s31 s32 s33 s34 s35 s36 s37 s38 s39 s40 s41 s42 s43 s44 s45 s46 s47 s48 s49 s50 s51 s52 s53 s54 s55 s56 s57 s58 s59 s60 s61 s62 s63 s64 s65 s66 s67 s68 s69 s70 s71 s72 s73 s74 s75 #[true, true, true, true, true, false, false, false, false, false, false, false, false, false, false]) { tmps := #[s0, s1, s2, s3, s4, .pointer (some ⟨X5, 0, none⟩), .pointer (some ⟨X6, 0, none⟩), s7, s8, .pointer (some ⟨X9, 0, none⟩), s10, s11, s12, s13, s14, s15, s16, s17, s18, s19, s20, s21, s22, s23, s24, s25, s26, s27, s28, s29, s30, .agg #[.string u.k, .int .i64 u.t, .int .i64 u.s, .bool u.g, .string u.d], .agg #[.string a.k, .int .i64 a.t, .int .i64 a.s, .bool a.g, .string a.d], .agg #[.string b.k, .int .i64 b.t, .int .i64 b.s, .bool b.g, .string b.d], .agg #[.string u.k, .int .i64 u.t, .int .i64 u.s, .bool u.g, .string u.d], s35, s36, s37, s38, s39, s40, s41, s42, s43, s44, s45, s46, s47, s48, s49, s50, s51, s52, s53, s54, s55, s56, s57, s58, s59, s60, s61, s62, s63, s64, s65, s66, s67, s68, s69, s70, s71, s72, s73, s74, s75], defers := [] } w := by
  refine wpOp_step (o := { dst := some 35, op := Op.binOp BinOp.neq 24 (Operand.tmp 31) (Operand.tmp 34) 24, type := 4, pos := "laws.go:1121", after := #[{ on := 0, ground := Ground.data }, { on := 3, ground := Ground.data }], guard := none }) rfl (fun K hK => ?_)
  replace hK := hid hK
  go_simp
  exact hK.out _ _ ⟨true, true, true, true, true, false, false, false, false, false, false, false, false, false, false, dm, rfl, rfl, hB, hrX5, hrX6, hrX9, hkS, he1, he2⟩
set_option maxRecDepth 20000 in
set_option maxHeartbeats 1000000 in
theorem u6_s5 {Q : Exit → Act → World → Prop} (w0 : World) (X5 X6 X9 : Nat) (a b u : Se) (s0 s1 s2 s3 s4 s7 s8 s10 s11 s12 s13 s14 s15 s16 s17 s18 s19 s20 s21 s22 s23 s24 s25 s26 s27 s28 s29 s30 s31 s32 s33 s34 s35 s36 s37 s38 s39 s40 s41 s42 s43 s44 s45 s46 s47 s48 s49 s50 s51 s52 s53 s54 s55 s56 s57 s58 s59 s60 s61 s62 s63 s64 s65 s66 s67 s68 s69 s70 s71 s72 s73 s74 s75 : Value) (dm : Nat) (w : World) (hB : Below w0.heap.size w0 w) (hrX5 : RowAt w X5 24 #[.string a.k, .int .i64 a.t, .int .i64 a.s, .bool a.g, .string a.d]) (hrX6 : RowAt w X6 24 #[.string b.k, .int .i64 b.t, .int .i64 b.s, .bool b.g, .string b.d]) (hrX9 : RowAt w X9 24 #[.string u.k, .int .i64 u.t, .int .i64 u.s, .bool u.g, .string u.d]) (hkS : ∀ wx, Below w0.heap.size w0 wx → Calls Try.prog 7 #[.agg #[.string a.k, .int .i64 a.t, .int .i64 a.s, .bool a.g, .string a.d], .agg #[.string b.k, .int .i64 b.t, .int .i64 b.s, .bool b.g, .string b.d]] wx fun e w' => e = .returned (.agg #[.string u.k, .int .i64 u.t, .int .i64 u.s, .bool u.g, .string u.d]) ∧ Below wx.heap.size wx w') (he1 : seEq u.k u.t u.s u.g u.d u.k u.t u.s u.g u.d = true) (he2 : seEq u.k u.t u.s u.g u.d a.k a.t a.s a.g a.d = true) :
    wpOp Try.prog u6O Q 5 (u6I w0 X5 X6 X9 a b u s0 s1 s2 s3 s4 s7 s8 s10 s11 s12 s13 s14 s15 s16 s17 s18 s19 s20 s21 s22 s23 s24 s25 s26 s27 s28 s29 s30 s31 s32 s33 s34 s35 s36 s37 s38 s39 s40 s41 s42 s43 s44 s45 s46 s47 s48 s49 s50 s51 s52 s53 s54 s55 s56 s57 s58 s59 s60 s61 s62 s63 s64 s65 s66 s67 s68 s69 s70 s71 s72 s73 s74 s75 #[true, true, true, true, true, true, false, false, false, false, false, false, false, false, false]) { tmps := #[s0, s1, s2, s3, s4, .pointer (some ⟨X5, 0, none⟩), .pointer (some ⟨X6, 0, none⟩), s7, s8, .pointer (some ⟨X9, 0, none⟩), s10, s11, s12, s13, s14, s15, s16, s17, s18, s19, s20, s21, s22, s23, s24, s25, s26, s27, s28, s29, s30, .agg #[.string u.k, .int .i64 u.t, .int .i64 u.s, .bool u.g, .string u.d], .agg #[.string a.k, .int .i64 a.t, .int .i64 a.s, .bool a.g, .string a.d], .agg #[.string b.k, .int .i64 b.t, .int .i64 b.s, .bool b.g, .string b.d], .agg #[.string u.k, .int .i64 u.t, .int .i64 u.s, .bool u.g, .string u.d], .bool false, s36, s37, s38, s39, s40, s41, s42, s43, s44, s45, s46, s47, s48, s49, s50, s51, s52, s53, s54, s55, s56, s57, s58, s59, s60, s61, s62, s63, s64, s65, s66, s67, s68, s69, s70, s71, s72, s73, s74, s75], defers := [] } w := by
  refine wpOp_step (o := { dst := some 36, op := Op.move (Operand.tmp 35), type := 4, pos := "laws.go:1121", after := #[{ on := 4, ground := Ground.data }, { on := 3, ground := Ground.chain }], guard := none }) rfl (fun K hK => ?_)
  replace hK := hid hK
  go_simp
  exact hK.out _ _ ⟨true, true, true, true, true, true, false, false, false, false, false, false, false, false, false, dm, rfl, rfl, hB, hrX5, hrX6, hrX9, hkS, he1, he2⟩
set_option maxRecDepth 20000 in
set_option maxHeartbeats 1000000 in
theorem u6_s6 {Q : Exit → Act → World → Prop} (w0 : World) (X5 X6 X9 : Nat) (a b u : Se) (s0 s1 s2 s3 s4 s7 s8 s10 s11 s12 s13 s14 s15 s16 s17 s18 s19 s20 s21 s22 s23 s24 s25 s26 s27 s28 s29 s30 s31 s32 s33 s34 s35 s36 s37 s38 s39 s40 s41 s42 s43 s44 s45 s46 s47 s48 s49 s50 s51 s52 s53 s54 s55 s56 s57 s58 s59 s60 s61 s62 s63 s64 s65 s66 s67 s68 s69 s70 s71 s72 s73 s74 s75 : Value) (b7 : Bool) (dm : Nat) (w : World) (hB : Below w0.heap.size w0 w) (hrX5 : RowAt w X5 24 #[.string a.k, .int .i64 a.t, .int .i64 a.s, .bool a.g, .string a.d]) (hrX6 : RowAt w X6 24 #[.string b.k, .int .i64 b.t, .int .i64 b.s, .bool b.g, .string b.d]) (hrX9 : RowAt w X9 24 #[.string u.k, .int .i64 u.t, .int .i64 u.s, .bool u.g, .string u.d]) (hkS : ∀ wx, Below w0.heap.size w0 wx → Calls Try.prog 7 #[.agg #[.string a.k, .int .i64 a.t, .int .i64 a.s, .bool a.g, .string a.d], .agg #[.string b.k, .int .i64 b.t, .int .i64 b.s, .bool b.g, .string b.d]] wx fun e w' => e = .returned (.agg #[.string u.k, .int .i64 u.t, .int .i64 u.s, .bool u.g, .string u.d]) ∧ Below wx.heap.size wx w') (he1 : seEq u.k u.t u.s u.g u.d u.k u.t u.s u.g u.d = true) (he2 : seEq u.k u.t u.s u.g u.d a.k a.t a.s a.g a.d = true) :
    wpOp Try.prog u6O Q 6 (u6I w0 X5 X6 X9 a b u s0 s1 s2 s3 s4 s7 s8 s10 s11 s12 s13 s14 s15 s16 s17 s18 s19 s20 s21 s22 s23 s24 s25 s26 s27 s28 s29 s30 s31 s32 s33 s34 s35 s36 s37 s38 s39 s40 s41 s42 s43 s44 s45 s46 s47 s48 s49 s50 s51 s52 s53 s54 s55 s56 s57 s58 s59 s60 s61 s62 s63 s64 s65 s66 s67 s68 s69 s70 s71 s72 s73 s74 s75 #[true, true, true, true, true, true, true, b7, false, false, false, false, false, false, false]) { tmps := #[s0, s1, s2, s3, s4, .pointer (some ⟨X5, 0, none⟩), .pointer (some ⟨X6, 0, none⟩), s7, s8, .pointer (some ⟨X9, 0, none⟩), s10, s11, s12, s13, s14, s15, s16, s17, s18, s19, s20, s21, s22, s23, s24, s25, s26, s27, s28, s29, s30, .agg #[.string u.k, .int .i64 u.t, .int .i64 u.s, .bool u.g, .string u.d], .agg #[.string a.k, .int .i64 a.t, .int .i64 a.s, .bool a.g, .string a.d], .agg #[.string b.k, .int .i64 b.t, .int .i64 b.s, .bool b.g, .string b.d], .agg #[.string u.k, .int .i64 u.t, .int .i64 u.s, .bool u.g, .string u.d], .bool false, .bool false, s37, selS b7 (.agg #[.string a.k, .int .i64 a.t, .int .i64 a.s, .bool a.g, .string a.d]) (s38), s39, s40, s41, s42, s43, s44, s45, s46, s47, s48, s49, s50, s51, s52, s53, s54, s55, s56, s57, s58, s59, s60, s61, s62, s63, s64, s65, s66, s67, s68, s69, s70, s71, s72, s73, s74, s75], defers := [] } w := by
  have q0 := hrX9.cell 0
  have q1 := hrX9.cell 1
  have q2 := hrX9.cell 2
  have q3 := hrX9.cell 3
  have q4 := hrX9.cell 4
  refine wpOp_step (o := { dst := some 37, op := Op.load 24 (Operand.tmp 9), type := 24, pos := "laws.go:1121", after := #[{ on := 5, ground := Ground.guard }], guard := some (5, false) }) rfl (fun K hK => ?_)
  replace hK := hid hK
  go_simp
  exact hK.out _ _ ⟨true, true, true, true, true, true, true, b7, false, false, false, false, false, false, false, dm, rfl, rfl, hB, hrX5, hrX6, hrX9, hkS, he1, he2⟩
set_option maxRecDepth 20000 in
set_option maxHeartbeats 1000000 in
theorem u6_s7 {Q : Exit → Act → World → Prop} (w0 : World) (X5 X6 X9 : Nat) (a b u : Se) (s0 s1 s2 s3 s4 s7 s8 s10 s11 s12 s13 s14 s15 s16 s17 s18 s19 s20 s21 s22 s23 s24 s25 s26 s27 s28 s29 s30 s31 s32 s33 s34 s35 s36 s37 s38 s39 s40 s41 s42 s43 s44 s45 s46 s47 s48 s49 s50 s51 s52 s53 s54 s55 s56 s57 s58 s59 s60 s61 s62 s63 s64 s65 s66 s67 s68 s69 s70 s71 s72 s73 s74 s75 : Value) (b6 : Bool) (dm : Nat) (w : World) (hB : Below w0.heap.size w0 w) (hrX5 : RowAt w X5 24 #[.string a.k, .int .i64 a.t, .int .i64 a.s, .bool a.g, .string a.d]) (hrX6 : RowAt w X6 24 #[.string b.k, .int .i64 b.t, .int .i64 b.s, .bool b.g, .string b.d]) (hrX9 : RowAt w X9 24 #[.string u.k, .int .i64 u.t, .int .i64 u.s, .bool u.g, .string u.d]) (hkS : ∀ wx, Below w0.heap.size w0 wx → Calls Try.prog 7 #[.agg #[.string a.k, .int .i64 a.t, .int .i64 a.s, .bool a.g, .string a.d], .agg #[.string b.k, .int .i64 b.t, .int .i64 b.s, .bool b.g, .string b.d]] wx fun e w' => e = .returned (.agg #[.string u.k, .int .i64 u.t, .int .i64 u.s, .bool u.g, .string u.d]) ∧ Below wx.heap.size wx w') (he1 : seEq u.k u.t u.s u.g u.d u.k u.t u.s u.g u.d = true) (he2 : seEq u.k u.t u.s u.g u.d a.k a.t a.s a.g a.d = true) :
    wpOp Try.prog u6O Q 7 (u6I w0 X5 X6 X9 a b u s0 s1 s2 s3 s4 s7 s8 s10 s11 s12 s13 s14 s15 s16 s17 s18 s19 s20 s21 s22 s23 s24 s25 s26 s27 s28 s29 s30 s31 s32 s33 s34 s35 s36 s37 s38 s39 s40 s41 s42 s43 s44 s45 s46 s47 s48 s49 s50 s51 s52 s53 s54 s55 s56 s57 s58 s59 s60 s61 s62 s63 s64 s65 s66 s67 s68 s69 s70 s71 s72 s73 s74 s75 #[true, true, true, true, true, true, b6, true, false, false, false, false, false, false, false]) { tmps := #[s0, s1, s2, s3, s4, .pointer (some ⟨X5, 0, none⟩), .pointer (some ⟨X6, 0, none⟩), s7, s8, .pointer (some ⟨X9, 0, none⟩), s10, s11, s12, s13, s14, s15, s16, s17, s18, s19, s20, s21, s22, s23, s24, s25, s26, s27, s28, s29, s30, .agg #[.string u.k, .int .i64 u.t, .int .i64 u.s, .bool u.g, .string u.d], .agg #[.string a.k, .int .i64 a.t, .int .i64 a.s, .bool a.g, .string a.d], .agg #[.string b.k, .int .i64 b.t, .int .i64 b.s, .bool b.g, .string b.d], .agg #[.string u.k, .int .i64 u.t, .int .i64 u.s, .bool u.g, .string u.d], .bool false, .bool false, selS b6 (.agg #[.string u.k, .int .i64 u.t, .int .i64 u.s, .bool u.g, .string u.d]) (s37), s38, s39, s40, s41, s42, s43, s44, s45, s46, s47, s48, s49, s50, s51, s52, s53, s54, s55, s56, s57, s58, s59, s60, s61, s62, s63, s64, s65, s66, s67, s68, s69, s70, s71, s72, s73, s74, s75], defers := [] } w := by
  have q0 := hrX5.cell 0
  have q1 := hrX5.cell 1
  have q2 := hrX5.cell 2
  have q3 := hrX5.cell 3
  have q4 := hrX5.cell 4
  refine wpOp_step (o := { dst := some 38, op := Op.load 24 (Operand.tmp 5), type := 24, pos := "laws.go:1121", after := #[{ on := 5, ground := Ground.guard }], guard := some (5, false) }) rfl (fun K hK => ?_)
  replace hK := hid hK
  go_simp
  exact hK.out _ _ ⟨true, true, true, true, true, true, b6, true, false, false, false, false, false, false, false, dm, rfl, rfl, hB, hrX5, hrX6, hrX9, hkS, he1, he2⟩
set_option maxRecDepth 20000 in
set_option maxHeartbeats 1000000 in
theorem u6_s8 {Q : Exit → Act → World → Prop} (w0 : World) (X5 X6 X9 : Nat) (a b u : Se) (s0 s1 s2 s3 s4 s7 s8 s10 s11 s12 s13 s14 s15 s16 s17 s18 s19 s20 s21 s22 s23 s24 s25 s26 s27 s28 s29 s30 s31 s32 s33 s34 s35 s36 s37 s38 s39 s40 s41 s42 s43 s44 s45 s46 s47 s48 s49 s50 s51 s52 s53 s54 s55 s56 s57 s58 s59 s60 s61 s62 s63 s64 s65 s66 s67 s68 s69 s70 s71 s72 s73 s74 s75 : Value) (dm : Nat) (w : World) (hB : Below w0.heap.size w0 w) (hrX5 : RowAt w X5 24 #[.string a.k, .int .i64 a.t, .int .i64 a.s, .bool a.g, .string a.d]) (hrX6 : RowAt w X6 24 #[.string b.k, .int .i64 b.t, .int .i64 b.s, .bool b.g, .string b.d]) (hrX9 : RowAt w X9 24 #[.string u.k, .int .i64 u.t, .int .i64 u.s, .bool u.g, .string u.d]) (hkS : ∀ wx, Below w0.heap.size w0 wx → Calls Try.prog 7 #[.agg #[.string a.k, .int .i64 a.t, .int .i64 a.s, .bool a.g, .string a.d], .agg #[.string b.k, .int .i64 b.t, .int .i64 b.s, .bool b.g, .string b.d]] wx fun e w' => e = .returned (.agg #[.string u.k, .int .i64 u.t, .int .i64 u.s, .bool u.g, .string u.d]) ∧ Below wx.heap.size wx w') (he1 : seEq u.k u.t u.s u.g u.d u.k u.t u.s u.g u.d = true) (he2 : seEq u.k u.t u.s u.g u.d a.k a.t a.s a.g a.d = true) :
    wpOp Try.prog u6O Q 8 (u6I w0 X5 X6 X9 a b u s0 s1 s2 s3 s4 s7 s8 s10 s11 s12 s13 s14 s15 s16 s17 s18 s19 s20 s21 s22 s23 s24 s25 s26 s27 s28 s29 s30 s31 s32 s33 s34 s35 s36 s37 s38 s39 s40 s41 s42 s43 s44 s45 s46 s47 s48 s49 s50 s51 s52 s53 s54 s55 s56 s57 s58 s59 s60 s61 s62 s63 s64 s65 s66 s67 s68 s69 s70 s71 s72 s73 s74 s75 #[true, true, true, true, true, true, true, true, true, false, false, false, false, false, false]) { tmps := #[s0, s1, s2, s3, s4, .pointer (some ⟨X5, 0, none⟩), .pointer (some ⟨X6, 0, none⟩), s7, s8, .pointer (some ⟨X9, 0, none⟩), s10, s11, s12, s13, s14, s15, s16, s17, s18, s19, s20, s21, s22, s23, s24, s25, s26, s27, s28, s29, s30, .agg #[.string u.k, .int .i64 u.t, .int .i64 u.s, .bool u.g, .string u.d], .agg #[.string a.k, .int .i64 a.t, .int .i64 a.s, .bool a.g, .string a.d], .agg #[.string b.k, .int .i64 b.t, .int .i64 b.s, .bool b.g, .string b.d], .agg #[.string u.k, .int .i64 u.t, .int .i64 u.s, .bool u.g, .string u.d], .bool false, .bool false, .agg #[.string u.k, .int .i64 u.t, .int .i64 u.s, .bool u.g, .string u.d], .agg #[.string a.k, .int .i64 a.t, .int .i64 a.s, .bool a.g, .string a.d], s39, s40, s41, s42, s43, s44, s45, s46, s47, s48, s49, s50, s51, s52, s53, s54, s55, s56, s57, s58, s59, s60, s61, s62, s63, s64, s65, s66, s67, s68, s69, s70, s71, s72, s73, s74, s75], defers := [] } w := by
  refine wpOp_step (o := { dst := some 39, op := Op.binOp BinOp.neq 24 (Operand.tmp 37) (Operand.tmp 38) 24, type := 4, pos := "laws.go:1121", after := #[{ on := 6, ground := Ground.data }, { on := 7, ground := Ground.data }, { on := 5, ground := Ground.guard }], guard := some (5, false) }) rfl (fun K hK => ?_)
  replace hK := hid hK
  go_simp
  rw [if_pos (by rfl)]
  go_simp
  rw [ifs_yes (of_decide_eq_true he2)]
  exact hK.out _ _ ⟨true, true, true, true, true, true, true, true, true, false, false, false, false, false, false, dm, rfl, rfl, hB, hrX5, hrX6, hrX9, hkS, he1, he2⟩
set_option maxRecDepth 20000 in
set_option maxHeartbeats 1000000 in
theorem u6_s9 {Q : Exit → Act → World → Prop} (w0 : World) (X5 X6 X9 : Nat) (a b u : Se) (s0 s1 s2 s3 s4 s7 s8 s10 s11 s12 s13 s14 s15 s16 s17 s18 s19 s20 s21 s22 s23 s24 s25 s26 s27 s28 s29 s30 s31 s32 s33 s34 s35 s36 s37 s38 s39 s40 s41 s42 s43 s44 s45 s46 s47 s48 s49 s50 s51 s52 s53 s54 s55 s56 s57 s58 s59 s60 s61 s62 s63 s64 s65 s66 s67 s68 s69 s70 s71 s72 s73 s74 s75 : Value) (dm : Nat) (w : World) (hB : Below w0.heap.size w0 w) (hrX5 : RowAt w X5 24 #[.string a.k, .int .i64 a.t, .int .i64 a.s, .bool a.g, .string a.d]) (hrX6 : RowAt w X6 24 #[.string b.k, .int .i64 b.t, .int .i64 b.s, .bool b.g, .string b.d]) (hrX9 : RowAt w X9 24 #[.string u.k, .int .i64 u.t, .int .i64 u.s, .bool u.g, .string u.d]) (hkS : ∀ wx, Below w0.heap.size w0 wx → Calls Try.prog 7 #[.agg #[.string a.k, .int .i64 a.t, .int .i64 a.s, .bool a.g, .string a.d], .agg #[.string b.k, .int .i64 b.t, .int .i64 b.s, .bool b.g, .string b.d]] wx fun e w' => e = .returned (.agg #[.string u.k, .int .i64 u.t, .int .i64 u.s, .bool u.g, .string u.d]) ∧ Below wx.heap.size wx w') (he1 : seEq u.k u.t u.s u.g u.d u.k u.t u.s u.g u.d = true) (he2 : seEq u.k u.t u.s u.g u.d a.k a.t a.s a.g a.d = true) :
    wpOp Try.prog u6O Q 9 (u6I w0 X5 X6 X9 a b u s0 s1 s2 s3 s4 s7 s8 s10 s11 s12 s13 s14 s15 s16 s17 s18 s19 s20 s21 s22 s23 s24 s25 s26 s27 s28 s29 s30 s31 s32 s33 s34 s35 s36 s37 s38 s39 s40 s41 s42 s43 s44 s45 s46 s47 s48 s49 s50 s51 s52 s53 s54 s55 s56 s57 s58 s59 s60 s61 s62 s63 s64 s65 s66 s67 s68 s69 s70 s71 s72 s73 s74 s75 #[true, true, true, true, true, true, true, true, true, true, false, false, false, false, false]) { tmps := #[s0, s1, s2, s3, s4, .pointer (some ⟨X5, 0, none⟩), .pointer (some ⟨X6, 0, none⟩), s7, s8, .pointer (some ⟨X9, 0, none⟩), s10, s11, s12, s13, s14, s15, s16, s17, s18, s19, s20, s21, s22, s23, s24, s25, s26, s27, s28, s29, s30, .agg #[.string u.k, .int .i64 u.t, .int .i64 u.s, .bool u.g, .string u.d], .agg #[.string a.k, .int .i64 a.t, .int .i64 a.s, .bool a.g, .string a.d], .agg #[.string b.k, .int .i64 b.t, .int .i64 b.s, .bool b.g, .string b.d], .agg #[.string u.k, .int .i64 u.t, .int .i64 u.s, .bool u.g, .string u.d], .bool false, .bool false, .agg #[.string u.k, .int .i64 u.t, .int .i64 u.s, .bool u.g, .string u.d], .agg #[.string a.k, .int .i64 a.t, .int .i64 a.s, .bool a.g, .string a.d], .bool false, s40, s41, s42, s43, s44, s45, s46, s47, s48, s49, s50, s51, s52, s53, s54, s55, s56, s57, s58, s59, s60, s61, s62, s63, s64, s65, s66, s67, s68, s69, s70, s71, s72, s73, s74, s75], defers := [] } w := by
  refine wpOp_step (o := { dst := some 40, op := Op.move (Operand.tmp 39), type := 4, pos := "laws.go:1121", after := #[{ on := 8, ground := Ground.data }, { on := 5, ground := Ground.chain }, { on := 5, ground := Ground.guard }], guard := some (5, false) }) rfl (fun K hK => ?_)
  replace hK := hid hK
  go_simp
  exact hK.out _ _ ⟨true, true, true, true, true, true, true, true, true, true, false, false, false, false, false, dm, rfl, rfl, hB, hrX5, hrX6, hrX9, hkS, he1, he2⟩
set_option maxRecDepth 20000 in
set_option maxHeartbeats 1000000 in
theorem u6_s10 {Q : Exit → Act → World → Prop} (w0 : World) (X5 X6 X9 : Nat) (a b u : Se) (s0 s1 s2 s3 s4 s7 s8 s10 s11 s12 s13 s14 s15 s16 s17 s18 s19 s20 s21 s22 s23 s24 s25 s26 s27 s28 s29 s30 s31 s32 s33 s34 s35 s36 s37 s38 s39 s40 s41 s42 s43 s44 s45 s46 s47 s48 s49 s50 s51 s52 s53 s54 s55 s56 s57 s58 s59 s60 s61 s62 s63 s64 s65 s66 s67 s68 s69 s70 s71 s72 s73 s74 s75 : Value) (b11 : Bool) (dm : Nat) (w : World) (hB : Below w0.heap.size w0 w) (hrX5 : RowAt w X5 24 #[.string a.k, .int .i64 a.t, .int .i64 a.s, .bool a.g, .string a.d]) (hrX6 : RowAt w X6 24 #[.string b.k, .int .i64 b.t, .int .i64 b.s, .bool b.g, .string b.d]) (hrX9 : RowAt w X9 24 #[.string u.k, .int .i64 u.t, .int .i64 u.s, .bool u.g, .string u.d]) (hkS : ∀ wx, Below w0.heap.size w0 wx → Calls Try.prog 7 #[.agg #[.string a.k, .int .i64 a.t, .int .i64 a.s, .bool a.g, .string a.d], .agg #[.string b.k, .int .i64 b.t, .int .i64 b.s, .bool b.g, .string b.d]] wx fun e w' => e = .returned (.agg #[.string u.k, .int .i64 u.t, .int .i64 u.s, .bool u.g, .string u.d]) ∧ Below wx.heap.size wx w') (he1 : seEq u.k u.t u.s u.g u.d u.k u.t u.s u.g u.d = true) (he2 : seEq u.k u.t u.s u.g u.d a.k a.t a.s a.g a.d = true) :
    wpOp Try.prog u6O Q 10 (u6I w0 X5 X6 X9 a b u s0 s1 s2 s3 s4 s7 s8 s10 s11 s12 s13 s14 s15 s16 s17 s18 s19 s20 s21 s22 s23 s24 s25 s26 s27 s28 s29 s30 s31 s32 s33 s34 s35 s36 s37 s38 s39 s40 s41 s42 s43 s44 s45 s46 s47 s48 s49 s50 s51 s52 s53 s54 s55 s56 s57 s58 s59 s60 s61 s62 s63 s64 s65 s66 s67 s68 s69 s70 s71 s72 s73 s74 s75 #[true, true, true, true, true, true, true, true, true, true, true, b11, false, false, false]) { tmps := #[s0, s1, s2, s3, s4, .pointer (some ⟨X5, 0, none⟩), .pointer (some ⟨X6, 0, none⟩), s7, s8, .pointer (some ⟨X9, 0, none⟩), s10, s11, s12, s13, s14, s15, s16, s17, s18, s19, s20, s21, s22, s23, s24, s25, s26, s27, s28, s29, s30, .agg #[.string u.k, .int .i64 u.t, .int .i64 u.s, .bool u.g, .string u.d], .agg #[.string a.k, .int .i64 a.t, .int .i64 a.s, .bool a.g, .string a.d], .agg #[.string b.k, .int .i64 b.t, .int .i64 b.s, .bool b.g, .string b.d], .agg #[.string u.k, .int .i64 u.t, .int .i64 u.s, .bool u.g, .string u.d], .bool false, .bool false, .agg #[.string u.k, .int .i64 u.t, .int .i64 u.s, .bool u.g, .string u.d], .agg #[.string a.k, .int .i64 a.t, .int .i64 a.s, .bool a.g, .string a.d], .bool false, .bool false, s41, selS b11 (undef) (s42), s43, s44, s45, s46, s47, s48, s49, s50, s51, s52, s53, s54, s55, s56, s57, s58, s59, s60, s61, s62, s63, s64, s65, s66, s67, s68, s69, s70, s71, s72, s73, s74, s75], defers := [] } w := by
  have q0 := hrX9.cell 0
  have q1 := hrX9.cell 1
  have q2 := hrX9.cell 2
  have q3 := hrX9.cell 3
  have q4 := hrX9.cell 4
  refine wpOp_step (o := { dst := some 41, op := Op.load 24 (Operand.tmp 9), type := 24, pos := "laws.go:1121", after := #[{ on := 9, ground := Ground.guard }], guard := some (9, true) }) rfl (fun K hK => ?_)
  replace hK := hid hK
  go_simp
  exact hK.out _ _ ⟨true, true, true, true, true, true, true, true, true, true, true, b11, false, false, false, dm, rfl, rfl, hB, hrX5, hrX6, hrX9, hkS, he1, he2⟩
set_option maxRecDepth 20000 in
set_option maxHeartbeats 1000000 in
theorem u6_s11 {Q : Exit → Act → World → Prop} (w0 : World) (X5 X6 X9 : Nat) (a b u : Se) (s0 s1 s2 s3 s4 s7 s8 s10 s11 s12 s13 s14 s15 s16 s17 s18 s19 s20 s21 s22 s23 s24 s25 s26 s27 s28 s29 s30 s31 s32 s33 s34 s35 s36 s37 s38 s39 s40 s41 s42 s43 s44 s45 s46 s47 s48 s49 s50 s51 s52 s53 s54 s55 s56 s57 s58 s59 s60 s61 s62 s63 s64 s65 s66 s67 s68 s69 s70 s71 s72 s73 s74 s75 : Value) (b10 : Bool) (dm : Nat) (w : World) (hB : Below w0.heap.size w0 w) (hrX5 : RowAt w X5 24 #[.string a.k, .int .i64 a.t, .int .i64 a.s, .bool a.g, .string a.d]) (hrX6 : RowAt w X6 24 #[.string b.k, .int .i64 b.t, .int .i64 b.s, .bool b.g, .string b.d]) (hrX9 : RowAt w X9 24 #[.string u.k, .int .i64 u.t, .int .i64 u.s, .bool u.g, .string u.d]) (hkS : ∀ wx, Below w0.heap.size w0 wx → Calls Try.prog 7 #[.agg #[.string a.k, .int .i64 a.t, .int .i64 a.s, .bool a.g, .string a.d], .agg #[.string b.k, .int .i64 b.t, .int .i64 b.s, .bool b.g, .string b.d]] wx fun e w' => e = .returned (.agg #[.string u.k, .int .i64 u.t, .int .i64 u.s, .bool u.g, .string u.d]) ∧ Below wx.heap.size wx w') (he1 : seEq u.k u.t u.s u.g u.d u.k u.t u.s u.g u.d = true) (he2 : seEq u.k u.t u.s u.g u.d a.k a.t a.s a.g a.d = true) :
    wpOp Try.prog u6O Q 11 (u6I w0 X5 X6 X9 a b u s0 s1 s2 s3 s4 s7 s8 s10 s11 s12 s13 s14 s15 s16 s17 s18 s19 s20 s21 s22 s23 s24 s25 s26 s27 s28 s29 s30 s31 s32 s33 s34 s35 s36 s37 s38 s39 s40 s41 s42 s43 s44 s45 s46 s47 s48 s49 s50 s51 s52 s53 s54 s55 s56 s57 s58 s59 s60 s61 s62 s63 s64 s65 s66 s67 s68 s69 s70 s71 s72 s73 s74 s75 #[true, true, true, true, true, true, true, true, true, true, b10, true, false, false, false]) { tmps := #[s0, s1, s2, s3, s4, .pointer (some ⟨X5, 0, none⟩), .pointer (some ⟨X6, 0, none⟩), s7, s8, .pointer (some ⟨X9, 0, none⟩), s10, s11, s12, s13, s14, s15, s16, s17, s18, s19, s20, s21, s22, s23, s24, s25, s26, s27, s28, s29, s30, .agg #[.string u.k, .int .i64 u.t, .int .i64 u.s, .bool u.g, .string u.d], .agg #[.string a.k, .int .i64 a.t, .int .i64 a.s, .bool a.g, .string a.d], .agg #[.string b.k, .int .i64 b.t, .int .i64 b.s, .bool b.g, .string b.d], .agg #[.string u.k, .int .i64 u.t, .int .i64 u.s, .bool u.g, .string u.d], .bool false, .bool false, .agg #[.string u.k, .int .i64 u.t, .int .i64 u.s, .bool u.g, .string u.d], .agg #[.string a.k, .int .i64 a.t, .int .i64 a.s, .bool a.g, .string a.d], .bool false, .bool false, selS b10 (undef) (s41), s42, s43, s44, s45, s46, s47, s48, s49, s50, s51, s52, s53, s54, s55, s56, s57, s58, s59, s60, s61, s62, s63, s64, s65, s66, s67, s68, s69, s70, s71, s72, s73, s74, s75], defers := [] } w := by
  have q0 := hrX6.cell 0
  have q1 := hrX6.cell 1
  have q2 := hrX6.cell 2
  have q3 := hrX6.cell 3
  have q4 := hrX6.cell 4
  refine wpOp_step (o := { dst := some 42, op := Op.load 24 (Operand.tmp 6), type := 24, pos := "laws.go:1121", after := #[{ on := 9, ground := Ground.guard }], guard := some (9, true) }) rfl (fun K hK => ?_)
  replace hK := hid hK
  go_simp
  exact hK.out _ _ ⟨true, true, true, true, true, true, true, true, true, true, b10, true, false, false, false, dm, rfl, rfl, hB, hrX5, hrX6, hrX9, hkS, he1, he2⟩
set_option maxRecDepth 20000 in
set_option maxHeartbeats 1000000 in
theorem u6_s12 {Q : Exit → Act → World → Prop} (w0 : World) (X5 X6 X9 : Nat) (a b u : Se) (s0 s1 s2 s3 s4 s7 s8 s10 s11 s12 s13 s14 s15 s16 s17 s18 s19 s20 s21 s22 s23 s24 s25 s26 s27 s28 s29 s30 s31 s32 s33 s34 s35 s36 s37 s38 s39 s40 s41 s42 s43 s44 s45 s46 s47 s48 s49 s50 s51 s52 s53 s54 s55 s56 s57 s58 s59 s60 s61 s62 s63 s64 s65 s66 s67 s68 s69 s70 s71 s72 s73 s74 s75 : Value) (dm : Nat) (w : World) (hB : Below w0.heap.size w0 w) (hrX5 : RowAt w X5 24 #[.string a.k, .int .i64 a.t, .int .i64 a.s, .bool a.g, .string a.d]) (hrX6 : RowAt w X6 24 #[.string b.k, .int .i64 b.t, .int .i64 b.s, .bool b.g, .string b.d]) (hrX9 : RowAt w X9 24 #[.string u.k, .int .i64 u.t, .int .i64 u.s, .bool u.g, .string u.d]) (hkS : ∀ wx, Below w0.heap.size w0 wx → Calls Try.prog 7 #[.agg #[.string a.k, .int .i64 a.t, .int .i64 a.s, .bool a.g, .string a.d], .agg #[.string b.k, .int .i64 b.t, .int .i64 b.s, .bool b.g, .string b.d]] wx fun e w' => e = .returned (.agg #[.string u.k, .int .i64 u.t, .int .i64 u.s, .bool u.g, .string u.d]) ∧ Below wx.heap.size wx w') (he1 : seEq u.k u.t u.s u.g u.d u.k u.t u.s u.g u.d = true) (he2 : seEq u.k u.t u.s u.g u.d a.k a.t a.s a.g a.d = true) :
    wpOp Try.prog u6O Q 12 (u6I w0 X5 X6 X9 a b u s0 s1 s2 s3 s4 s7 s8 s10 s11 s12 s13 s14 s15 s16 s17 s18 s19 s20 s21 s22 s23 s24 s25 s26 s27 s28 s29 s30 s31 s32 s33 s34 s35 s36 s37 s38 s39 s40 s41 s42 s43 s44 s45 s46 s47 s48 s49 s50 s51 s52 s53 s54 s55 s56 s57 s58 s59 s60 s61 s62 s63 s64 s65 s66 s67 s68 s69 s70 s71 s72 s73 s74 s75 #[true, true, true, true, true, true, true, true, true, true, true, true, true, false, false]) { tmps := #[s0, s1, s2, s3, s4, .pointer (some ⟨X5, 0, none⟩), .pointer (some ⟨X6, 0, none⟩), s7, s8, .pointer (some ⟨X9, 0, none⟩), s10, s11, s12, s13, s14, s15, s16, s17, s18, s19, s20, s21, s22, s23, s24, s25, s26, s27, s28, s29, s30, .agg #[.string u.k, .int .i64 u.t, .int .i64 u.s, .bool u.g, .string u.d], .agg #[.string a.k, .int .i64 a.t, .int .i64 a.s, .bool a.g, .string a.d], .agg #[.string b.k, .int .i64 b.t, .int .i64 b.s, .bool b.g, .string b.d], .agg #[.string u.k, .int .i64 u.t, .int .i64 u.s, .bool u.g, .string u.d], .bool false, .bool false, .agg #[.string u.k, .int .i64 u.t, .int .i64 u.s, .bool u.g, .string u.d], .agg #[.string a.k, .int .i64 a.t, .int .i64 a.s, .bool a.g, .string a.d], .bool false, .bool false, undef, undef, s43, s44, s45, s46, s47, s48, s49, s50, s51, s52, s53, s54, s55, s56, s57, s58, s59, s60, s61, s62, s63, s64, s65, s66, s67, s68, s69, s70, s71, s72, s73, s74, s75], defers := [] } w := by
  refine wpOp_step (o := { dst := some 43, op := Op.binOp BinOp.neq 24 (Operand.tmp 41) (Operand.tmp 42) 24, type := 4, pos := "laws.go:1121", after := #[{ on := 10, ground := Ground.data }, { on := 11, ground := Ground.data }, { on := 9, ground := Ground.guard }], guard := some (9, true) }) rfl (fun K hK => ?_)
  replace hK := hid hK
  go_simp
  exact hK.out _ _ ⟨true, true, true, true, true, true, true, true, true, true, true, true, true, false, false, dm, rfl, rfl, hB, hrX5, hrX6, hrX9, hkS, he1, he2⟩
set_option maxRecDepth 20000 in
set_option maxHeartbeats 1000000 in
theorem u6_s13 {Q : Exit → Act → World → Prop} (w0 : World) (X5 X6 X9 : Nat) (a b u : Se) (s0 s1 s2 s3 s4 s7 s8 s10 s11 s12 s13 s14 s15 s16 s17 s18 s19 s20 s21 s22 s23 s24 s25 s26 s27 s28 s29 s30 s31 s32 s33 s34 s35 s36 s37 s38 s39 s40 s41 s42 s43 s44 s45 s46 s47 s48 s49 s50 s51 s52 s53 s54 s55 s56 s57 s58 s59 s60 s61 s62 s63 s64 s65 s66 s67 s68 s69 s70 s71 s72 s73 s74 s75 : Value) (dm : Nat) (w : World) (hB : Below w0.heap.size w0 w) (hrX5 : RowAt w X5 24 #[.string a.k, .int .i64 a.t, .int .i64 a.s, .bool a.g, .string a.d]) (hrX6 : RowAt w X6 24 #[.string b.k, .int .i64 b.t, .int .i64 b.s, .bool b.g, .string b.d]) (hrX9 : RowAt w X9 24 #[.string u.k, .int .i64 u.t, .int .i64 u.s, .bool u.g, .string u.d]) (hkS : ∀ wx, Below w0.heap.size w0 wx → Calls Try.prog 7 #[.agg #[.string a.k, .int .i64 a.t, .int .i64 a.s, .bool a.g, .string a.d], .agg #[.string b.k, .int .i64 b.t, .int .i64 b.s, .bool b.g, .string b.d]] wx fun e w' => e = .returned (.agg #[.string u.k, .int .i64 u.t, .int .i64 u.s, .bool u.g, .string u.d]) ∧ Below wx.heap.size wx w') (he1 : seEq u.k u.t u.s u.g u.d u.k u.t u.s u.g u.d = true) (he2 : seEq u.k u.t u.s u.g u.d a.k a.t a.s a.g a.d = true) :
    wpOp Try.prog u6O Q 13 (u6I w0 X5 X6 X9 a b u s0 s1 s2 s3 s4 s7 s8 s10 s11 s12 s13 s14 s15 s16 s17 s18 s19 s20 s21 s22 s23 s24 s25 s26 s27 s28 s29 s30 s31 s32 s33 s34 s35 s36 s37 s38 s39 s40 s41 s42 s43 s44 s45 s46 s47 s48 s49 s50 s51 s52 s53 s54 s55 s56 s57 s58 s59 s60 s61 s62 s63 s64 s65 s66 s67 s68 s69 s70 s71 s72 s73 s74 s75 #[true, true, true, true, true, true, true, true, true, true, true, true, true, true, false]) { tmps := #[s0, s1, s2, s3, s4, .pointer (some ⟨X5, 0, none⟩), .pointer (some ⟨X6, 0, none⟩), s7, s8, .pointer (some ⟨X9, 0, none⟩), s10, s11, s12, s13, s14, s15, s16, s17, s18, s19, s20, s21, s22, s23, s24, s25, s26, s27, s28, s29, s30, .agg #[.string u.k, .int .i64 u.t, .int .i64 u.s, .bool u.g, .string u.d], .agg #[.string a.k, .int .i64 a.t, .int .i64 a.s, .bool a.g, .string a.d], .agg #[.string b.k, .int .i64 b.t, .int .i64 b.s, .bool b.g, .string b.d], .agg #[.string u.k, .int .i64 u.t, .int .i64 u.s, .bool u.g, .string u.d], .bool false, .bool false, .agg #[.string u.k, .int .i64 u.t, .int .i64 u.s, .bool u.g, .string u.d], .agg #[.string a.k, .int .i64 a.t, .int .i64 a.s, .bool a.g, .string a.d], .bool false, .bool false, undef, undef, undef, s44, s45, s46, s47, s48, s49, s50, s51, s52, s53, s54, s55, s56, s57, s58, s59, s60, s61, s62, s63, s64, s65, s66, s67, s68, s69, s70, s71, s72, s73, s74, s75], defers := [] } w := by
  refine wpOp_step (o := { dst := some 44, op := Op.pick (Operand.tmp 40) (Operand.tmp 43) (Operand.const (Value.bool false)), type := 4, pos := "laws.go:1121", after := #[{ on := 9, ground := Ground.data }, { on := 12, ground := Ground.data }, { on := 5, ground := Ground.guard }], guard := some (5, false) }) rfl (fun K hK => ?_)
  replace hK := hid hK
  go_simp
  exact hK.out _ _ ⟨true, true, true, true, true, true, true, true, true, true, true, true, true, true, false, dm, rfl, rfl, hB, hrX5, hrX6, hrX9, hkS, he1, he2⟩
set_option maxRecDepth 20000 in
set_option maxHeartbeats 1000000 in
theorem u6_s14 {Q : Exit → Act → World → Prop} (w0 : World) (X5 X6 X9 : Nat) (a b u : Se) (s0 s1 s2 s3 s4 s7 s8 s10 s11 s12 s13 s14 s15 s16 s17 s18 s19 s20 s21 s22 s23 s24 s25 s26 s27 s28 s29 s30 s31 s32 s33 s34 s35 s36 s37 s38 s39 s40 s41 s42 s43 s44 s45 s46 s47 s48 s49 s50 s51 s52 s53 s54 s55 s56 s57 s58 s59 s60 s61 s62 s63 s64 s65 s66 s67 s68 s69 s70 s71 s72 s73 s74 s75 : Value) (dm : Nat) (w : World) (hB : Below w0.heap.size w0 w) (hrX5 : RowAt w X5 24 #[.string a.k, .int .i64 a.t, .int .i64 a.s, .bool a.g, .string a.d]) (hrX6 : RowAt w X6 24 #[.string b.k, .int .i64 b.t, .int .i64 b.s, .bool b.g, .string b.d]) (hrX9 : RowAt w X9 24 #[.string u.k, .int .i64 u.t, .int .i64 u.s, .bool u.g, .string u.d]) (hkS : ∀ wx, Below w0.heap.size w0 wx → Calls Try.prog 7 #[.agg #[.string a.k, .int .i64 a.t, .int .i64 a.s, .bool a.g, .string a.d], .agg #[.string b.k, .int .i64 b.t, .int .i64 b.s, .bool b.g, .string b.d]] wx fun e w' => e = .returned (.agg #[.string u.k, .int .i64 u.t, .int .i64 u.s, .bool u.g, .string u.d]) ∧ Below wx.heap.size wx w') (he1 : seEq u.k u.t u.s u.g u.d u.k u.t u.s u.g u.d = true) (he2 : seEq u.k u.t u.s u.g u.d a.k a.t a.s a.g a.d = true) :
    wpOp Try.prog u6O Q 14 (u6I w0 X5 X6 X9 a b u s0 s1 s2 s3 s4 s7 s8 s10 s11 s12 s13 s14 s15 s16 s17 s18 s19 s20 s21 s22 s23 s24 s25 s26 s27 s28 s29 s30 s31 s32 s33 s34 s35 s36 s37 s38 s39 s40 s41 s42 s43 s44 s45 s46 s47 s48 s49 s50 s51 s52 s53 s54 s55 s56 s57 s58 s59 s60 s61 s62 s63 s64 s65 s66 s67 s68 s69 s70 s71 s72 s73 s74 s75 #[true, true, true, true, true, true, true, true, true, true, true, true, true, true, true]) { tmps := #[s0, s1, s2, s3, s4, .pointer (some ⟨X5, 0, none⟩), .pointer (some ⟨X6, 0, none⟩), s7, s8, .pointer (some ⟨X9, 0, none⟩), s10, s11, s12, s13, s14, s15, s16, s17, s18, s19, s20, s21, s22, s23, s24, s25, s26, s27, s28, s29, s30, .agg #[.string u.k, .int .i64 u.t, .int .i64 u.s, .bool u.g, .string u.d], .agg #[.string a.k, .int .i64 a.t, .int .i64 a.s, .bool a.g, .string a.d], .agg #[.string b.k, .int .i64 b.t, .int .i64 b.s, .bool b.g, .string b.d], .agg #[.string u.k, .int .i64 u.t, .int .i64 u.s, .bool u.g, .string u.d], .bool false, .bool false, .agg #[.string u.k, .int .i64 u.t, .int .i64 u.s, .bool u.g, .string u.d], .agg #[.string a.k, .int .i64 a.t, .int .i64 a.s, .bool a.g, .string a.d], .bool false, .bool false, undef, undef, undef, .bool false, s45, s46, s47, s48, s49, s50, s51, s52, s53, s54, s55, s56, s57, s58, s59, s60, s61, s62, s63, s64, s65, s66, s67, s68, s69, s70, s71, s72, s73, s74, s75], defers := [] } w := by
  refine wpOp_step (o := { dst := some 45, op := Op.pick (Operand.tmp 36) (Operand.const (Value.bool true)) (Operand.tmp 44), type := 4, pos := "laws.go:1121", after := #[{ on := 5, ground := Ground.data }, { on := 13, ground := Ground.data }], guard := none }) rfl (fun K hK => ?_)
  replace hK := hid hK
  go_simp
  exact hK.out _ _ ⟨true, true, true, true, true, true, true, true, true, true, true, true, true, true, true, dm, rfl, rfl, hB, hrX5, hrX6, hrX9, hkS, he1, he2⟩
set_option maxRecDepth 20000 in
set_option maxHeartbeats 2000000 in
theorem u6_step {Q : Exit → Act → World → Prop} (w0 : World) (X5 X6 X9 : Nat) (a b u : Se) (s0 s1 s2 s3 s4 s7 s8 s10 s11 s12 s13 s14 s15 s16 s17 s18 s19 s20 s21 s22 s23 s24 s25 s26 s27 s28 s29 s30 s31 s32 s33 s34 s35 s36 s37 s38 s39 s40 s41 s42 s43 s44 s45 s46 s47 s48 s49 s50 s51 s52 s53 s54 s55 s56 s57 s58 s59 s60 s61 s62 s63 s64 s65 s66 s67 s68 s69 s70 s71 s72 s73 s74 s75 : Value) (l : Array Bool) (f : Act) (w : World) (hC : Closed u6O l) (hI : u6I w0 X5 X6 X9 a b u s0 s1 s2 s3 s4 s7 s8 s10 s11 s12 s13 s14 s15 s16 s17 s18 s19 s20 s21 s22 s23 s24 s25 s26 s27 s28 s29 s30 s31 s32 s33 s34 s35 s36 s37 s38 s39 s40 s41 s42 s43 s44 s45 s46 s47 s48 s49 s50 s51 s52 s53 s54 s55 s56 s57 s58 s59 s60 s61 s62 s63 s64 s65 s66 s67 s68 s69 s70 s71 s72 s73 s74 s75 l f w) (i : Nat) (h0 : l.getD i true = false) (o : Oper) (ho : u6O[i]? = some o) (h1 : ∀ e ∈ o.after, Region.binds .any e = true → l.getD e.on false = true) : wpOp Try.prog u6O Q i (u6I w0 X5 X6 X9 a b u s0 s1 s2 s3 s4 s7 s8 s10 s11 s12 s13 s14 s15 s16 s17 s18 s19 s20 s21 s22 s23 s24 s25 s26 s27 s28 s29 s30 s31 s32 s33 s34 s35 s36 s37 s38 s39 s40 s41 s42 s43 s44 s45 s46 s47 s48 s49 s50 s51 s52 s53 s54 s55 s56 s57 s58 s59 s60 s61 s62 s63 s64 s65 s66 s67 s68 s69 s70 s71 s72 s73 s74 s75 (l.setIfInBounds i true)) f w := by
  obtain ⟨b0, b1, b2, b3, b4, b5, b6, b7, b8, b9, b10, b11, b12, b13, b14, dm, rfl, rfl, hB, hrX5, hrX6, hrX9, hkS, he1, he2⟩ := hI
  have hi : i < 15 := by
    rcases Nat.lt_or_ge i 15 with h | h
    · exact h
    · rw [show u6O[i]? = none from Array.getElem?_eq_none h] at ho; cases ho
  rcases (by omega : i = 0 ∨ i = 1 ∨ i = 2 ∨ i = 3 ∨ i = 4 ∨ i = 5 ∨ i = 6 ∨ i = 7 ∨ i = 8 ∨ i = 9 ∨ i = 10 ∨ i = 11 ∨ i = 12 ∨ i = 13 ∨ i = 14) with rfl | rfl | rfl | rfl | rfl | rfl | rfl | rfl | rfl | rfl | rfl | rfl | rfl | rfl | rfl
  · obtain rfl : u6o0 = o := Option.some.inj ho
    obtain rfl : b0 = false := h0
    obtain rfl : b4 = false := by
      cases b4 with
      | false => rfl
      | true => exact Bool.noConfusion (show false = true from hC 4 u6o4 rfl rfl ⟨0, .data⟩ (by simp [u6o4]) rfl)
    obtain rfl : b5 = false := by
      cases b5 with
      | false => rfl
      | true => exact Bool.noConfusion (show false = true from hC 5 u6o5 rfl rfl ⟨4, .data⟩ (by simp [u6o5]) rfl)
    obtain rfl : b6 = false := by
      cases b6 with
      | false => rfl
      | true => exact Bool.noConfusion (show false = true from hC 6 u6o6 rfl rfl ⟨5, .guard⟩ (by simp [u6o6]) rfl)
    obtain rfl : b7 = false := by
      cases b7 with
      | false => rfl
      | true => exact Bool.noConfusion (show false = true from hC 7 u6o7 rfl rfl ⟨5, .guard⟩ (by simp [u6o7]) rfl)
    obtain rfl : b8 = false := by
      cases b8 with
      | false => rfl
      | true => exact Bool.noConfusion (show false = true from hC 8 u6o8 rfl rfl ⟨5, .guard⟩ (by simp [u6o8]) rfl)
    obtain rfl : b9 = false := by
      cases b9 with
      | false => rfl
      | true => exact Bool.noConfusion (show false = true from hC 9 u6o9 rfl rfl ⟨5, .chain⟩ (by simp [u6o9]) rfl)
    obtain rfl : b10 = false := by
      cases b10 with
      | false => rfl
      | true => exact Bool.noConfusion (show false = true from hC 10 u6o10 rfl rfl ⟨9, .guard⟩ (by simp [u6o10]) rfl)
    obtain rfl : b11 = false := by
      cases b11 with
      | false => rfl
      | true => exact Bool.noConfusion (show false = true from hC 11 u6o11 rfl rfl ⟨9, .guard⟩ (by simp [u6o11]) rfl)
    obtain rfl : b12 = false := by
      cases b12 with
      | false => rfl
      | true => exact Bool.noConfusion (show false = true from hC 12 u6o12 rfl rfl ⟨9, .guard⟩ (by simp [u6o12]) rfl)
    obtain rfl : b13 = false := by
      cases b13 with
      | false => rfl
      | true => exact Bool.noConfusion (show false = true from hC 13 u6o13 rfl rfl ⟨5, .guard⟩ (by simp [u6o13]) rfl)
    obtain rfl : b14 = false := by
      cases b14 with
      | false => rfl
      | true => exact Bool.noConfusion (show false = true from hC 14 u6o14 rfl rfl ⟨5, .data⟩ (by simp [u6o14]) rfl)
    exact u6_s0 w0 X5 X6 X9 a b u s0 s1 s2 s3 s4 s7 s8 s10 s11 s12 s13 s14 s15 s16 s17 s18 s19 s20 s21 s22 s23 s24 s25 s26 s27 s28 s29 s30 s31 s32 s33 s34 s35 s36 s37 s38 s39 s40 s41 s42 s43 s44 s45 s46 s47 s48 s49 s50 s51 s52 s53 s54 s55 s56 s57 s58 s59 s60 s61 s62 s63 s64 s65 s66 s67 s68 s69 s70 s71 s72 s73 s74 s75 b1 b2 b3 dm w hB hrX5 hrX6 hrX9 hkS he1 he2
  · obtain rfl : u6o1 = o := Option.some.inj ho
    obtain rfl : b1 = false := h0
    obtain rfl : b3 = false := by
      cases b3 with
      | false => rfl
      | true => exact Bool.noConfusion (show false = true from hC 3 u6o3 rfl rfl ⟨1, .data⟩ (by simp [u6o3]) rfl)
    obtain rfl : b4 = false := by
      cases b4 with
      | false => rfl
      | true => exact Bool.noConfusion (show false = true from hC 4 u6o4 rfl rfl ⟨3, .data⟩ (by simp [u6o4]) rfl)
    obtain rfl : b5 = false := by
      cases b5 with
      | false => rfl
      | true => exact Bool.noConfusion (show false = true from hC 5 u6o5 rfl rfl ⟨3, .chain⟩ (by simp [u6o5]) rfl)
    obtain rfl : b6 = false := by
      cases b6 with
      | false => rfl
      | true => exact Bool.noConfusion (show false = true from hC 6 u6o6 rfl rfl ⟨5, .guard⟩ (by simp [u6o6]) rfl)
    obtain rfl : b7 = false := by
      cases b7 with
      | false => rfl
      | true => exact Bool.noConfusion (show false = true from hC 7 u6o7 rfl rfl ⟨5, .guard⟩ (by simp [u6o7]) rfl)
    obtain rfl : b8 = false := by
      cases b8 with
      | false => rfl
      | true => exact Bool.noConfusion (show false = true from hC 8 u6o8 rfl rfl ⟨5, .guard⟩ (by simp [u6o8]) rfl)
    obtain rfl : b9 = false := by
      cases b9 with
      | false => rfl
      | true => exact Bool.noConfusion (show false = true from hC 9 u6o9 rfl rfl ⟨5, .chain⟩ (by simp [u6o9]) rfl)
    obtain rfl : b10 = false := by
      cases b10 with
      | false => rfl
      | true => exact Bool.noConfusion (show false = true from hC 10 u6o10 rfl rfl ⟨9, .guard⟩ (by simp [u6o10]) rfl)
    obtain rfl : b11 = false := by
      cases b11 with
      | false => rfl
      | true => exact Bool.noConfusion (show false = true from hC 11 u6o11 rfl rfl ⟨9, .guard⟩ (by simp [u6o11]) rfl)
    obtain rfl : b12 = false := by
      cases b12 with
      | false => rfl
      | true => exact Bool.noConfusion (show false = true from hC 12 u6o12 rfl rfl ⟨9, .guard⟩ (by simp [u6o12]) rfl)
    obtain rfl : b13 = false := by
      cases b13 with
      | false => rfl
      | true => exact Bool.noConfusion (show false = true from hC 13 u6o13 rfl rfl ⟨5, .guard⟩ (by simp [u6o13]) rfl)
    obtain rfl : b14 = false := by
      cases b14 with
      | false => rfl
      | true => exact Bool.noConfusion (show false = true from hC 14 u6o14 rfl rfl ⟨5, .data⟩ (by simp [u6o14]) rfl)
    exact u6_s1 w0 X5 X6 X9 a b u s0 s1 s2 s3 s4 s7 s8 s10 s11 s12 s13 s14 s15 s16 s17 s18 s19 s20 s21 s22 s23 s24 s25 s26 s27 s28 s29 s30 s31 s32 s33 s34 s35 s36 s37 s38 s39 s40 s41 s42 s43 s44 s45 s46 s47 s48 s49 s50 s51 s52 s53 s54 s55 s56 s57 s58 s59 s60 s61 s62 s63 s64 s65 s66 s67 s68 s69 s70 s71 s72 s73 s74 s75 b0 b2 dm w hB hrX5 hrX6 hrX9 hkS he1 he2
  · obtain rfl : u6o2 = o := Option.some.inj ho
    obtain rfl : b2 = false := h0
    obtain rfl : b3 = false := by
      cases b3 with
      | false => rfl
      | true => exact Bool.noConfusion (show false = true from hC 3 u6o3 rfl rfl ⟨2, .data⟩ (by simp [u6o3]) rfl)
    obtain rfl : b4 = false := by
      cases b4 with
      | false => rfl
      | true => exact Bool.noConfusion (show false = true from hC 4 u6o4 rfl rfl ⟨3, .data⟩ (by simp [u6o4]) rfl)
    obtain rfl : b5 = false := by
      cases b5 with
      | false => rfl
      | true => exact Bool.noConfusion (show false = true from hC 5 u6o5 rfl rfl ⟨3, .chain⟩ (by simp [u6o5]) rfl)
    obtain rfl : b6 = false := by
      cases b6 with
      | false => rfl
      | true => exact Bool.noConfusion (show false = true from hC 6 u6o6 rfl rfl ⟨5, .guard⟩ (by simp [u6o6]) rfl)
    obtain rfl : b7 = false := by
      cases b7 with
      | false => rfl
      | true => exact Bool.noConfusion (show false = true from hC 7 u6o7 rfl rfl ⟨5, .guard⟩ (by simp [u6o7]) rfl)
    obtain rfl : b8 = false := by
      cases b8 with
      | false => rfl
      | true => exact Bool.noConfusion (show false = true from hC 8 u6o8 rfl rfl ⟨5, .guard⟩ (by simp [u6o8]) rfl)
    obtain rfl : b9 = false := by
      cases b9 with
      | false => rfl
      | true => exact Bool.noConfusion (show false = true from hC 9 u6o9 rfl rfl ⟨5, .chain⟩ (by simp [u6o9]) rfl)
    obtain rfl : b10 = false := by
      cases b10 with
      | false => rfl
      | true => exact Bool.noConfusion (show false = true from hC 10 u6o10 rfl rfl ⟨9, .guard⟩ (by simp [u6o10]) rfl)
    obtain rfl : b11 = false := by
      cases b11 with
      | false => rfl
      | true => exact Bool.noConfusion (show false = true from hC 11 u6o11 rfl rfl ⟨9, .guard⟩ (by simp [u6o11]) rfl)
    obtain rfl : b12 = false := by
      cases b12 with
      | false => rfl
      | true => exact Bool.noConfusion (show false = true from hC 12 u6o12 rfl rfl ⟨9, .guard⟩ (by simp [u6o12]) rfl)
    obtain rfl : b13 = false := by
      cases b13 with
      | false => rfl
      | true => exact Bool.noConfusion (show false = true from hC 13 u6o13 rfl rfl ⟨5, .guard⟩ (by simp [u6o13]) rfl)
    obtain rfl : b14 = false := by
      cases b14 with
      | false => rfl
      | true => exact Bool.noConfusion (show false = true from hC 14 u6o14 rfl rfl ⟨5, .data⟩ (by simp [u6o14]) rfl)
    exact u6_s2 w0 X5 X6 X9 a b u s0 s1 s2 s3 s4 s7 s8 s10 s11 s12 s13 s14 s15 s16 s17 s18 s19 s20 s21 s22 s23 s24 s25 s26 s27 s28 s29 s30 s31 s32 s33 s34 s35 s36 s37 s38 s39 s40 s41 s42 s43 s44 s45 s46 s47 s48 s49 s50 s51 s52 s53 s54 s55 s56 s57 s58 s59 s60 s61 s62 s63 s64 s65 s66 s67 s68 s69 s70 s71 s72 s73 s74 s75 b0 b1 dm w hB hrX5 hrX6 hrX9 hkS he1 he2
  · obtain rfl : u6o3 = o := Option.some.inj ho
    obtain rfl : b3 = false := h0
    obtain rfl : b2 = true := h1 ⟨2, .data⟩ (by simp [u6o3]) rfl
    obtain rfl : b1 = true := h1 ⟨1, .data⟩ (by simp [u6o3]) rfl
    obtain rfl : b4 = false := by
      cases b4 with
      | false => rfl
      | true => exact Bool.noConfusion (show false = true from hC 4 u6o4 rfl rfl ⟨3, .data⟩ (by simp [u6o4]) rfl)
    obtain rfl : b5 = false := by
      cases b5 with
      | false => rfl
      | true => exact Bool.noConfusion (show false = true from hC 5 u6o5 rfl rfl ⟨3, .chain⟩ (by simp [u6o5]) rfl)
    obtain rfl : b6 = false := by
      cases b6 with
      | false => rfl
      | true => exact Bool.noConfusion (show false = true from hC 6 u6o6 rfl rfl ⟨5, .guard⟩ (by simp [u6o6]) rfl)
    obtain rfl : b7 = false := by
      cases b7 with
      | false => rfl
      | true => exact Bool.noConfusion (show false = true from hC 7 u6o7 rfl rfl ⟨5, .guard⟩ (by simp [u6o7]) rfl)
    obtain rfl : b8 = false := by
      cases b8 with
      | false => rfl
      | true => exact Bool.noConfusion (show false = true from hC 8 u6o8 rfl rfl ⟨5, .guard⟩ (by simp [u6o8]) rfl)
    obtain rfl : b9 = false := by
      cases b9 with
      | false => rfl
      | true => exact Bool.noConfusion (show false = true from hC 9 u6o9 rfl rfl ⟨5, .chain⟩ (by simp [u6o9]) rfl)
    obtain rfl : b10 = false := by
      cases b10 with
      | false => rfl
      | true => exact Bool.noConfusion (show false = true from hC 10 u6o10 rfl rfl ⟨9, .guard⟩ (by simp [u6o10]) rfl)
    obtain rfl : b11 = false := by
      cases b11 with
      | false => rfl
      | true => exact Bool.noConfusion (show false = true from hC 11 u6o11 rfl rfl ⟨9, .guard⟩ (by simp [u6o11]) rfl)
    obtain rfl : b12 = false := by
      cases b12 with
      | false => rfl
      | true => exact Bool.noConfusion (show false = true from hC 12 u6o12 rfl rfl ⟨9, .guard⟩ (by simp [u6o12]) rfl)
    obtain rfl : b13 = false := by
      cases b13 with
      | false => rfl
      | true => exact Bool.noConfusion (show false = true from hC 13 u6o13 rfl rfl ⟨5, .guard⟩ (by simp [u6o13]) rfl)
    obtain rfl : b14 = false := by
      cases b14 with
      | false => rfl
      | true => exact Bool.noConfusion (show false = true from hC 14 u6o14 rfl rfl ⟨5, .data⟩ (by simp [u6o14]) rfl)
    exact u6_s3 w0 X5 X6 X9 a b u s0 s1 s2 s3 s4 s7 s8 s10 s11 s12 s13 s14 s15 s16 s17 s18 s19 s20 s21 s22 s23 s24 s25 s26 s27 s28 s29 s30 s31 s32 s33 s34 s35 s36 s37 s38 s39 s40 s41 s42 s43 s44 s45 s46 s47 s48 s49 s50 s51 s52 s53 s54 s55 s56 s57 s58 s59 s60 s61 s62 s63 s64 s65 s66 s67 s68 s69 s70 s71 s72 s73 s74 s75 b0 dm w hB hrX5 hrX6 hrX9 hkS he1 he2
  · obtain rfl : u6o4 = o := Option.some.inj ho
    obtain rfl : b4 = false := h0
    obtain rfl : b3 = true := h1 ⟨3, .data⟩ (by simp [u6o4]) rfl
    obtain rfl : b0 = true := h1 ⟨0, .data⟩ (by simp [u6o4]) rfl
    obtain rfl : b1 = true := hC 3 u6o3 rfl rfl ⟨1, .data⟩ (by simp [u6o3]) rfl
    obtain rfl : b2 = true := hC 3 u6o3 rfl rfl ⟨2, .data⟩ (by simp [u6o3]) rfl
    obtain rfl : b5 = false := by
      cases b5 with
      | false => rfl
      | true => exact Bool.noConfusion (show false = true from hC 5 u6o5 rfl rfl ⟨4, .data⟩ (by simp [u6o5]) rfl)
    obtain rfl : b6 = false := by
      cases b6 with
      | false => rfl
      | true => exact Bool.noConfusion (show false = true from hC 6 u6o6 rfl rfl ⟨5, .guard⟩ (by simp [u6o6]) rfl)
    obtain rfl : b7 = false := by
      cases b7 with
      | false => rfl
      | true => exact Bool.noConfusion (show false = true from hC 7 u6o7 rfl rfl ⟨5, .guard⟩ (by simp [u6o7]) rfl)
    obtain rfl : b8 = false := by
      cases b8 with
      | false => rfl
      | true => exact Bool.noConfusion (show false = true from hC 8 u6o8 rfl rfl ⟨5, .guard⟩ (by simp [u6o8]) rfl)
    obtain rfl : b9 = false := by
      cases b9 with
      | false => rfl
      | true => exact Bool.noConfusion (show false = true from hC 9 u6o9 rfl rfl ⟨5, .chain⟩ (by simp [u6o9]) rfl)
    obtain rfl : b10 = false := by
      cases b10 with
      | false => rfl
      | true => exact Bool.noConfusion (show false = true from hC 10 u6o10 rfl rfl ⟨9, .guard⟩ (by simp [u6o10]) rfl)
    obtain rfl : b11 = false := by
      cases b11 with
      | false => rfl
      | true => exact Bool.noConfusion (show false = true from hC 11 u6o11 rfl rfl ⟨9, .guard⟩ (by simp [u6o11]) rfl)
    obtain rfl : b12 = false := by
      cases b12 with
      | false => rfl
      | true => exact Bool.noConfusion (show false = true from hC 12 u6o12 rfl rfl ⟨9, .guard⟩ (by simp [u6o12]) rfl)
    obtain rfl : b13 = false := by
      cases b13 with
      | false => rfl
      | true => exact Bool.noConfusion (show false = true from hC 13 u6o13 rfl rfl ⟨5, .guard⟩ (by simp [u6o13]) rfl)
    obtain rfl : b14 = false := by
      cases b14 with
      | false => rfl
      | true => exact Bool.noConfusion (show false = true from hC 14 u6o14 rfl rfl ⟨5, .data⟩ (by simp [u6o14]) rfl)
    exact u6_s4 w0 X5 X6 X9 a b u s0 s1 s2 s3 s4 s7 s8 s10 s11 s12 s13 s14 s15 s16 s17 s18 s19 s20 s21 s22 s23 s24 s25 s26 s27 s28 s29 s30 s31 s32 s33 s34 s35 s36 s37 s38 s39 s40 s41 s42 s43 s44 s45 s46 s47 s48 s49 s50 s51 s52 s53 s54 s55 s56 s57 s58 s59 s60 s61 s62 s63 s64 s65 s66 s67 s68 s69 s70 s71 s72 s73 s74 s75  dm w hB hrX5 hrX6 hrX9 hkS he1 he2
  · obtain rfl : u6o5 = o := Option.some.inj ho
    obtain rfl : b5 = false := h0
    obtain rfl : b4 = true := h1 ⟨4, .data⟩ (by simp [u6o5]) rfl
    obtain rfl : b3 = true := h1 ⟨3, .chain⟩ (by simp [u6o5]) rfl
    obtain rfl : b0 = true := hC 4 u6o4 rfl rfl ⟨0, .data⟩ (by simp [u6o4]) rfl
    obtain rfl : b1 = true := hC 3 u6o3 rfl rfl ⟨1, .data⟩ (by simp [u6o3]) rfl
    obtain rfl : b2 = true := hC 3 u6o3 rfl rfl ⟨2, .data⟩ (by simp [u6o3]) rfl
    obtain rfl : b6 = false := by
      cases b6 with
      | false => rfl
      | true => exact Bool.noConfusion (show false = true from hC 6 u6o6 rfl rfl ⟨5, .guard⟩ (by simp [u6o6]) rfl)
    obtain rfl : b7 = false := by
      cases b7 with
      | false => rfl
      | true => exact Bool.noConfusion (show false = true from hC 7 u6o7 rfl rfl ⟨5, .guard⟩ (by simp [u6o7]) rfl)
    obtain rfl : b8 = false := by
      cases b8 with
      | false => rfl
      | true => exact Bool.noConfusion (show false = true from hC 8 u6o8 rfl rfl ⟨5, .guard⟩ (by simp [u6o8]) rfl)
    obtain rfl : b9 = false := by
      cases b9 with
      | false => rfl
      | true => exact Bool.noConfusion (show false = true from hC 9 u6o9 rfl rfl ⟨5, .chain⟩ (by simp [u6o9]) rfl)
    obtain rfl : b10 = false := by
      cases b10 with
      | false => rfl
      | true => exact Bool.noConfusion (show false = true from hC 10 u6o10 rfl rfl ⟨9, .guard⟩ (by simp [u6o10]) rfl)
    obtain rfl : b11 = false := by
      cases b11 with
      | false => rfl
      | true => exact Bool.noConfusion (show false = true from hC 11 u6o11 rfl rfl ⟨9, .guard⟩ (by simp [u6o11]) rfl)
    obtain rfl : b12 = false := by
      cases b12 with
      | false => rfl
      | true => exact Bool.noConfusion (show false = true from hC 12 u6o12 rfl rfl ⟨9, .guard⟩ (by simp [u6o12]) rfl)
    obtain rfl : b13 = false := by
      cases b13 with
      | false => rfl
      | true => exact Bool.noConfusion (show false = true from hC 13 u6o13 rfl rfl ⟨5, .guard⟩ (by simp [u6o13]) rfl)
    obtain rfl : b14 = false := by
      cases b14 with
      | false => rfl
      | true => exact Bool.noConfusion (show false = true from hC 14 u6o14 rfl rfl ⟨5, .data⟩ (by simp [u6o14]) rfl)
    exact u6_s5 w0 X5 X6 X9 a b u s0 s1 s2 s3 s4 s7 s8 s10 s11 s12 s13 s14 s15 s16 s17 s18 s19 s20 s21 s22 s23 s24 s25 s26 s27 s28 s29 s30 s31 s32 s33 s34 s35 s36 s37 s38 s39 s40 s41 s42 s43 s44 s45 s46 s47 s48 s49 s50 s51 s52 s53 s54 s55 s56 s57 s58 s59 s60 s61 s62 s63 s64 s65 s66 s67 s68 s69 s70 s71 s72 s73 s74 s75  dm w hB hrX5 hrX6 hrX9 hkS he1 he2
  · obtain rfl : u6o6 = o := Option.some.inj ho
    obtain rfl : b6 = false := h0
    obtain rfl : b5 = true := h1 ⟨5, .guard⟩ (by simp [u6o6]) rfl
    obtain rfl : b3 = true := hC 5 u6o5 rfl rfl ⟨3, .chain⟩ (by simp [u6o5]) rfl
    obtain rfl : b4 = true := hC 5 u6o5 rfl rfl ⟨4, .data⟩ (by simp [u6o5]) rfl
    obtain rfl : b0 = true := hC 4 u6o4 rfl rfl ⟨0, .data⟩ (by simp [u6o4]) rfl
    obtain rfl : b1 = true := hC 3 u6o3 rfl rfl ⟨1, .data⟩ (by simp [u6o3]) rfl
    obtain rfl : b2 = true := hC 3 u6o3 rfl rfl ⟨2, .data⟩ (by simp [u6o3]) rfl
    obtain rfl : b8 = false := by
      cases b8 with
      | false => rfl
      | true => exact Bool.noConfusion (show false = true from hC 8 u6o8 rfl rfl ⟨6, .data⟩ (by simp [u6o8]) rfl)
    obtain rfl : b9 = false := by
      cases b9 with
      | false => rfl
      | true => exact Bool.noConfusion (show false = true from hC 9 u6o9 rfl rfl ⟨8, .data⟩ (by simp [u6o9]) rfl)
    obtain rfl : b10 = false := by
      cases b10 with
      | false => rfl
      | true => exact Bool.noConfusion (show false = true from hC 10 u6o10 rfl rfl ⟨9, .guard⟩ (by simp [u6o10]) rfl)
    obtain rfl : b11 = false := by
      cases b11 with
      | false => rfl
      | true => exact Bool.noConfusion (show false = true from hC 11 u6o11 rfl rfl ⟨9, .guard⟩ (by simp [u6o11]) rfl)
    obtain rfl : b12 = false := by
      cases b12 with
      | false => rfl
      | true => exact Bool.noConfusion (show false = true from hC 12 u6o12 rfl rfl ⟨9, .guard⟩ (by simp [u6o12]) rfl)
    obtain rfl : b13 = false := by
      cases b13 with
      | false => rfl
      | true => exact Bool.noConfusion (show false = true from hC 13 u6o13 rfl rfl ⟨9, .data⟩ (by simp [u6o13]) rfl)
    obtain rfl : b14 = false := by
      cases b14 with
      | false => rfl
      | true => exact Bool.noConfusion (show false = true from hC 14 u6o14 rfl rfl ⟨13, .data⟩ (by simp [u6o14]) rfl)
    exact u6_s6 w0 X5 X6 X9 a b u s0 s1 s2 s3 s4 s7 s8 s10 s11 s12 s13 s14 s15 s16 s17 s18 s19 s20 s21 s22 s23 s24 s25 s26 s27 s28 s29 s30 s31 s32 s33 s34 s35 s36 s37 s38 s39 s40 s41 s42 s43 s44 s45 s46 s47 s48 s49 s50 s51 s52 s53 s54 s55 s56 s57 s58 s59 s60 s61 s62 s63 s64 s65 s66 s67 s68 s69 s70 s71 s72 s73 s74 s75 b7 dm w hB hrX5 hrX6 hrX9 hkS he1 he2
  · obtain rfl : u6o7 = o := Option.some.inj ho
    obtain rfl : b7 = false := h0
    obtain rfl : b5 = true := h1 ⟨5, .guard⟩ (by simp [u6o7]) rfl
    obtain rfl : b3 = true := hC 5 u6o5 rfl rfl ⟨3, .chain⟩ (by simp [u6o5]) rfl
    obtain rfl : b4 = true := hC 5 u6o5 rfl rfl ⟨4, .data⟩ (by simp [u6o5]) rfl
    obtain rfl : b0 = true := hC 4 u6o4 rfl rfl ⟨0, .data⟩ (by simp [u6o4]) rfl
    obtain rfl : b1 = true := hC 3 u6o3 rfl rfl ⟨1, .data⟩ (by simp [u6o3]) rfl
    obtain rfl : b2 = true := hC 3 u6o3 rfl rfl ⟨2, .data⟩ (by simp [u6o3]) rfl
    obtain rfl : b8 = false := by
      cases b8 with
      | false => rfl
      | true => exact Bool.noConfusion (show false = true from hC 8 u6o8 rfl rfl ⟨7, .data⟩ (by simp [u6o8]) rfl)
    obtain rfl : b9 = false := by
      cases b9 with
      | false => rfl
      | true => exact Bool.noConfusion (show false = true from hC 9 u6o9 rfl rfl ⟨8, .data⟩ (by simp [u6o9]) rfl)
    obtain rfl : b10 = false := by
      cases b10 with
      | false => rfl
      | true => exact Bool.noConfusion (show false = true from hC 10 u6o10 rfl rfl ⟨9, .guard⟩ (by simp [u6o10]) rfl)
    obtain rfl : b11 = false := by
      cases b11 with
      | false => rfl
      | true => exact Bool.noConfusion (show false = true from hC 11 u6o11 rfl rfl ⟨9, .guard⟩ (by simp [u6o11]) rfl)
    obtain rfl : b12 = false := by
      cases b12 with
      | false => rfl
      | true => exact Bool.noConfusion (show false = true from hC 12 u6o12 rfl rfl ⟨9, .guard⟩ (by simp [u6o12]) rfl)
    obtain rfl : b13 = false := by
      cases b13 with
      | false => rfl
      | true => exact Bool.noConfusion (show false = true from hC 13 u6o13 rfl rfl ⟨9, .data⟩ (by simp [u6o13]) rfl)
    obtain rfl : b14 = false := by
      cases b14 with
      | false => rfl
      | true => exact Bool.noConfusion (show false = true from hC 14 u6o14 rfl rfl ⟨13, .data⟩ (by simp [u6o14]) rfl)
    exact u6_s7 w0 X5 X6 X9 a b u s0 s1 s2 s3 s4 s7 s8 s10 s11 s12 s13 s14 s15 s16 s17 s18 s19 s20 s21 s22 s23 s24 s25 s26 s27 s28 s29 s30 s31 s32 s33 s34 s35 s36 s37 s38 s39 s40 s41 s42 s43 s44 s45 s46 s47 s48 s49 s50 s51 s52 s53 s54 s55 s56 s57 s58 s59 s60 s61 s62 s63 s64 s65 s66 s67 s68 s69 s70 s71 s72 s73 s74 s75 b6 dm w hB hrX5 hrX6 hrX9 hkS he1 he2
  · obtain rfl : u6o8 = o := Option.some.inj ho
    obtain rfl : b8 = false := h0
    obtain rfl : b7 = true := h1 ⟨7, .data⟩ (by simp [u6o8]) rfl
    obtain rfl : b6 = true := h1 ⟨6, .data⟩ (by simp [u6o8]) rfl
    obtain rfl : b5 = true := h1 ⟨5, .guard⟩ (by simp [u6o8]) rfl
    obtain rfl : b3 = true := hC 5 u6o5 rfl rfl ⟨3, .chain⟩ (by simp [u6o5]) rfl
    obtain rfl : b4 = true := hC 5 u6o5 rfl rfl ⟨4, .data⟩ (by simp [u6o5]) rfl
    obtain rfl : b0 = true := hC 4 u6o4 rfl rfl ⟨0, .data⟩ (by simp [u6o4]) rfl
    obtain rfl : b1 = true := hC 3 u6o3 rfl rfl ⟨1, .data⟩ (by simp [u6o3]) rfl
    obtain rfl : b2 = true := hC 3 u6o3 rfl rfl ⟨2, .data⟩ (by simp [u6o3]) rfl
    obtain rfl : b9 = false := by
      cases b9 with
      | false => rfl
      | true => exact Bool.noConfusion (show false = true from hC 9 u6o9 rfl rfl ⟨8, .data⟩ (by simp [u6o9]) rfl)
    obtain rfl : b10 = false := by
      cases b10 with
      | false => rfl
      | true => exact Bool.noConfusion (show false = true from hC 10 u6o10 rfl rfl ⟨9, .guard⟩ (by simp [u6o10]) rfl)
    obtain rfl : b11 = false := by
      cases b11 with
      | false => rfl
      | true => exact Bool.noConfusion (show false = true from hC 11 u6o11 rfl rfl ⟨9, .guard⟩ (by simp [u6o11]) rfl)
    obtain rfl : b12 = false := by
      cases b12 with
      | false => rfl
      | true => exact Bool.noConfusion (show false = true from hC 12 u6o12 rfl rfl ⟨9, .guard⟩ (by simp [u6o12]) rfl)
    obtain rfl : b13 = false := by
      cases b13 with
      | false => rfl
      | true => exact Bool.noConfusion (show false = true from hC 13 u6o13 rfl rfl ⟨9, .data⟩ (by simp [u6o13]) rfl)
    obtain rfl : b14 = false := by
      cases b14 with
      | false => rfl
      | true => exact Bool.noConfusion (show false = true from hC 14 u6o14 rfl rfl ⟨13, .data⟩ (by simp [u6o14]) rfl)
    exact u6_s8 w0 X5 X6 X9 a b u s0 s1 s2 s3 s4 s7 s8 s10 s11 s12 s13 s14 s15 s16 s17 s18 s19 s20 s21 s22 s23 s24 s25 s26 s27 s28 s29 s30 s31 s32 s33 s34 s35 s36 s37 s38 s39 s40 s41 s42 s43 s44 s45 s46 s47 s48 s49 s50 s51 s52 s53 s54 s55 s56 s57 s58 s59 s60 s61 s62 s63 s64 s65 s66 s67 s68 s69 s70 s71 s72 s73 s74 s75  dm w hB hrX5 hrX6 hrX9 hkS he1 he2
  · obtain rfl : u6o9 = o := Option.some.inj ho
    obtain rfl : b9 = false := h0
    obtain rfl : b8 = true := h1 ⟨8, .data⟩ (by simp [u6o9]) rfl
    obtain rfl : b5 = true := h1 ⟨5, .chain⟩ (by simp [u6o9]) rfl
    obtain rfl : b6 = true := hC 8 u6o8 rfl rfl ⟨6, .data⟩ (by simp [u6o8]) rfl
    obtain rfl : b7 = true := hC 8 u6o8 rfl rfl ⟨7, .data⟩ (by simp [u6o8]) rfl
    obtain rfl : b3 = true := hC 5 u6o5 rfl rfl ⟨3, .chain⟩ (by simp [u6o5]) rfl
    obtain rfl : b4 = true := hC 5 u6o5 rfl rfl ⟨4, .data⟩ (by simp [u6o5]) rfl
    obtain rfl : b0 = true := hC 4 u6o4 rfl rfl ⟨0, .data⟩ (by simp [u6o4]) rfl
    obtain rfl : b1 = true := hC 3 u6o3 rfl rfl ⟨1, .data⟩ (by simp [u6o3]) rfl
    obtain rfl : b2 = true := hC 3 u6o3 rfl rfl ⟨2, .data⟩ (by simp [u6o3]) rfl
    obtain rfl : b10 = false := by
      cases b10 with
      | false => rfl
      | true => exact Bool.noConfusion (show false = true from hC 10 u6o10 rfl rfl ⟨9, .guard⟩ (by simp [u6o10]) rfl)
    obtain rfl : b11 = false := by
      cases b11 with
      | false => rfl
      | true => exact Bool.noConfusion (show false = true from hC 11 u6o11 rfl rfl ⟨9, .guard⟩ (by simp [u6o11]) rfl)
    obtain rfl : b12 = false := by
      cases b12 with
      | false => rfl
      | true => exact Bool.noConfusion (show false = true from hC 12 u6o12 rfl rfl ⟨9, .guard⟩ (by simp [u6o12]) rfl)
    obtain rfl : b13 = false := by
      cases b13 with
      | false => rfl
      | true => exact Bool.noConfusion (show false = true from hC 13 u6o13 rfl rfl ⟨9, .data⟩ (by simp [u6o13]) rfl)
    obtain rfl : b14 = false := by
      cases b14 with
      | false => rfl
      | true => exact Bool.noConfusion (show false = true from hC 14 u6o14 rfl rfl ⟨13, .data⟩ (by simp [u6o14]) rfl)
    exact u6_s9 w0 X5 X6 X9 a b u s0 s1 s2 s3 s4 s7 s8 s10 s11 s12 s13 s14 s15 s16 s17 s18 s19 s20 s21 s22 s23 s24 s25 s26 s27 s28 s29 s30 s31 s32 s33 s34 s35 s36 s37 s38 s39 s40 s41 s42 s43 s44 s45 s46 s47 s48 s49 s50 s51 s52 s53 s54 s55 s56 s57 s58 s59 s60 s61 s62 s63 s64 s65 s66 s67 s68 s69 s70 s71 s72 s73 s74 s75  dm w hB hrX5 hrX6 hrX9 hkS he1 he2
  · obtain rfl : u6o10 = o := Option.some.inj ho
    obtain rfl : b10 = false := h0
    obtain rfl : b9 = true := h1 ⟨9, .guard⟩ (by simp [u6o10]) rfl
    obtain rfl : b5 = true := hC 9 u6o9 rfl rfl ⟨5, .chain⟩ (by simp [u6o9]) rfl
    obtain rfl : b8 = true := hC 9 u6o9 rfl rfl ⟨8, .data⟩ (by simp [u6o9]) rfl
    obtain rfl : b6 = true := hC 8 u6o8 rfl rfl ⟨6, .data⟩ (by simp [u6o8]) rfl
    obtain rfl : b7 = true := hC 8 u6o8 rfl rfl ⟨7, .data⟩ (by simp [u6o8]) rfl
    obtain rfl : b3 = true := hC 5 u6o5 rfl rfl ⟨3, .chain⟩ (by simp [u6o5]) rfl
    obtain rfl : b4 = true := hC 5 u6o5 rfl rfl ⟨4, .data⟩ (by simp [u6o5]) rfl
    obtain rfl : b0 = true := hC 4 u6o4 rfl rfl ⟨0, .data⟩ (by simp [u6o4]) rfl
    obtain rfl : b1 = true := hC 3 u6o3 rfl rfl ⟨1, .data⟩ (by simp [u6o3]) rfl
    obtain rfl : b2 = true := hC 3 u6o3 rfl rfl ⟨2, .data⟩ (by simp [u6o3]) rfl
    obtain rfl : b12 = false := by
      cases b12 with
      | false => rfl
      | true => exact Bool.noConfusion (show false = true from hC 12 u6o12 rfl rfl ⟨10, .data⟩ (by simp [u6o12]) rfl)
    obtain rfl : b13 = false := by
      cases b13 with
      | false => rfl
      | true => exact Bool.noConfusion (show false = true from hC 13 u6o13 rfl rfl ⟨12, .data⟩ (by simp [u6o13]) rfl)
    obtain rfl : b14 = false := by
      cases b14 with
      | false => rfl
      | true => exact Bool.noConfusion (show false = true from hC 14 u6o14 rfl rfl ⟨13, .data⟩ (by simp [u6o14]) rfl)
    exact u6_s10 w0 X5 X6 X9 a b u s0 s1 s2 s3 s4 s7 s8 s10 s11 s12 s13 s14 s15 s16 s17 s18 s19 s20 s21 s22 s23 s24 s25 s26 s27 s28 s29 s30 s31 s32 s33 s34 s35 s36 s37 s38 s39 s40 s41 s42 s43 s44 s45 s46 s47 s48 s49 s50 s51 s52 s53 s54 s55 s56 s57 s58 s59 s60 s61 s62 s63 s64 s65 s66 s67 s68 s69 s70 s71 s72 s73 s74 s75 b11 dm w hB hrX5 hrX6 hrX9 hkS he1 he2
  · obtain rfl : u6o11 = o := Option.some.inj ho
    obtain rfl : b11 = false := h0
    obtain rfl : b9 = true := h1 ⟨9, .guard⟩ (by simp [u6o11]) rfl
    obtain rfl : b5 = true := hC 9 u6o9 rfl rfl ⟨5, .chain⟩ (by simp [u6o9]) rfl
    obtain rfl : b8 = true := hC 9 u6o9 rfl rfl ⟨8, .data⟩ (by simp [u6o9]) rfl
    obtain rfl : b6 = true := hC 8 u6o8 rfl rfl ⟨6, .data⟩ (by simp [u6o8]) rfl
    obtain rfl : b7 = true := hC 8 u6o8 rfl rfl ⟨7, .data⟩ (by simp [u6o8]) rfl
    obtain rfl : b3 = true := hC 5 u6o5 rfl rfl ⟨3, .chain⟩ (by simp [u6o5]) rfl
    obtain rfl : b4 = true := hC 5 u6o5 rfl rfl ⟨4, .data⟩ (by simp [u6o5]) rfl
    obtain rfl : b0 = true := hC 4 u6o4 rfl rfl ⟨0, .data⟩ (by simp [u6o4]) rfl
    obtain rfl : b1 = true := hC 3 u6o3 rfl rfl ⟨1, .data⟩ (by simp [u6o3]) rfl
    obtain rfl : b2 = true := hC 3 u6o3 rfl rfl ⟨2, .data⟩ (by simp [u6o3]) rfl
    obtain rfl : b12 = false := by
      cases b12 with
      | false => rfl
      | true => exact Bool.noConfusion (show false = true from hC 12 u6o12 rfl rfl ⟨11, .data⟩ (by simp [u6o12]) rfl)
    obtain rfl : b13 = false := by
      cases b13 with
      | false => rfl
      | true => exact Bool.noConfusion (show false = true from hC 13 u6o13 rfl rfl ⟨12, .data⟩ (by simp [u6o13]) rfl)
    obtain rfl : b14 = false := by
      cases b14 with
      | false => rfl
      | true => exact Bool.noConfusion (show false = true from hC 14 u6o14 rfl rfl ⟨13, .data⟩ (by simp [u6o14]) rfl)
    exact u6_s11 w0 X5 X6 X9 a b u s0 s1 s2 s3 s4 s7 s8 s10 s11 s12 s13 s14 s15 s16 s17 s18 s19 s20 s21 s22 s23 s24 s25 s26 s27 s28 s29 s30 s31 s32 s33 s34 s35 s36 s37 s38 s39 s40 s41 s42 s43 s44 s45 s46 s47 s48 s49 s50 s51 s52 s53 s54 s55 s56 s57 s58 s59 s60 s61 s62 s63 s64 s65 s66 s67 s68 s69 s70 s71 s72 s73 s74 s75 b10 dm w hB hrX5 hrX6 hrX9 hkS he1 he2
  · obtain rfl : u6o12 = o := Option.some.inj ho
    obtain rfl : b12 = false := h0
    obtain rfl : b11 = true := h1 ⟨11, .data⟩ (by simp [u6o12]) rfl
    obtain rfl : b10 = true := h1 ⟨10, .data⟩ (by simp [u6o12]) rfl
    obtain rfl : b9 = true := h1 ⟨9, .guard⟩ (by simp [u6o12]) rfl
    obtain rfl : b5 = true := hC 9 u6o9 rfl rfl ⟨5, .chain⟩ (by simp [u6o9]) rfl
    obtain rfl : b8 = true := hC 9 u6o9 rfl rfl ⟨8, .data⟩ (by simp [u6o9]) rfl
    obtain rfl : b6 = true := hC 8 u6o8 rfl rfl ⟨6, .data⟩ (by simp [u6o8]) rfl
    obtain rfl : b7 = true := hC 8 u6o8 rfl rfl ⟨7, .data⟩ (by simp [u6o8]) rfl
    obtain rfl : b3 = true := hC 5 u6o5 rfl rfl ⟨3, .chain⟩ (by simp [u6o5]) rfl
    obtain rfl : b4 = true := hC 5 u6o5 rfl rfl ⟨4, .data⟩ (by simp [u6o5]) rfl
    obtain rfl : b0 = true := hC 4 u6o4 rfl rfl ⟨0, .data⟩ (by simp [u6o4]) rfl
    obtain rfl : b1 = true := hC 3 u6o3 rfl rfl ⟨1, .data⟩ (by simp [u6o3]) rfl
    obtain rfl : b2 = true := hC 3 u6o3 rfl rfl ⟨2, .data⟩ (by simp [u6o3]) rfl
    obtain rfl : b13 = false := by
      cases b13 with
      | false => rfl
      | true => exact Bool.noConfusion (show false = true from hC 13 u6o13 rfl rfl ⟨12, .data⟩ (by simp [u6o13]) rfl)
    obtain rfl : b14 = false := by
      cases b14 with
      | false => rfl
      | true => exact Bool.noConfusion (show false = true from hC 14 u6o14 rfl rfl ⟨13, .data⟩ (by simp [u6o14]) rfl)
    exact u6_s12 w0 X5 X6 X9 a b u s0 s1 s2 s3 s4 s7 s8 s10 s11 s12 s13 s14 s15 s16 s17 s18 s19 s20 s21 s22 s23 s24 s25 s26 s27 s28 s29 s30 s31 s32 s33 s34 s35 s36 s37 s38 s39 s40 s41 s42 s43 s44 s45 s46 s47 s48 s49 s50 s51 s52 s53 s54 s55 s56 s57 s58 s59 s60 s61 s62 s63 s64 s65 s66 s67 s68 s69 s70 s71 s72 s73 s74 s75  dm w hB hrX5 hrX6 hrX9 hkS he1 he2
  · obtain rfl : u6o13 = o := Option.some.inj ho
    obtain rfl : b13 = false := h0
    obtain rfl : b12 = true := h1 ⟨12, .data⟩ (by simp [u6o13]) rfl
    obtain rfl : b9 = true := h1 ⟨9, .data⟩ (by simp [u6o13]) rfl
    obtain rfl : b5 = true := h1 ⟨5, .guard⟩ (by simp [u6o13]) rfl
    obtain rfl : b10 = true := hC 12 u6o12 rfl rfl ⟨10, .data⟩ (by simp [u6o12]) rfl
    obtain rfl : b11 = true := hC 12 u6o12 rfl rfl ⟨11, .data⟩ (by simp [u6o12]) rfl
    obtain rfl : b8 = true := hC 9 u6o9 rfl rfl ⟨8, .data⟩ (by simp [u6o9]) rfl
    obtain rfl : b6 = true := hC 8 u6o8 rfl rfl ⟨6, .data⟩ (by simp [u6o8]) rfl
    obtain rfl : b7 = true := hC 8 u6o8 rfl rfl ⟨7, .data⟩ (by simp [u6o8]) rfl
    obtain rfl : b3 = true := hC 5 u6o5 rfl rfl ⟨3, .chain⟩ (by simp [u6o5]) rfl
    obtain rfl : b4 = true := hC 5 u6o5 rfl rfl ⟨4, .data⟩ (by simp [u6o5]) rfl
    obtain rfl : b0 = true := hC 4 u6o4 rfl rfl ⟨0, .data⟩ (by simp [u6o4]) rfl
    obtain rfl : b1 = true := hC 3 u6o3 rfl rfl ⟨1, .data⟩ (by simp [u6o3]) rfl
    obtain rfl : b2 = true := hC 3 u6o3 rfl rfl ⟨2, .data⟩ (by simp [u6o3]) rfl
    obtain rfl : b14 = false := by
      cases b14 with
      | false => rfl
      | true => exact Bool.noConfusion (show false = true from hC 14 u6o14 rfl rfl ⟨13, .data⟩ (by simp [u6o14]) rfl)
    exact u6_s13 w0 X5 X6 X9 a b u s0 s1 s2 s3 s4 s7 s8 s10 s11 s12 s13 s14 s15 s16 s17 s18 s19 s20 s21 s22 s23 s24 s25 s26 s27 s28 s29 s30 s31 s32 s33 s34 s35 s36 s37 s38 s39 s40 s41 s42 s43 s44 s45 s46 s47 s48 s49 s50 s51 s52 s53 s54 s55 s56 s57 s58 s59 s60 s61 s62 s63 s64 s65 s66 s67 s68 s69 s70 s71 s72 s73 s74 s75  dm w hB hrX5 hrX6 hrX9 hkS he1 he2
  · obtain rfl : u6o14 = o := Option.some.inj ho
    obtain rfl : b14 = false := h0
    obtain rfl : b13 = true := h1 ⟨13, .data⟩ (by simp [u6o14]) rfl
    obtain rfl : b5 = true := h1 ⟨5, .data⟩ (by simp [u6o14]) rfl
    obtain rfl : b9 = true := hC 13 u6o13 rfl rfl ⟨9, .data⟩ (by simp [u6o13]) rfl
    obtain rfl : b12 = true := hC 13 u6o13 rfl rfl ⟨12, .data⟩ (by simp [u6o13]) rfl
    obtain rfl : b10 = true := hC 12 u6o12 rfl rfl ⟨10, .data⟩ (by simp [u6o12]) rfl
    obtain rfl : b11 = true := hC 12 u6o12 rfl rfl ⟨11, .data⟩ (by simp [u6o12]) rfl
    obtain rfl : b8 = true := hC 9 u6o9 rfl rfl ⟨8, .data⟩ (by simp [u6o9]) rfl
    obtain rfl : b6 = true := hC 8 u6o8 rfl rfl ⟨6, .data⟩ (by simp [u6o8]) rfl
    obtain rfl : b7 = true := hC 8 u6o8 rfl rfl ⟨7, .data⟩ (by simp [u6o8]) rfl
    obtain rfl : b3 = true := hC 5 u6o5 rfl rfl ⟨3, .chain⟩ (by simp [u6o5]) rfl
    obtain rfl : b4 = true := hC 5 u6o5 rfl rfl ⟨4, .data⟩ (by simp [u6o5]) rfl
    obtain rfl : b0 = true := hC 4 u6o4 rfl rfl ⟨0, .data⟩ (by simp [u6o4]) rfl
    obtain rfl : b1 = true := hC 3 u6o3 rfl rfl ⟨1, .data⟩ (by simp [u6o3]) rfl
    obtain rfl : b2 = true := hC 3 u6o3 rfl rfl ⟨2, .data⟩ (by simp [u6o3]) rfl
    exact u6_s14 w0 X5 X6 X9 a b u s0 s1 s2 s3 s4 s7 s8 s10 s11 s12 s13 s14 s15 s16 s17 s18 s19 s20 s21 s22 s23 s24 s25 s26 s27 s28 s29 s30 s31 s32 s33 s34 s35 s36 s37 s38 s39 s40 s41 s42 s43 s44 s45 s46 s47 s48 s49 s50 s51 s52 s53 s54 s55 s56 s57 s58 s59 s60 s61 s62 s63 s64 s65 s66 s67 s68 s69 s70 s71 s72 s73 s74 s75  dm w hB hrX5 hrX6 hrX9 hkS he1 he2
set_option maxRecDepth 20000 in
set_option maxHeartbeats 4000000 in
theorem u6_wp {Q : Exit → Act → World → Prop} {rid : Nat} (w0 : World) (X5 X6 X9 : Nat) (a b u : Se) {s0 s1 s2 s3 s4 s7 s8 s10 s11 s12 s13 s14 s15 s16 s17 s18 s19 s20 s21 s22 s23 s24 s25 s26 s27 s28 s29 s30 s31 s32 s33 s34 s35 s36 s37 s38 s39 s40 s41 s42 s43 s44 s45 s46 s47 s48 s49 s50 s51 s52 s53 s54 s55 s56 s57 s58 s59 s60 s61 s62 s63 s64 s65 s66 s67 s68 s69 s70 s71 s72 s73 s74 s75 : Value} (w : World) (hB : Below w0.heap.size w0 w) (hrX5 : RowAt w X5 24 #[.string a.k, .int .i64 a.t, .int .i64 a.s, .bool a.g, .string a.d]) (hrX6 : RowAt w X6 24 #[.string b.k, .int .i64 b.t, .int .i64 b.s, .bool b.g, .string b.d]) (hrX9 : RowAt w X9 24 #[.string u.k, .int .i64 u.t, .int .i64 u.s, .bool u.g, .string u.d]) (hkS : ∀ wx, Below w0.heap.size w0 wx → Calls Try.prog 7 #[.agg #[.string a.k, .int .i64 a.t, .int .i64 a.s, .bool a.g, .string a.d], .agg #[.string b.k, .int .i64 b.t, .int .i64 b.s, .bool b.g, .string b.d]] wx fun e w' => e = .returned (.agg #[.string u.k, .int .i64 u.t, .int .i64 u.s, .bool u.g, .string u.d]) ∧ Below wx.heap.size wx w') (he1 : seEq u.k u.t u.s u.g u.d u.k u.t u.s u.g u.d = true) (he2 : seEq u.k u.t u.s u.g u.d a.k a.t a.s a.g a.d = true)
    (fin : ∀ (dm : Nat) (w' : World), (Below w0.heap.size w0 w') → (RowAt w' X5 24 #[.string a.k, .int .i64 a.t, .int .i64 a.s, .bool a.g, .string a.d]) → (RowAt w' X6 24 #[.string b.k, .int .i64 b.t, .int .i64 b.s, .bool b.g, .string b.d]) → (RowAt w' X9 24 #[.string u.k, .int .i64 u.t, .int .i64 u.s, .bool u.g, .string u.d]) → (∀ wx, Below w0.heap.size w0 wx → Calls Try.prog 7 #[.agg #[.string a.k, .int .i64 a.t, .int .i64 a.s, .bool a.g, .string a.d], .agg #[.string b.k, .int .i64 b.t, .int .i64 b.s, .bool b.g, .string b.d]] wx fun e w' => e = .returned (.agg #[.string u.k, .int .i64 u.t, .int .i64 u.s, .bool u.g, .string u.d]) ∧ Below wx.heap.size wx w') → (seEq u.k u.t u.s u.g u.d u.k u.t u.s u.g u.d = true) → (seEq u.k u.t u.s u.g u.d a.k a.t a.s a.g a.d = true) → Q .normal { tmps := #[s0, s1, s2, s3, s4, .pointer (some ⟨X5, 0, none⟩), .pointer (some ⟨X6, 0, none⟩), s7, s8, .pointer (some ⟨X9, 0, none⟩), s10, s11, s12, s13, s14, s15, s16, s17, s18, s19, s20, s21, s22, s23, s24, s25, s26, s27, s28, s29, s30, .agg #[.string u.k, .int .i64 u.t, .int .i64 u.s, .bool u.g, .string u.d], .agg #[.string a.k, .int .i64 a.t, .int .i64 a.s, .bool a.g, .string a.d], .agg #[.string b.k, .int .i64 b.t, .int .i64 b.s, .bool b.g, .string b.d], .agg #[.string u.k, .int .i64 u.t, .int .i64 u.s, .bool u.g, .string u.d], .bool false, .bool false, .agg #[.string u.k, .int .i64 u.t, .int .i64 u.s, .bool u.g, .string u.d], .agg #[.string a.k, .int .i64 a.t, .int .i64 a.s, .bool a.g, .string a.d], .bool false, .bool false, undef, undef, undef, .bool false, .bool false, s46, s47, s48, s49, s50, s51, s52, s53, s54, s55, s56, s57, s58, s59, s60, s61, s62, s63, s64, s65, s66, s67, s68, s69, s70, s71, s72, s73, s74, s75], defers := [] } w') :
    (Code.region rid u6O true).wp Try.prog Q { tmps := #[s0, s1, s2, s3, s4, .pointer (some ⟨X5, 0, none⟩), .pointer (some ⟨X6, 0, none⟩), s7, s8, .pointer (some ⟨X9, 0, none⟩), s10, s11, s12, s13, s14, s15, s16, s17, s18, s19, s20, s21, s22, s23, s24, s25, s26, s27, s28, s29, s30, s31, s32, s33, s34, s35, s36, s37, s38, s39, s40, s41, s42, s43, s44, s45, s46, s47, s48, s49, s50, s51, s52, s53, s54, s55, s56, s57, s58, s59, s60, s61, s62, s63, s64, s65, s66, s67, s68, s69, s70, s71, s72, s73, s74, s75], defers := [] } w := by
  refine wp_region_inv (ops := u6O) (u6I w0 X5 X6 X9 a b u s0 s1 s2 s3 s4 s7 s8 s10 s11 s12 s13 s14 s15 s16 s17 s18 s19 s20 s21 s22 s23 s24 s25 s26 s27 s28 s29 s30 s31 s32 s33 s34 s35 s36 s37 s38 s39 s40 s41 s42 s43 s44 s45 s46 s47 s48 s49 s50 s51 s52 s53 s54 s55 s56 s57 s58 s59 s60 s61 s62 s63 s64 s65 s66 s67 s68 s69 s70 s71 s72 s73 s74 s75) (by kernel_rfl) (by kernel_rfl) (fun l f v hI => ?_) (fun l f v hC hI i h0 o ho h1 => u6_step w0 X5 X6 X9 a b u s0 s1 s2 s3 s4 s7 s8 s10 s11 s12 s13 s14 s15 s16 s17 s18 s19 s20 s21 s22 s23 s24 s25 s26 s27 s28 s29 s30 s31 s32 s33 s34 s35 s36 s37 s38 s39 s40 s41 s42 s43 s44 s45 s46 s47 s48 s49 s50 s51 s52 s53 s54 s55 s56 s57 s58 s59 s60 s61 s62 s63 s64 s65 s66 s67 s68 s69 s70 s71 s72 s73 s74 s75 l f v hC hI i h0 o ho h1) (fun l f v hI hall => ?_) ?_
  · obtain ⟨_, _, _, _, _, _, _, _, _, _, _, _, _, _, _, _, rfl, _⟩ := hI; rfl
  · obtain ⟨b0, b1, b2, b3, b4, b5, b6, b7, b8, b9, b10, b11, b12, b13, b14, dm, rfl, rfl, hB, hrX5, hrX6, hrX9, hkS, he1, he2⟩ := hI
    obtain rfl : b0 = true := hall 0 (by simp)
    obtain rfl : b1 = true := hall 1 (by simp)
    obtain rfl : b2 = true := hall 2 (by simp)
    obtain rfl : b3 = true := hall 3 (by simp)
    obtain rfl : b4 = true := hall 4 (by simp)
    obtain rfl : b5 = true := hall 5 (by simp)
    obtain rfl : b6 = true := hall 6 (by simp)
    obtain rfl : b7 = true := hall 7 (by simp)
    obtain rfl : b8 = true := hall 8 (by simp)
    obtain rfl : b9 = true := hall 9 (by simp)
    obtain rfl : b10 = true := hall 10 (by simp)
    obtain rfl : b11 = true := hall 11 (by simp)
    obtain rfl : b12 = true := hall 12 (by simp)
    obtain rfl : b13 = true := hall 13 (by simp)
    obtain rfl : b14 = true := hall 14 (by simp)
    exact fin dm v hB hrX5 hrX6 hrX9 hkS he1 he2
  · exact ⟨false, false, false, false, false, false, false, false, false, false, false, false, false, false, false, 0, rfl, rfl, hB.drew, hrX5.drew, hrX6.drew, hrX9.drew, hkS, he1, he2⟩
def v6o0 : Oper := { dst := some 31, op := Op.load 24 (Operand.tmp 9), type := 24, pos := "laws.go:1121", after := #[], guard := none }
def v6o1 : Oper := { dst := some 32, op := Op.load 24 (Operand.tmp 5), type := 24, pos := "laws.go:1121", after := #[], guard := none }
def v6o2 : Oper := { dst := some 33, op := Op.load 24 (Operand.tmp 6), type := 24, pos := "laws.go:1121", after := #[], guard := none }
def v6o3 : Oper := { dst := some 34, op := Op.call { callee := Callee.value (Operand.func 7), args := #[Operand.tmp 32, Operand.tmp 33], argTypes := #[24, 24] }, type := 24, pos := "laws.go:1121", after := #[{ on := 1, ground := Ground.data }, { on := 2, ground := Ground.data }], guard := none }
def v6o4 : Oper := { dst := some 35, op := Op.binOp BinOp.neq 24 (Operand.tmp 31) (Operand.tmp 34) 24, type := 4, pos := "laws.go:1121", after := #[{ on := 0, ground := Ground.data }, { on := 3, ground := Ground.data }], guard := none }
def v6o5 : Oper := { dst := some 36, op := Op.move (Operand.tmp 35), type := 4, pos := "laws.go:1121", after := #[{ on := 4, ground := Ground.data }, { on := 3, ground := Ground.chain }], guard := none }
def v6o6 : Oper := { dst := some 37, op := Op.load 24 (Operand.tmp 9), type := 24, pos := "laws.go:1121", after := #[{ on := 5, ground := Ground.guard }], guard := some (5, false) }
def v6o7 : Oper := { dst := some 38, op := Op.load 24 (Operand.tmp 5), type := 24, pos := "laws.go:1121", after := #[{ on := 5, ground := Ground.guard }], guard := some (5, false) }
def v6o8 : Oper := { dst := some 39, op := Op.binOp BinOp.neq 24 (Operand.tmp 37) (Operand.tmp 38) 24, type := 4, pos := "laws.go:1121", after := #[{ on := 6, ground := Ground.data }, { on := 7, ground := Ground.data }, { on := 5, ground := Ground.guard }], guard := some (5, false) }
def v6o9 : Oper := { dst := some 40, op := Op.move (Operand.tmp 39), type := 4, pos := "laws.go:1121", after := #[{ on := 8, ground := Ground.data }, { on := 5, ground := Ground.chain }, { on := 5, ground := Ground.guard }], guard := some (5, false) }
def v6o10 : Oper := { dst := some 41, op := Op.load 24 (Operand.tmp 9), type := 24, pos := "laws.go:1121", after := #[{ on := 9, ground := Ground.guard }], guard := some (9, true) }
def v6o11 : Oper := { dst := some 42, op := Op.load 24 (Operand.tmp 6), type := 24, pos := "laws.go:1121", after := #[{ on := 9, ground := Ground.guard }], guard := some (9, true) }
def v6o12 : Oper := { dst := some 43, op := Op.binOp BinOp.neq 24 (Operand.tmp 41) (Operand.tmp 42) 24, type := 4, pos := "laws.go:1121", after := #[{ on := 10, ground := Ground.data }, { on := 11, ground := Ground.data }, { on := 9, ground := Ground.guard }], guard := some (9, true) }
def v6o13 : Oper := { dst := some 44, op := Op.pick (Operand.tmp 40) (Operand.tmp 43) (Operand.const (Value.bool false)), type := 4, pos := "laws.go:1121", after := #[{ on := 9, ground := Ground.data }, { on := 12, ground := Ground.data }, { on := 5, ground := Ground.guard }], guard := some (5, false) }
def v6o14 : Oper := { dst := some 45, op := Op.pick (Operand.tmp 36) (Operand.const (Value.bool true)) (Operand.tmp 44), type := 4, pos := "laws.go:1121", after := #[{ on := 5, ground := Ground.data }, { on := 13, ground := Ground.data }], guard := none }
def v6O : Array Oper := #[v6o0, v6o1, v6o2, v6o3, v6o4, v6o5, v6o6, v6o7, v6o8, v6o9, v6o10, v6o11, v6o12, v6o13, v6o14]
def v6I (w0 : World) (X5 X6 X9 : Nat) (a b u : Se) (s0 s1 s2 s3 s4 s7 s8 s10 s11 s12 s13 s14 s15 s16 s17 s18 s19 s20 s21 s22 s23 s24 s25 s26 s27 s28 s29 s30 s31 s32 s33 s34 s35 s36 s37 s38 s39 s40 s41 s42 s43 s44 s45 s46 s47 s48 s49 s50 s51 s52 s53 s54 s55 s56 s57 s58 s59 s60 s61 s62 s63 s64 s65 s66 s67 s68 s69 s70 s71 s72 s73 s74 s75 : Value) (l : Array Bool) (f : Act) (w : World) : Prop :=
  ∃ (b0 b1 b2 b3 b4 b5 b6 b7 b8 b9 b10 b11 b12 b13 b14 : Bool) (dm : Nat), l = #[b0, b1, b2, b3, b4, b5, b6, b7, b8, b9, b10, b11, b12, b13, b14] ∧ f = { tmps := #[s0, s1, s2, s3, s4, .pointer (some ⟨X5, 0, none⟩), .pointer (some ⟨X6, 0, none⟩), s7, s8, .pointer (some ⟨X9, 0, none⟩), s10, s11, s12, s13, s14, s15, s16, s17, s18, s19, s20, s21, s22, s23, s24, s25, s26, s27, s28, s29, s30, selS b0 (.agg #[.string u.k, .int .i64 u.t, .int .i64 u.s, .bool u.g, .string u.d]) (s31), selS b1 (.agg #[.string a.k, .int .i64 a.t, .int .i64 a.s, .bool a.g, .string a.d]) (s32), selS b2 (.agg #[.string b.k, .int .i64 b.t, .int .i64 b.s, .bool b.g, .string b.d]) (s33), selS b3 (.agg #[.string u.k, .int .i64 u.t, .int .i64 u.s, .bool u.g, .string u.d]) (s34), selS b4 (.bool false) (s35), selS b5 (.bool false) (s36), selS b6 (.agg #[.string u.k, .int .i64 u.t, .int .i64 u.s, .bool u.g, .string u.d]) (s37), selS b7 (.agg #[.string a.k, .int .i64 a.t, .int .i64 a.s, .bool a.g, .string a.d]) (s38), selS b8 (.bool true) (s39), selS b9 (.bool true) (s40), selS b10 (.agg #[.string u.k, .int .i64 u.t, .int .i64 u.s, .bool u.g, .string u.d]) (s41), selS b11 (.agg #[.string b.k, .int .i64 b.t, .int .i64 b.s, .bool b.g, .string b.d]) (s42), selS b12 (.bool false) (s43), selS b13 (.bool false) (s44), selS b14 (.bool false) (s45), s46, s47, s48, s49, s50, s51, s52, s53, s54, s55, s56, s57, s58, s59, s60, s61, s62, s63, s64, s65, s66, s67, s68, s69, s70, s71, s72, s73, s74, s75], defers := [] } ∧ (Below w0.heap.size w0 w) ∧ (RowAt w X5 24 #[.string a.k, .int .i64 a.t, .int .i64 a.s, .bool a.g, .string a.d]) ∧ (RowAt w X6 24 #[.string b.k, .int .i64 b.t, .int .i64 b.s, .bool b.g, .string b.d]) ∧ (RowAt w X9 24 #[.string u.k, .int .i64 u.t, .int .i64 u.s, .bool u.g, .string u.d]) ∧ (∀ wx, Below w0.heap.size w0 wx → Calls Try.prog 7 #[.agg #[.string a.k, .int .i64 a.t, .int .i64 a.s, .bool a.g, .string a.d], .agg #[.string b.k, .int .i64 b.t, .int .i64 b.s, .bool b.g, .string b.d]] wx fun e w' => e = .returned (.agg #[.string u.k, .int .i64 u.t, .int .i64 u.s, .bool u.g, .string u.d]) ∧ Below wx.heap.size wx w') ∧ (seEq u.k u.t u.s u.g u.d u.k u.t u.s u.g u.d = true) ∧ (seEq u.k u.t u.s u.g u.d a.k a.t a.s a.g a.d = false) ∧ (seEq u.k u.t u.s u.g u.d b.k b.t b.s b.g b.d = true)
set_option maxRecDepth 20000 in
set_option maxHeartbeats 1000000 in
theorem v6_s0 {Q : Exit → Act → World → Prop} (w0 : World) (X5 X6 X9 : Nat) (a b u : Se) (s0 s1 s2 s3 s4 s7 s8 s10 s11 s12 s13 s14 s15 s16 s17 s18 s19 s20 s21 s22 s23 s24 s25 s26 s27 s28 s29 s30 s31 s32 s33 s34 s35 s36 s37 s38 s39 s40 s41 s42 s43 s44 s45 s46 s47 s48 s49 s50 s51 s52 s53 s54 s55 s56 s57 s58 s59 s60 s61 s62 s63 s64 s65 s66 s67 s68 s69 s70 s71 s72 s73 s74 s75 : Value) (b1 b2 b3 : Bool) (dm : Nat) (w : World) (hB : Below w0.heap.size w0 w) (hrX5 : RowAt w X5 24 #[.string a.k, .int .i64 a.t, .int .i64 a.s, .bool a.g, .string a.d]) (hrX6 : RowAt w X6 24 #[.string b.k, .int .i64 b.t, .int .i64 b.s, .bool b.g, .string b.d]) (hrX9 : RowAt w X9 24 #[.string u.k, .int .i64 u.t, .int .i64 u.s, .bool u.g, .string u.d]) (hkS : ∀ wx, Below w0.heap.size w0 wx → Calls Try.prog 7 #[.agg #[.string a.k, .int .i64 a.t, .int .i64 a.s, .bool a.g, .string a.d], .agg #[.string b.k, .int .i64 b.t, .int .i64 b.s, .bool b.g, .string b.d]] wx fun e w' => e = .returned (.agg #[.string u.k, .int .i64 u.t, .int .i64 u.s, .bool u.g, .string u.d]) ∧ Below wx.heap.size wx w') (he1 : seEq u.k u.t u.s u.g u.d u.k u.t u.s u.g u.d = true) (he2 : seEq u.k u.t u.s u.g u.d a.k a.t a.s a.g a.d = false) (he3 : seEq u.k u.t u.s u.g u.d b.k b.t b.s b.g b.d = true) :
    wpOp Try.prog v6O Q 0 (v6I w0 X5 X6 X9 a b u s0 s1 s2 s3 s4 s7 s8 s10 s11 s12 s13 s14 s15 s16 s17 s18 s19 s20 s21 s22 s23 s24 s25 s26 s27 s28 s29 s30 s31 s32 s33 s34 s35 s36 s37 s38 s39 s40 s41 s42 s43 s44 s45 s46 s47 s48 s49 s50 s51 s52 s53 s54 s55 s56 s57 s58 s59 s60 s61 s62 s63 s64 s65 s66 s67 s68 s69 s70 s71 s72 s73 s74 s75 #[true, b1, b2, b3, false, false, false, false, false, false, false, false, false, false, false]) { tmps := #[s0, s1, s2, s3, s4, .pointer (some ⟨X5, 0, none⟩), .pointer (some ⟨X6, 0, none⟩), s7, s8, .pointer (some ⟨X9, 0, none⟩), s10, s11, s12, s13, s14, s15, s16, s17, s18, s19, s20, s21, s22, s23, s24, s25, s26, s27, s28, s29, s30, s31, selS b1 (.agg #[.string a.k, .int .i64 a.t, .int .i64 a.s, .bool a.g, .string a.d]) (s32), selS b2 (.agg #[.string b.k, .int .i64 b.t, .int .i64 b.s, .bool b.g, .string b.d]) (s33), selS b3 (.agg #[.string u.k, .int .i64 u.t, .int .i64 u.s, .bool u.g, .string u.d]) (s34), s35, s36, s37, s38, s39, s40, s41, s42, s43, s44, s45, s46, s47, s48, s49, s50, s51, s52, s53, s54, s55, s56, s57, s58, s59, s60, s61, s62, s63, s64, s65, s66, s67, s68, s69, s70, s71, s72, s73, s74, s75], defers := [] } w := by
  have q0 := hrX9.cell 0
  have q1 := hrX9.cell 1
  have q2 := hrX9.cell 2
  have q3 := hrX9.cell 3
  have q4 := hrX9.cell 4
  refine wpOp_step (o := { dst := some 31, op := Op.load 24 (Operand.tmp 9), type := 24, pos := "laws.go:1121", after := #[], guard := none }) rfl (fun K hK => ?_)
  replace hK := hid hK
  go_simp
  exact hK.out _ _ ⟨true, b1, b2, b3, false, false, false, false, false, false, false, false, false, false, false, dm, rfl, rfl, hB, hrX5, hrX6, hrX9, hkS, he1, he2, he3⟩
set_option maxRecDepth 20000 in
set_option maxHeartbeats 1000000 in
theorem v6_s1 {Q : Exit → Act → World → Prop} (w0 : World) (X5 X6 X9 : Nat) (a b u : Se) (s0 s1 s2 s3 s4 s7 s8 s10 s11 s12 s13 s14 s15 s16 s17 s18 s19 s20 s21 s22 s23 s24 s25 s26 s27 s28 s29 s30 s31 s32 s33 s34 s35 s36 s37 s38 s39 s40 s41 s42 s43 s44 s45 s46 s47 s48 s49 s50 s51 s52 s53 s54 s55 s56 s57 s58 s59 s60 s61 s62 s63 s64 s65 s66 s67 s68 s69 s70 s71 s72 s73 s74 s75 : Value) (b0 b2 : Bool) (dm : Nat) (w : World) (hB : Below w0.heap.size w0 w) (hrX5 : RowAt w X5 24 #[.string a.k, .int .i64 a.t, .int .i64 a.s, .bool a.g, .string a.d]) (hrX6 : RowAt w X6 24 #[.string b.k, .int .i64 b.t, .int .i64 b.s, .bool b.g, .string b.d]) (hrX9 : RowAt w X9 24 #[.string u.k, .int .i64 u.t, .int .i64 u.s, .bool u.g, .string u.d]) (hkS : ∀ wx, Below w0.heap.size w0 wx → Calls Try.prog 7 #[.agg #[.string a.k, .int .i64 a.t, .int .i64 a.s, .bool a.g, .string a.d], .agg #[.string b.k, .int .i64 b.t, .int .i64 b.s, .bool b.g, .string b.d]] wx fun e w' => e = .returned (.agg #[.string u.k, .int .i64 u.t, .int .i64 u.s, .bool u.g, .string u.d]) ∧ Below wx.heap.size wx w') (he1 : seEq u.k u.t u.s u.g u.d u.k u.t u.s u.g u.d = true) (he2 : seEq u.k u.t u.s u.g u.d a.k a.t a.s a.g a.d = false) (he3 : seEq u.k u.t u.s u.g u.d b.k b.t b.s b.g b.d = true) :
    wpOp Try.prog v6O Q 1 (v6I w0 X5 X6 X9 a b u s0 s1 s2 s3 s4 s7 s8 s10 s11 s12 s13 s14 s15 s16 s17 s18 s19 s20 s21 s22 s23 s24 s25 s26 s27 s28 s29 s30 s31 s32 s33 s34 s35 s36 s37 s38 s39 s40 s41 s42 s43 s44 s45 s46 s47 s48 s49 s50 s51 s52 s53 s54 s55 s56 s57 s58 s59 s60 s61 s62 s63 s64 s65 s66 s67 s68 s69 s70 s71 s72 s73 s74 s75 #[b0, true, b2, false, false, false, false, false, false, false, false, false, false, false, false]) { tmps := #[s0, s1, s2, s3, s4, .pointer (some ⟨X5, 0, none⟩), .pointer (some ⟨X6, 0, none⟩), s7, s8, .pointer (some ⟨X9, 0, none⟩), s10, s11, s12, s13, s14, s15, s16, s17, s18, s19, s20, s21, s22, s23, s24, s25, s26, s27, s28, s29, s30, selS b0 (.agg #[.string u.k, .int .i64 u.t, .int .i64 u.s, .bool u.g, .string u.d]) (s31), s32, selS b2 (.agg #[.string b.k, .int .i64 b.t, .int .i64 b.s, .bool b.g, .string b.d]) (s33), s34, s35, s36, s37, s38, s39, s40, s41, s42, s43, s44, s45, s46, s47, s48, s49, s50, s51, s52, s53, s54, s55, s56, s57, s58, s59, s60, s61, s62, s63, s64, s65, s66, s67, s68, s69, s70, s71, s72, s73, s74, s75], defers := [] } w := by
  have q0 := hrX5.cell 0
  have q1 := hrX5.cell 1
  have q2 := hrX5.cell 2
  have q3 := hrX5.cell 3
  have q4 := hrX5.cell 4
  refine wpOp_step (o := { dst := some 32, op := Op.load 24 (Operand.tmp 5), type := 24, pos := "laws.go:1121", after := #[], guard := none }) rfl (fun K hK => ?_)
  replace hK := hid hK
  go_simp
  exact hK.out _ _ ⟨b0, true, b2, false, false, false, false, false, false, false, false, false, false, false, false, dm, rfl, rfl, hB, hrX5, hrX6, hrX9, hkS, he1, he2, he3⟩
set_option maxRecDepth 20000 in
set_option maxHeartbeats 1000000 in
theorem v6_s2 {Q : Exit → Act → World → Prop} (w0 : World) (X5 X6 X9 : Nat) (a b u : Se) (s0 s1 s2 s3 s4 s7 s8 s10 s11 s12 s13 s14 s15 s16 s17 s18 s19 s20 s21 s22 s23 s24 s25 s26 s27 s28 s29 s30 s31 s32 s33 s34 s35 s36 s37 s38 s39 s40 s41 s42 s43 s44 s45 s46 s47 s48 s49 s50 s51 s52 s53 s54 s55 s56 s57 s58 s59 s60 s61 s62 s63 s64 s65 s66 s67 s68 s69 s70 s71 s72 s73 s74 s75 : Value) (b0 b1 : Bool) (dm : Nat) (w : World) (hB : Below w0.heap.size w0 w) (hrX5 : RowAt w X5 24 #[.string a.k, .int .i64 a.t, .int .i64 a.s, .bool a.g, .string a.d]) (hrX6 : RowAt w X6 24 #[.string b.k, .int .i64 b.t, .int .i64 b.s, .bool b.g, .string b.d]) (hrX9 : RowAt w X9 24 #[.string u.k, .int .i64 u.t, .int .i64 u.s, .bool u.g, .string u.d]) (hkS : ∀ wx, Below w0.heap.size w0 wx → Calls Try.prog 7 #[.agg #[.string a.k, .int .i64 a.t, .int .i64 a.s, .bool a.g, .string a.d], .agg #[.string b.k, .int .i64 b.t, .int .i64 b.s, .bool b.g, .string b.d]] wx fun e w' => e = .returned (.agg #[.string u.k, .int .i64 u.t, .int .i64 u.s, .bool u.g, .string u.d]) ∧ Below wx.heap.size wx w') (he1 : seEq u.k u.t u.s u.g u.d u.k u.t u.s u.g u.d = true) (he2 : seEq u.k u.t u.s u.g u.d a.k a.t a.s a.g a.d = false) (he3 : seEq u.k u.t u.s u.g u.d b.k b.t b.s b.g b.d = true) :
    wpOp Try.prog v6O Q 2 (v6I w0 X5 X6 X9 a b u s0 s1 s2 s3 s4 s7 s8 s10 s11 s12 s13 s14 s15 s16 s17 s18 s19 s20 s21 s22 s23 s24 s25 s26 s27 s28 s29 s30 s31 s32 s33 s34 s35 s36 s37 s38 s39 s40 s41 s42 s43 s44 s45 s46 s47 s48 s49 s50 s51 s52 s53 s54 s55 s56 s57 s58 s59 s60 s61 s62 s63 s64 s65 s66 s67 s68 s69 s70 s71 s72 s73 s74 s75 #[b0, b1, true, false, false, false, false, false, false, false, false, false, false, false, false]) { tmps := #[s0, s1, s2, s3, s4, .pointer (some ⟨X5, 0, none⟩), .pointer (some ⟨X6, 0, none⟩), s7, s8, .pointer (some ⟨X9, 0, none⟩), s10, s11, s12, s13, s14, s15, s16, s17, s18, s19, s20, s21, s22, s23, s24, s25, s26, s27, s28, s29, s30, selS b0 (.agg #[.string u.k, .int .i64 u.t, .int .i64 u.s, .bool u.g, .string u.d]) (s31), selS b1 (.agg #[.string a.k, .int .i64 a.t, .int .i64 a.s, .bool a.g, .string a.d]) (s32), s33, s34, s35, s36, s37, s38, s39, s40, s41, s42, s43, s44, s45, s46, s47, s48, s49, s50, s51, s52, s53, s54, s55, s56, s57, s58, s59, s60, s61, s62, s63, s64, s65, s66, s67, s68, s69, s70, s71, s72, s73, s74, s75], defers := [] } w := by
  have q0 := hrX6.cell 0
  have q1 := hrX6.cell 1
  have q2 := hrX6.cell 2
  have q3 := hrX6.cell 3
  have q4 := hrX6.cell 4
  refine wpOp_step (o := { dst := some 33, op := Op.load 24 (Operand.tmp 6), type := 24, pos := "laws.go:1121", after := #[], guard := none }) rfl (fun K hK => ?_)
  replace hK := hid hK
  go_simp
  exact hK.out _ _ ⟨b0, b1, true, false, false, false, false, false, false, false, false, false, false, false, false, dm, rfl, rfl, hB, hrX5, hrX6, hrX9, hkS, he1, he2, he3⟩
set_option maxRecDepth 20000 in
set_option maxHeartbeats 1000000 in
theorem v6_s3 {Q : Exit → Act → World → Prop} (w0 : World) (X5 X6 X9 : Nat) (a b u : Se) (s0 s1 s2 s3 s4 s7 s8 s10 s11 s12 s13 s14 s15 s16 s17 s18 s19 s20 s21 s22 s23 s24 s25 s26 s27 s28 s29 s30 s31 s32 s33 s34 s35 s36 s37 s38 s39 s40 s41 s42 s43 s44 s45 s46 s47 s48 s49 s50 s51 s52 s53 s54 s55 s56 s57 s58 s59 s60 s61 s62 s63 s64 s65 s66 s67 s68 s69 s70 s71 s72 s73 s74 s75 : Value) (b0 : Bool) (dm : Nat) (w : World) (hB : Below w0.heap.size w0 w) (hrX5 : RowAt w X5 24 #[.string a.k, .int .i64 a.t, .int .i64 a.s, .bool a.g, .string a.d]) (hrX6 : RowAt w X6 24 #[.string b.k, .int .i64 b.t, .int .i64 b.s, .bool b.g, .string b.d]) (hrX9 : RowAt w X9 24 #[.string u.k, .int .i64 u.t, .int .i64 u.s, .bool u.g, .string u.d]) (hkS : ∀ wx, Below w0.heap.size w0 wx → Calls Try.prog 7 #[.agg #[.string a.k, .int .i64 a.t, .int .i64 a.s, .bool a.g, .string a.d], .agg #[.string b.k, .int .i64 b.t, .int .i64 b.s, .bool b.g, .string b.d]] wx fun e w' => e = .returned (.agg #[.string u.k, .int .i64 u.t, .int .i64 u.s, .bool u.g, .string u.d]) ∧ Below wx.heap.size wx w') (he1 : seEq u.k u.t u.s u.g u.d u.k u.t u.s u.g u.d = true) (he2 : seEq u.k u.t u.s u.g u.d a.k a.t a.s a.g a.d = false) (he3 : seEq u.k u.t u.s u.g u.d b.k b.t b.s b.g b.d = true) :
    wpOp Try.prog v6O Q 3 (v6I w0 X5 X6 X9 a b u s0 s1 s2 s3 s4 s7 s8 s10 s11 s12 s13 s14 s15 s16 s17 s18 s19 s20 s21 s22 s23 s24 s25 s26 s27 s28 s29 s30 s31 s32 s33 s34 s35 s36 s37 s38 s39 s40 s41 s42 s43 s44 s45 s46 s47 s48 s49 s50 s51 s52 s53 s54 s55 s56 s57 s58 s59 s60 s61 s62 s63 s64 s65 s66 s67 s68 s69 s70 s71 s72 s73 s74 s75 #[b0, true, true, true, false, false, false, false, false, false, false, false, false, false, false]) { tmps := #[s0, s1, s2, s3, s4, .pointer (some ⟨X5, 0, none⟩), .pointer (some ⟨X6, 0, none⟩), s7, s8, .pointer (some ⟨X9, 0, none⟩), s10, s11, s12, s13, s14, s15, s16, s17, s18, s19, s20, s21, s22, s23, s24, s25, s26, s27, s28, s29, s30, selS b0 (.agg #[.string u.k, .int .i64 u.t, .int .i64 u.s, .bool u.g, .string u.d]) (s31), .agg #[.string a.k, .int .i64 a.t, .int .i64 a.s, .bool a.g, .string a.d], .agg #[.string b.k, .int .i64 b.t, .int .i64 b.s, .bool b.g, .string b.d], s34, s35, s36, s37, s38, s39, s40, s41, s42, s43, s44, s45, s46, s47, s48, s49, s50, s51, s52, s53, s54, s55, s56, s57, s58, s59, s60, s61, s62, s63, s64, s65, s66, s67, s68, s69, s70, s71, s72, s73, s74, s75], defers := [] } w := by
  refine wpOp_step (o := { dst := some 34, op := Op.call { callee := Callee.value (Operand.func 7), args := #[Operand.tmp 32, Operand.tmp 33], argTypes := #[24, 24] }, type := 24, pos := "laws.go:1121", after := #[{ on := 1, ground := Ground.data }, { on := 2, ground := Ground.data }], guard := none }) rfl (fun K hK => ?_)
  replace hK := hid hK
  go_simp
  refine (hkS _ hB).mono ?_
  rintro e w2 ⟨rfl, hb2⟩
  dsimp only
  exact hK.out _ _ ⟨b0, true, true, true, false, false, false, false, false, false, false, false, false, false, false, dm, rfl, rfl, hB.trans (hb2.mono hB.size), RowAt.nxW hb2 hrX5, RowAt.nxW hb2 hrX6, RowAt.nxW hb2 hrX9, hkS, he1, he2, he3⟩
set_option maxRecDepth 20000 in
set_option maxHeartbeats 1000000 in
theorem v6_s4 {Q : Exit → Act → World → Prop} (w0 : World) (X5 X6 X9 : Nat) (a b u : Se) (s0 s1 s2 s3 s4 s7 s8 s10 s11 s12 s13 s14 s15 s16 s17 s18 s19 s20 s21 s22 s23 s24 s25 s26 s27 s28 s29 s30 s31 s32 s33 s34 s35 s36 s37 s38 s39 s40 s41 s42 s43 s44 s45 s46 s47 s48 s49 s50 s51 s52 s53 s54 s55 s56 s57 s58 s59 s60 s61 s62 s63 s64 s65 s66 s67 s68 s69 s70 s71 s72 s73 s74 s75 : Value) (dm : Nat) (w : World) (hB : Below w0.heap.size w0 w) (hrX5 : RowAt w X5 24 #[.string a.k, .int .i64 a.t, .int .i64 a.s, .bool a.g, .string a.d]) (hrX6 : RowAt w X6 24 #[.string b.k, .int .i64 b.t, .int .i64 b.s, .bool b.g, .string b.d]) (hrX9 : RowAt w X9 24 #[.string u.k, .int .i64 u.t, .int .i64 u.s, .bool u.g, .string u.d]) (hkS : ∀ wx, Below w0.heap.size w0 wx → Calls Try.prog 7 #[.agg #[.string a.k, .int .i64 a.t, .int .i64 a.s, .bool a.g, .string a.d], .agg #[.string b.k, .int .i64 b.t, .int .i64 b.s, .bool b.g, .string b.d]] wx fun e w' => e = .returned (.agg #[.string u.k, .int .i64 u.t, .int .i64 u.s, .bool u.g, .string u.d]) ∧ Below wx.heap.size wx w') (he1 : seEq u.k u.t u.s u.g u.d u.k u.t u.s u.g u.d = true) (he2 : seEq u.k u.t u.s u.g u.d a.k a.t a.s a.g a.d = false) (he3 : seEq u.k u.t u.s u.g u.d b.k b.t b.s b.g b.d = true) :
    wpOp Try.prog v6O Q 4 (v6I w0 X5 X6 X9 a b u s0 s1 s2 s3 s4 s7 s8 s10 s11 s12 s13 s14 s15 s16 s17 s18 s19 s20 s21 s22 s23 s24 s25 s26 s27 s28 s29 s30 s31 s32 s33 s34 s35 s36 s37 s38 s39 s40 s41 s42 s43 s44 s45 s46 s47 s48 s49 s50 s51 s52 s53 s54 s55 s56 s57 s58 s59 s60 s61 s62 s63 s64 s65 s66 s67 s68 s69 s70 s71 s72 s73 s74 s75 #[true, true, true, true, true, false, false, false, false, false, false, false, false, false, false]) { tmps := #[s0, s1, s2, s3, s4, .pointer (some ⟨X5, 0, none⟩), .pointer (some ⟨X6, 0, none⟩), s7, s8, .pointer (some ⟨X9, 0, none⟩), s10, s11, s12, s13, s14, s15, s16, s17, s18, s19, s20, s21, s22, s23, s24, s25, s26, s27, s28, s29, s30, .agg #[.string u.k, .int .i64 u.t, .int .i64 u.s, .bool u.g, .string u.d], .agg #[.string a.k, .int .i64 a.t, .int .i64 a.s, .bool a.g, .string a.d], .agg #[.string b.k, .int .i64 b.t, .int .i64 b.s, .bool b.g, .string b.d], .agg #[.string u.k, .int .i64 u.t, .int .i64 u.s, .bool u.g, .string u.d], s35, s36, s37, s38, s39, s40, s41, s42, s43, s44, s45, s46, s47, s48, s49, s50, s51, s52, s53, s54, s55, s56, s57, s58, s59, s60, s61, s62, s63, s64, s65, s66, s67, s68, s69, s70, s71, s72, s73, s74, s75], defers := [] } w := by
  refine wpOp_step (o := { dst := some 35, op := Op.binOp BinOp.neq 24 (Operand.tmp 31) (Operand.tmp 34) 24, type := 4, pos := "laws.go:1121", after := #[{ on := 0, ground := Ground.data }, { on := 3, ground := Ground.data }], guard := none }) rfl (fun K hK => ?_)
  replace hK := hid hK
  go_simp
  exact hK.out _ _ ⟨true, true, true, true, true, false, false, false, false, false, false, false, false, false, false, dm, rfl, rfl, hB, hrX5, hrX6, hrX9, hkS, he1, he2, he3⟩
set_option maxRecDepth 20000 in
set_option maxHeartbeats 1000000 in
theorem v6_s5 {Q : Exit → Act → World → Prop} (w0 : World) (X5 X6 X9 : Nat) (a b u : Se) (s0 s1 s2 s3 s4 s7 s8 s10 s11 s12 s13 s14 s15 s16 s17 s18 s19 s20 s21 s22 s23 s24 s25 s26 s27 s28 s29 s30 s31 s32 s33 s34 s35 s36 s37 s38 s39 s40 s41 s42 s43 s44 s45 s46 s47 s48 s49 s50 s51 s52 s53 s54 s55 s56 s57 s58 s59 s60 s61 s62 s63 s64 s65 s66 s67 s68 s69 s70 s71 s72 s73 s74 s75 : Value) (dm : Nat) (w : World) (hB : Below w0.heap.size w0 w) (hrX5 : RowAt w X5 24 #[.string a.k, .int .i64 a.t, .int .i64 a.s, .bool a.g, .string a.d]) (hrX6 : RowAt w X6 24 #[.string b.k, .int .i64 b.t, .int .i64 b.s, .bool b.g, .string b.d]) (hrX9 : RowAt w X9 24 #[.string u.k, .int .i64 u.t, .int .i64 u.s, .bool u.g, .string u.d]) (hkS : ∀ wx, Below w0.heap.size w0 wx → Calls Try.prog 7 #[.agg #[.string a.k, .int .i64 a.t, .int .i64 a.s, .bool a.g, .string a.d], .agg #[.string b.k, .int .i64 b.t, .int .i64 b.s, .bool b.g, .string b.d]] wx fun e w' => e = .returned (.agg #[.string u.k, .int .i64 u.t, .int .i64 u.s, .bool u.g, .string u.d]) ∧ Below wx.heap.size wx w') (he1 : seEq u.k u.t u.s u.g u.d u.k u.t u.s u.g u.d = true) (he2 : seEq u.k u.t u.s u.g u.d a.k a.t a.s a.g a.d = false) (he3 : seEq u.k u.t u.s u.g u.d b.k b.t b.s b.g b.d = true) :
    wpOp Try.prog v6O Q 5 (v6I w0 X5 X6 X9 a b u s0 s1 s2 s3 s4 s7 s8 s10 s11 s12 s13 s14 s15 s16 s17 s18 s19 s20 s21 s22 s23 s24 s25 s26 s27 s28 s29 s30 s31 s32 s33 s34 s35 s36 s37 s38 s39 s40 s41 s42 s43 s44 s45 s46 s47 s48 s49 s50 s51 s52 s53 s54 s55 s56 s57 s58 s59 s60 s61 s62 s63 s64 s65 s66 s67 s68 s69 s70 s71 s72 s73 s74 s75 #[true, true, true, true, true, true, false, false, false, false, false, false, false, false, false]) { tmps := #[s0, s1, s2, s3, s4, .pointer (some ⟨X5, 0, none⟩), .pointer (some ⟨X6, 0, none⟩), s7, s8, .pointer (some ⟨X9, 0, none⟩), s10, s11, s12, s13, s14, s15, s16, s17, s18, s19, s20, s21, s22, s23, s24, s25, s26, s27, s28, s29, s30, .agg #[.string u.k, .int .i64 u.t, .int .i64 u.s, .bool u.g, .string u.d], .agg #[.string a.k, .int .i64 a.t, .int .i64 a.s, .bool a.g, .string a.d], .agg #[.string b.k, .int .i64 b.t, .int .i64 b.s, .bool b.g, .string b.d], .agg #[.string u.k, .int .i64 u.t, .int .i64 u.s, .bool u.g, .string u.d], .bool false, s36, s37, s38, s39, s40, s41, s42, s43, s44, s45, s46, s47, s48, s49, s50, s51, s52, s53, s54, s55, s56, s57, s58, s59, s60, s61, s62, s63, s64, s65, s66, s67, s68, s69, s70, s71, s72, s73, s74, s75], defers := [] } w := by
  refine wpOp_step (o := { dst := some 36, op := Op.move (Operand.tmp 35), type := 4, pos := "laws.go:1121", after := #[{ on := 4, ground := Ground.data }, { on := 3, ground := Ground.chain }], guard := none }) rfl (fun K hK => ?_)
  replace hK := hid hK
  go_simp
  exact hK.out _ _ ⟨true, true, true, true, true, true, false, false, false, false, false, false, false, false, false, dm, rfl, rfl, hB, hrX5, hrX6, hrX9, hkS, he1, he2, he3⟩
set_option maxRecDepth 20000 in
set_option maxHeartbeats 1000000 in
theorem v6_s6 {Q : Exit → Act → World → Prop} (w0 : World) (X5 X6 X9 : Nat) (a b u : Se) (s0 s1 s2 s3 s4 s7 s8 s10 s11 s12 s13 s14 s15 s16 s17 s18 s19 s20 s21 s22 s23 s24 s25 s26 s27 s28 s29 s30 s31 s32 s33 s34 s35 s36 s37 s38 s39 s40 s41 s42 s43 s44 s45 s46 s47 s48 s49 s50 s51 s52 s53 s54 s55 s56 s57 s58 s59 s60 s61 s62 s63 s64 s65 s66 s67 s68 s69 s70 s71 s72 s73 s74 s75 : Value) (b7 : Bool) (dm : Nat) (w : World) (hB : Below w0.heap.size w0 w) (hrX5 : RowAt w X5 24 #[.string a.k, .int .i64 a.t, .int .i64 a.s, .bool a.g, .string a.d]) (hrX6 : RowAt w X6 24 #[.string b.k, .int .i64 b.t, .int .i64 b.s, .bool b.g, .string b.d]) (hrX9 : RowAt w X9 24 #[.string u.k, .int .i64 u.t, .int .i64 u.s, .bool u.g, .string u.d]) (hkS : ∀ wx, Below w0.heap.size w0 wx → Calls Try.prog 7 #[.agg #[.string a.k, .int .i64 a.t, .int .i64 a.s, .bool a.g, .string a.d], .agg #[.string b.k, .int .i64 b.t, .int .i64 b.s, .bool b.g, .string b.d]] wx fun e w' => e = .returned (.agg #[.string u.k, .int .i64 u.t, .int .i64 u.s, .bool u.g, .string u.d]) ∧ Below wx.heap.size wx w') (he1 : seEq u.k u.t u.s u.g u.d u.k u.t u.s u.g u.d = true) (he2 : seEq u.k u.t u.s u.g u.d a.k a.t a.s a.g a.d = false) (he3 : seEq u.k u.t u.s u.g u.d b.k b.t b.s b.g b.d = true) :
    wpOp Try.prog v6O Q 6 (v6I w0 X5 X6 X9 a b u s0 s1 s2 s3 s4 s7 s8 s10 s11 s12 s13 s14 s15 s16 s17 s18 s19 s20 s21 s22 s23 s24 s25 s26 s27 s28 s29 s30 s31 s32 s33 s34 s35 s36 s37 s38 s39 s40 s41 s42 s43 s44 s45 s46 s47 s48 s49 s50 s51 s52 s53 s54 s55 s56 s57 s58 s59 s60 s61 s62 s63 s64 s65 s66 s67 s68 s69 s70 s71 s72 s73 s74 s75 #[true, true, true, true, true, true, true, b7, false, false, false, false, false, false, false]) { tmps := #[s0, s1, s2, s3, s4, .pointer (some ⟨X5, 0, none⟩), .pointer (some ⟨X6, 0, none⟩), s7, s8, .pointer (some ⟨X9, 0, none⟩), s10, s11, s12, s13, s14, s15, s16, s17, s18, s19, s20, s21, s22, s23, s24, s25, s26, s27, s28, s29, s30, .agg #[.string u.k, .int .i64 u.t, .int .i64 u.s, .bool u.g, .string u.d], .agg #[.string a.k, .int .i64 a.t, .int .i64 a.s, .bool a.g, .string a.d], .agg #[.string b.k, .int .i64 b.t, .int .i64 b.s, .bool b.g, .string b.d], .agg #[.string u.k, .int .i64 u.t, .int .i64 u.s, .bool u.g, .string u.d], .bool false, .bool false, s37, selS b7 (.agg #[.string a.k, .int .i64 a.t, .int .i64 a.s, .bool a.g, .string a.d]) (s38), s39, s40, s41, s42, s43, s44, s45, s46, s47, s48, s49, s50, s51, s52, s53, s54, s55, s56, s57, s58, s59, s60, s61, s62, s63, s64, s65, s66, s67, s68, s69, s70, s71, s72, s73, s74, s75], defers := [] } w := by
  have q0 := hrX9.cell 0
  have q1 := hrX9.cell 1
  have q2 := hrX9.cell 2
  have q3 := hrX9.cell 3
  have q4 := hrX9.cell 4
  refine wpOp_step (o := { dst := some 37, op := Op.load 24 (Operand.tmp 9), type := 24, pos := "laws.go:1121", after := #[{ on := 5, ground := Ground.guard }], guard := some (5, false) }) rfl (fun K hK => ?_)
  replace hK := hid hK
  go_simp
  exact hK.out _ _ ⟨true, true, true, true, true, true, true, b7, false, false, false, false, false, false, false, dm, rfl, rfl, hB, hrX5, hrX6, hrX9, hkS, he1, he2, he3⟩
set_option maxRecDepth 20000 in
set_option maxHeartbeats 1000000 in
theorem v6_s7 {Q : Exit → Act → World → Prop} (w0 : World) (X5 X6 X9 : Nat) (a b u : Se) (s0 s1 s2 s3 s4 s7 s8 s10 s11 s12 s13 s14 s15 s16 s17 s18 s19 s20 s21 s22 s23 s24 s25 s26 s27 s28 s29 s30 s31 s32 s33 s34 s35 s36 s37 s38 s39 s40 s41 s42 s43 s44 s45 s46 s47 s48 s49 s50 s51 s52 s53 s54 s55 s56 s57 s58 s59 s60 s61 s62 s63 s64 s65 s66 s67 s68 s69 s70 s71 s72 s73 s74 s75 : Value) (b6 : Bool) (dm : Nat) (w : World) (hB : Below w0.heap.size w0 w) (hrX5 : RowAt w X5 24 #[.string a.k, .int .i64 a.t, .int .i64 a.s, .bool a.g, .string a.d]) (hrX6 : RowAt w X6 24 #[.string b.k, .int .i64 b.t, .int .i64 b.s, .bool b.g, .string b.d]) (hrX9 : RowAt w X9 24 #[.string u.k, .int .i64 u.t, .int .i64 u.s, .bool u.g, .string u.d]) (hkS : ∀ wx, Below w0.heap.size w0 wx → Calls Try.prog 7 #[.agg #[.string a.k, .int .i64 a.t, .int .i64 a.s, .bool a.g, .string a.d], .agg #[.string b.k, .int .i64 b.t, .int .i64 b.s, .bool b.g, .string b.d]] wx fun e w' => e = .returned (.agg #[.string u.k, .int .i64 u.t, .int .i64 u.s, .bool u.g, .string u.d]) ∧ Below wx.heap.size wx w') (he1 : seEq u.k u.t u.s u.g u.d u.k u.t u.s u.g u.d = true) (he2 : seEq u.k u.t u.s u.g u.d a.k a.t a.s a.g a.d = false) (he3 : seEq u.k u.t u.s u.g u.d b.k b.t b.s b.g b.d = true) :
    wpOp Try.prog v6O Q 7 (v6I w0 X5 X6 X9 a b u s0 s1 s2 s3 s4 s7 s8 s10 s11 s12 s13 s14 s15 s16 s17 s18 s19 s20 s21 s22 s23 s24 s25 s26 s27 s28 s29 s30 s31 s32 s33 s34 s35 s36 s37 s38 s39 s40 s41 s42 s43 s44 s45 s46 s47 s48 s49 s50 s51 s52 s53 s54 s55 s56 s57 s58 s59 s60 s61 s62 s63 s64 s65 s66 s67 s68 s69 s70 s71 s72 s73 s74 s75 #[true, true, true, true, true, true, b6, true, false, false, false, false, false, false, false]) { tmps := #[s0, s1, s2, s3, s4, .pointer (some ⟨X5, 0, none⟩), .pointer (some ⟨X6, 0, none⟩), s7, s8, .pointer (some ⟨X9, 0, none⟩), s10, s11, s12, s13, s14, s15, s16, s17, s18, s19, s20, s21, s22, s23, s24, s25, s26, s27, s28, s29, s30, .agg #[.string u.k, .int .i64 u.t, .int .i64 u.s, .bool u.g, .string u.d], .agg #[.string a.k, .int .i64 a.t, .int .i64 a.s, .bool a.g, .string a.d], .agg #[.string b.k, .int .i64 b.t, .int .i64 b.s, .bool b.g, .string b.d], .agg #[.string u.k, .int .i64 u.t, .int .i64 u.s, .bool u.g, .string u.d], .bool false, .bool false, selS b6 (.agg #[.string u.k, .int .i64 u.t, .int .i64 u.s, .bool u.g, .string u.d]) (s37), s38, s39, s40, s41, s42, s43, s44, s45, s46, s47, s48, s49, s50, s51, s52, s53, s54, s55, s56, s57, s58, s59, s60, s61, s62, s63, s64, s65, s66, s67, s68, s69, s70, s71, s72, s73, s74, s75], defers := [] } w := by
  have q0 := hrX5.cell 0
  have q1 := hrX5.cell 1
  have q2 := hrX5.cell 2
  have q3 := hrX5.cell 3
  have q4 := hrX5.cell 4
  refine wpOp_step (o := { dst := some 38, op := Op.load 24 (Operand.tmp 5), type := 24, pos := "laws.go:1121", after := #[{ on := 5, ground := Ground.guard }], guard := some (5, false) }) rfl (fun K hK => ?_)
  replace hK := hid hK
  go_simp
  exact hK.out _ _ ⟨true, true, true, true, true, true, b6, true, false, false, false, false, false, false, false, dm, rfl, rfl, hB, hrX5, hrX6, hrX9, hkS, he1, he2, he3⟩
set_option maxRecDepth 20000 in
set_option maxHeartbeats 1000000 in
theorem v6_s8 {Q : Exit → Act → World → Prop} (w0 : World) (X5 X6 X9 : Nat) (a b u : Se) (s0 s1 s2 s3 s4 s7 s8 s10 s11 s12 s13 s14 s15 s16 s17 s18 s19 s20 s21 s22 s23 s24 s25 s26 s27 s28 s29 s30 s31 s32 s33 s34 s35 s36 s37 s38 s39 s40 s41 s42 s43 s44 s45 s46 s47 s48 s49 s50 s51 s52 s53 s54 s55 s56 s57 s58 s59 s60 s61 s62 s63 s64 s65 s66 s67 s68 s69 s70 s71 s72 s73 s74 s75 : Value) (dm : Nat) (w : World) (hB : Below w0.heap.size w0 w) (hrX5 : RowAt w X5 24 #[.string a.k, .int .i64 a.t, .int .i64 a.s, .bool a.g, .string a.d]) (hrX6 : RowAt w X6 24 #[.string b.k, .int .i64 b.t, .int .i64 b.s, .bool b.g, .string b.d]) (hrX9 : RowAt w X9 24 #[.string u.k, .int .i64 u.t, .int .i64 u.s, .bool u.g, .string u.d]) (hkS : ∀ wx, Below w0.heap.size w0 wx → Calls Try.prog 7 #[.agg #[.string a.k, .int .i64 a.t, .int .i64 a.s, .bool a.g, .string a.d], .agg #[.string b.k, .int .i64 b.t, .int .i64 b.s, .bool b.g, .string b.d]] wx fun e w' => e = .returned (.agg #[.string u.k, .int .i64 u.t, .int .i64 u.s, .bool u.g, .string u.d]) ∧ Below wx.heap.size wx w') (he1 : seEq u.k u.t u.s u.g u.d u.k u.t u.s u.g u.d = true) (he2 : seEq u.k u.t u.s u.g u.d a.k a.t a.s a.g a.d = false) (he3 : seEq u.k u.t u.s u.g u.d b.k b.t b.s b.g b.d = true) :
    wpOp Try.prog v6O Q 8 (v6I w0 X5 X6 X9 a b u s0 s1 s2 s3 s4 s7 s8 s10 s11 s12 s13 s14 s15 s16 s17 s18 s19 s20 s21 s22 s23 s24 s25 s26 s27 s28 s29 s30 s31 s32 s33 s34 s35 s36 s37 s38 s39 s40 s41 s42 s43 s44 s45 s46 s47 s48 s49 s50 s51 s52 s53 s54 s55 s56 s57 s58 s59 s60 s61 s62 s63 s64 s65 s66 s67 s68 s69 s70 s71 s72 s73 s74 s75 #[true, true, true, true, true, true, true, true, true, false, false, false, false, false, false]) { tmps := #[s0, s1, s2, s3, s4, .pointer (some ⟨X5, 0, none⟩), .pointer (some ⟨X6, 0, none⟩), s7, s8, .pointer (some ⟨X9, 0, none⟩), s10, s11, s12, s13, s14, s15, s16, s17, s18, s19, s20, s21, s22, s23, s24, s25, s26, s27, s28, s29, s30, .agg #[.string u.k, .int .i64 u.t, .int .i64 u.s, .bool u.g, .string u.d], .agg #[.string a.k, .int .i64 a.t, .int .i64 a.s, .bool a.g, .string a.d], .agg #[.string b.k, .int .i64 b.t, .int .i64 b.s, .bool b.g, .string b.d], .agg #[.string u.k, .int .i64 u.t, .int .i64 u.s, .bool u.g, .string u.d], .bool false, .bool false, .agg #[.string u.k, .int .i64 u.t, .int .i64 u.s, .bool u.g, .string u.d], .agg #[.string a.k, .int .i64 a.t, .int .i64 a.s, .bool a.g, .string a.d], s39, s40, s41, s42, s43, s44, s45, s46, s47, s48, s49, s50, s51, s52, s53, s54, s55, s56, s57, s58, s59, s60, s61, s62, s63, s64, s65, s66, s67, s68, s69, s70, s71, s72, s73, s74, s75], defers := [] } w := by
  refine wpOp_step (o := { dst := some 39, op := Op.binOp BinOp.neq 24 (Operand.tmp 37) (Operand.tmp 38) 24, type := 4, pos := "laws.go:1121", after := #[{ on := 6, ground := Ground.data }, { on := 7, ground := Ground.data }, { on := 5, ground := Ground.guard }], guard := some (5, false) }) rfl (fun K hK => ?_)
  replace hK := hid hK
  go_simp
  rw [if_pos (by rfl)]
  go_simp
  rw [ifs_no (of_decide_eq_false he2)]
  exact hK.out _ _ ⟨true, true, true, true, true, true, true, true, true, false, false, false, false, false, false, dm, rfl, rfl, hB, hrX5, hrX6, hrX9, hkS, he1, he2, he3⟩
set_option maxRecDepth 20000 in
set_option maxHeartbeats 1000000 in
theorem v6_s9 {Q : Exit → Act → World → Prop} (w0 : World) (X5 X6 X9 : Nat) (a b u : Se) (s0 s1 s2 s3 s4 s7 s8 s10 s11 s12 s13 s14 s15 s16 s17 s18 s19 s20 s21 s22 s23 s24 s25 s26 s27 s28 s29 s30 s31 s32 s33 s34 s35 s36 s37 s38 s39 s40 s41 s42 s43 s44 s45 s46 s47 s48 s49 s50 s51 s52 s53 s54 s55 s56 s57 s58 s59 s60 s61 s62 s63 s64 s65 s66 s67 s68 s69 s70 s71 s72 s73 s74 s75 : Value) (dm : Nat) (w : World) (hB : Below w0.heap.size w0 w) (hrX5 : RowAt w X5 24 #[.string a.k, .int .i64 a.t, .int .i64 a.s, .bool a.g, .string a.d]) (hrX6 : RowAt w X6 24 #[.string b.k, .int .i64 b.t, .int .i64 b.s, .bool b.g, .string b.d]) (hrX9 : RowAt w X9 24 #[.string u.k, .int .i64 u.t, .int .i64 u.s, .bool u.g, .string u.d]) (hkS : ∀ wx, Below w0.heap.size w0 wx → Calls Try.prog 7 #[.agg #[.string a.k, .int .i64 a.t, .int .i64 a.s, .bool a.g, .string a.d], .agg #[.string b.k, .int .i64 b.t, .int .i64 b.s, .bool b.g, .string b.d]] wx fun e w' => e = .returned (.agg #[.string u.k, .int .i64 u.t, .int .i64 u.s, .bool u.g, .string u.d]) ∧ Below wx.heap.size wx w') (he1 : seEq u.k u.t u.s u.g u.d u.k u.t u.s u.g u.d = true) (he2 : seEq u.k u.t u.s u.g u.d a.k a.t a.s a.g a.d = false) (he3 : seEq u.k u.t u.s u.g u.d b.k b.t b.s b.g b.d = true) :
    wpOp Try.prog v6O Q 9 (v6I w0 X5 X6 X9 a b u s0 s1 s2 s3 s4 s7 s8 s10 s11 s12 s13 s14 s15 s16 s17 s18 s19 s20 s21 s22 s23 s24 s25 s26 s27 s28 s29 s30 s31 s32 s33 s34 s35 s36 s37 s38 s39 s40 s41 s42 s43 s44 s45 s46 s47 s48 s49 s50 s51 s52 s53 s54 s55 s56 s57 s58 s59 s60 s61 s62 s63 s64 s65 s66 s67 s68 s69 s70 s71 s72 s73 s74 s75 #[true, true, true, true, true, true, true, true, true, true, false, false, false, false, false]) { tmps := #[s0, s1, s2, s3, s4, .pointer (some ⟨X5, 0, none⟩), .pointer (some ⟨X6, 0, none⟩), s7, s8, .pointer (some ⟨X9, 0, none⟩), s10, s11, s12, s13, s14, s15, s16, s17, s18, s19, s20, s21, s22, s23, s24, s25, s26, s27, s28, s29, s30, .agg #[.string u.k, .int .i64 u.t, .int .i64 u.s, .bool u.g, .string u.d], .agg #[.string a.k, .int .i64 a.t, .int .i64 a.s, .bool a.g, .string a.d], .agg #[.string b.k, .int .i64 b.t, .int .i64 b.s, .bool b.g, .string b.d], .agg #[.string u.k, .int .i64 u.t, .int .i64 u.s, .bool u.g, .string u.d], .bool false, .bool false, .agg #[.string u.k, .int .i64 u.t, .int .i64 u.s, .bool u.g, .string u.d], .agg #[.string a.k, .int .i64 a.t, .int .i64 a.s, .bool a.g, .string a.d], .bool true, s40, s41, s42, s43, s44, s45, s46, s47, s48, s49, s50, s51, s52, s53, s54, s55, s56, s57, s58, s59, s60, s61, s62, s63, s64, s65, s66, s67, s68, s69, s70, s71, s72, s73, s74, s75], defers := [] } w := by
  refine wpOp_step (o := { dst := some 40, op := Op.move (Operand.tmp 39), type := 4, pos := "laws.go:1121", after := #[{ on := 8, ground := Ground.data }, { on := 5, ground := Ground.chain }, { on := 5, ground := Ground.guard }], guard := some (5, false) }) rfl (fun K hK => ?_)
  replace hK := hid hK
  go_simp
  exact hK.out _ _ ⟨true, true, true, true, true, true, true, true, true, true, false, false, false, false, false, dm, rfl, rfl, hB, hrX5, hrX6, hrX9, hkS, he1, he2, he3⟩
set_option maxRecDepth 20000 in
set_option maxHeartbeats 1000000 in
theorem v6_s10 {Q : Exit → Act → World → Prop} (w0 : World) (X5 X6 X9 : Nat) (a b u : Se) (s0 s1 s2 s3 s4 s7 s8 s10 s11 s12 s13 s14 s15 s16 s17 s18 s19 s20 s21 s22 s23 s24 s25 s26 s27 s28 s29 s30 s31 s32 s33 s34 s35 s36 s37 s38 s39 s40 s41 s42 s43 s44 s45 s46 s47 s48 s49 s50 s51 s52 s53 s54 s55 s56 s57 s58 s59 s60 s61 s62 s63 s64 s65 s66 s67 s68 s69 s70 s71 s72 s73 s74 s75 : Value) (b11 : Bool) (dm : Nat) (w : World) (hB : Below w0.heap.size w0 w) (hrX5 : RowAt w X5 24 #[.string a.k, .int .i64 a.t, .int .i64 a.s, .bool a.g, .string a.d]) (hrX6 : RowAt w X6 24 #[.string b.k, .int .i64 b.t, .int .i64 b.s, .bool b.g, .string b.d]) (hrX9 : RowAt w X9 24 #[.string u.k, .int .i64 u.t, .int .i64 u.s, .bool u.g, .string u.d]) (hkS : ∀ wx, Below w0.heap.size w0 wx → Calls Try.prog 7 #[.agg #[.string a.k, .int .i64 a.t, .int .i64 a.s, .bool a.g, .string a.d], .agg #[.string b.k, .int .i64 b.t, .int .i64 b.s, .bool b.g, .string b.d]] wx fun e w' => e = .returned (.agg #[.string u.k, .int .i64 u.t, .int .i64 u.s, .bool u.g, .string u.d]) ∧ Below wx.heap.size wx w') (he1 : seEq u.k u.t u.s u.g u.d u.k u.t u.s u.g u.d = true) (he2 : seEq u.k u.t u.s u.g u.d a.k a.t a.s a.g a.d = false) (he3 : seEq u.k u.t u.s u.g u.d b.k b.t b.s b.g b.d = true) :
    wpOp Try.prog v6O Q 10 (v6I w0 X5 X6 X9 a b u s0 s1 s2 s3 s4 s7 s8 s10 s11 s12 s13 s14 s15 s16 s17 s18 s19 s20 s21 s22 s23 s24 s25 s26 s27 s28 s29 s30 s31 s32 s33 s34 s35 s36 s37 s38 s39 s40 s41 s42 s43 s44 s45 s46 s47 s48 s49 s50 s51 s52 s53 s54 s55 s56 s57 s58 s59 s60 s61 s62 s63 s64 s65 s66 s67 s68 s69 s70 s71 s72 s73 s74 s75 #[true, true, true, true, true, true, true, true, true, true, true, b11, false, false, false]) { tmps := #[s0, s1, s2, s3, s4, .pointer (some ⟨X5, 0, none⟩), .pointer (some ⟨X6, 0, none⟩), s7, s8, .pointer (some ⟨X9, 0, none⟩), s10, s11, s12, s13, s14, s15, s16, s17, s18, s19, s20, s21, s22, s23, s24, s25, s26, s27, s28, s29, s30, .agg #[.string u.k, .int .i64 u.t, .int .i64 u.s, .bool u.g, .string u.d], .agg #[.string a.k, .int .i64 a.t, .int .i64 a.s, .bool a.g, .string a.d], .agg #[.string b.k, .int .i64 b.t, .int .i64 b.s, .bool b.g, .string b.d], .agg #[.string u.k, .int .i64 u.t, .int .i64 u.s, .bool u.g, .string u.d], .bool false, .bool false, .agg #[.string u.k, .int .i64 u.t, .int .i64 u.s, .bool u.g, .string u.d], .agg #[.string a.k, .int .i64 a.t, .int .i64 a.s, .bool a.g, .string a.d], .bool true, .bool true, s41, selS b11 (.agg #[.string b.k, .int .i64 b.t, .int .i64 b.s, .bool b.g, .string b.d]) (s42), s43, s44, s45, s46, s47, s48, s49, s50, s51, s52, s53, s54, s55, s56, s57, s58, s59, s60, s61, s62, s63, s64, s65, s66, s67, s68, s69, s70, s71, s72, s73, s74, s75], defers := [] } w := by
  have q0 := hrX9.cell 0
  have q1 := hrX9.cell 1
  have q2 := hrX9.cell 2
  have q3 := hrX9.cell 3
  have q4 := hrX9.cell 4
  refine wpOp_step (o := { dst := some 41, op := Op.load 24 (Operand.tmp 9), type := 24, pos := "laws.go:1121", after := #[{ on := 9, ground := Ground.guard }], guard := some (9, true) }) rfl (fun K hK => ?_)
  replace hK := hid hK
  go_simp
  exact hK.out _ _ ⟨true, true, true, true, true, true, true, true, true, true, true, b11, false, false, false, dm, rfl, rfl, hB, hrX5, hrX6, hrX9, hkS, he1, he2, he3⟩
set_option maxRecDepth 20000 in
set_option maxHeartbeats 1000000 in
theorem v6_s11 {Q : Exit → Act → World → Prop} (w0 : World) (X5 X6 X9 : Nat) (a b u : Se) (s0 s1 s2 s3 s4 s7 s8 s10 s11 s12 s13 s14 s15 s16 s17 s18 s19 s20 s21 s22 s23 s24 s25 s26 s27 s28 s29 s30 s31 s32 s33 s34 s35 s36 s37 s38 s39 s40 s41 s42 s43 s44 s45 s46 s47 s48 s49 s50 s51 s52 s53 s54 s55 s56 s57 s58 s59 s60 s61 s62 s63 s64 s65 s66 s67 s68 s69 s70 s71 s72 s73 s74 s75 : Value) (b10 : Bool) (dm : Nat) (w : World) (hB : Below w0.heap.size w0 w) (hrX5 : RowAt w X5 24 #[.string a.k, .int .i64 a.t, .int .i64 a.s, .bool a.g, .string a.d]) (hrX6 : RowAt w X6 24 #[.string b.k, .int .i64 b.t, .int .i64 b.s, .bool b.g, .string b.d]) (hrX9 : RowAt w X9 24 #[.string u.k, .int .i64 u.t, .int .i64 u.s, .bool u.g, .string u.d]) (hkS : ∀ wx, Below w0.heap.size w0 wx → Calls Try.prog 7 #[.agg #[.string a.k, .int .i64 a.t, .int .i64 a.s, .bool a.g, .string a.d], .agg #[.string b.k, .int .i64 b.t, .int .i64 b.s, .bool b.g, .string b.d]] wx fun e w' => e = .returned (.agg #[.string u.k, .int .i64 u.t, .int .i64 u.s, .bool u.g, .string u.d]) ∧ Below wx.heap.size wx w') (he1 : seEq u.k u.t u.s u.g u.d u.k u.t u.s u.g u.d = true) (he2 : seEq u.k u.t u.s u.g u.d a.k a.t a.s a.g a.d = false) (he3 : seEq u.k u.t u.s u.g u.d b.k b.t b.s b.g b.d = true) :
    wpOp Try.prog v6O Q 11 (v6I w0 X5 X6 X9 a b u s0 s1 s2 s3 s4 s7 s8 s10 s11 s12 s13 s14 s15 s16 s17 s18 s19 s20 s21 s22 s23 s24 s25 s26 s27 s28 s29 s30 s31 s32 s33 s34 s35 s36 s37 s38 s39 s40 s41 s42 s43 s44 s45 s46 s47 s48 s49 s50 s51 s52 s53 s54 s55 s56 s57 s58 s59 s60 s61 s62 s63 s64 s65 s66 s67 s68 s69 s70 s71 s72 s73 s74 s75 #[true, true, true, true, true, true, true, true, true, true, b10, true, false, false, false]) { tmps := #[s0, s1, s2, s3, s4, .pointer (some ⟨X5, 0, none⟩), .pointer (some ⟨X6, 0, none⟩), s7, s8, .pointer (some ⟨X9, 0, none⟩), s10, s11, s12, s13, s14, s15, s16, s17, s18, s19, s20, s21, s22, s23, s24, s25, s26, s27, s28, s29, s30, .agg #[.string u.k, .int .i64 u.t, .int .i64 u.s, .bool u.g, .string u.d], .agg #[.string a.k, .int .i64 a.t, .int .i64 a.s, .bool a.g, .string a.d], .agg #[.string b.k, .int .i64 b.t, .int .i64 b.s, .bool b.g, .string b.d], .agg #[.string u.k, .int .i64 u.t, .int .i64 u.s, .bool u.g, .string u.d], .bool false, .bool false, .agg #[.string u.k, .int .i64 u.t, .int .i64 u.s, .bool u.g, .string u.d], .agg #[.string a.k, .int .i64 a.t, .int .i64 a.s, .bool a.g, .string a.d], .bool true, .bool true, selS b10 (.agg #[.string u.k, .int .i64 u.t, .int .i64 u.s, .bool u.g, .string u.d]) (s41), s42, s43, s44, s45, s46, s47, s48, s49, s50, s51, s52, s53, s54, s55, s56, s57, s58, s59, s60, s61, s62, s63, s64, s65, s66, s67, s68, s69, s70, s71, s72, s73, s74, s75], defers := [] } w := by
  have q0 := hrX6.cell 0
  have q1 := hrX6.cell 1
  have q2 := hrX6.cell 2
  have q3 := hrX6.cell 3
  have q4 := hrX6.cell 4
  refine wpOp_step (o := { dst := some 42, op := Op.load 24 (Operand.tmp 6), type := 24, pos := "laws.go:1121", after := #[{ on := 9, ground := Ground.guard }], guard := some (9, true) }) rfl (fun K hK => ?_)
  replace hK := hid hK
  go_simp
  exact hK.out _ _ ⟨true, true, true, true, true, true, true, true, true, true, b10, true, false, false, false, dm, rfl, rfl, hB, hrX5, hrX6, hrX9, hkS, he1, he2, he3⟩
set_option maxRecDepth 20000 in
set_option maxHeartbeats 1000000 in
theorem v6_s12 {Q : Exit → Act → World → Prop} (w0 : World) (X5 X6 X9 : Nat) (a b u : Se) (s0 s1 s2 s3 s4 s7 s8 s10 s11 s12 s13 s14 s15 s16 s17 s18 s19 s20 s21 s22 s23 s24 s25 s26 s27 s28 s29 s30 s31 s32 s33 s34 s35 s36 s37 s38 s39 s40 s41 s42 s43 s44 s45 s46 s47 s48 s49 s50 s51 s52 s53 s54 s55 s56 s57 s58 s59 s60 s61 s62 s63 s64 s65 s66 s67 s68 s69 s70 s71 s72 s73 s74 s75 : Value) (dm : Nat) (w : World) (hB : Below w0.heap.size w0 w) (hrX5 : RowAt w X5 24 #[.string a.k, .int .i64 a.t, .int .i64 a.s, .bool a.g, .string a.d]) (hrX6 : RowAt w X6 24 #[.string b.k, .int .i64 b.t, .int .i64 b.s, .bool b.g, .string b.d]) (hrX9 : RowAt w X9 24 #[.string u.k, .int .i64 u.t, .int .i64 u.s, .bool u.g, .string u.d]) (hkS : ∀ wx, Below w0.heap.size w0 wx → Calls Try.prog 7 #[.agg #[.string a.k, .int .i64 a.t, .int .i64 a.s, .bool a.g, .string a.d], .agg #[.string b.k, .int .i64 b.t, .int .i64 b.s, .bool b.g, .string b.d]] wx fun e w' => e = .returned (.agg #[.string u.k, .int .i64 u.t, .int .i64 u.s, .bool u.g, .string u.d]) ∧ Below wx.heap.size wx w') (he1 : seEq u.k u.t u.s u.g u.d u.k u.t u.s u.g u.d = true) (he2 : seEq u.k u.t u.s u.g u.d a.k a.t a.s a.g a.d = false) (he3 : seEq u.k u.t u.s u.g u.d b.k b.t b.s b.g b.d = true) :
    wpOp Try.prog v6O Q 12 (v6I w0 X5 X6 X9 a b u s0 s1 s2 s3 s4 s7 s8 s10 s11 s12 s13 s14 s15 s16 s17 s18 s19 s20 s21 s22 s23 s24 s25 s26 s27 s28 s29 s30 s31 s32 s33 s34 s35 s36 s37 s38 s39 s40 s41 s42 s43 s44 s45 s46 s47 s48 s49 s50 s51 s52 s53 s54 s55 s56 s57 s58 s59 s60 s61 s62 s63 s64 s65 s66 s67 s68 s69 s70 s71 s72 s73 s74 s75 #[true, true, true, true, true, true, true, true, true, true, true, true, true, false, false]) { tmps := #[s0, s1, s2, s3, s4, .pointer (some ⟨X5, 0, none⟩), .pointer (some ⟨X6, 0, none⟩), s7, s8, .pointer (some ⟨X9, 0, none⟩), s10, s11, s12, s13, s14, s15, s16, s17, s18, s19, s20, s21, s22, s23, s24, s25, s26, s27, s28, s29, s30, .agg #[.string u.k, .int .i64 u.t, .int .i64 u.s, .bool u.g, .string u.d], .agg #[.string a.k, .int .i64 a.t, .int .i64 a.s, .bool a.g, .string a.d], .agg #[.string b.k, .int .i64 b.t, .int .i64 b.s, .bool b.g, .string b.d], .agg #[.string u.k, .int .i64 u.t, .int .i64 u.s, .bool u.g, .string u.d], .bool false, .bool false, .agg #[.string u.k, .int .i64 u.t, .int .i64 u.s, .bool u.g, .string u.d], .agg #[.string a.k, .int .i64 a.t, .int .i64 a.s, .bool a.g, .string a.d], .bool true, .bool true, .agg #[.string u.k, .int .i64 u.t, .int .i64 u.s, .bool u.g, .string u.d], .agg #[.string b.k, .int .i64 b.t, .int .i64 b.s, .bool b.g, .string b.d], s43, s44, s45, s46, s47, s48, s49, s50, s51, s52, s53, s54, s55, s56, s57, s58, s59, s60, s61, s62, s63, s64, s65, s66, s67, s68, s69, s70, s71, s72, s73, s74, s75], defers := [] } w := by
  refine wpOp_step (o := { dst := some 43, op := Op.binOp BinOp.neq 24 (Operand.tmp 41) (Operand.tmp 42) 24, type := 4, pos := "laws.go:1121", after := #[{ on := 10, ground := Ground.data }, { on := 11, ground := Ground.data }, { on := 9, ground := Ground.guard }], guard := some (9, true) }) rfl (fun K hK => ?_)
  replace hK := hid hK
  go_simp
  rw [if_pos (by rfl)]
  go_simp
  rw [ifs_yes (of_decide_eq_true he3)]
  exact hK.out _ _ ⟨true, true, true, true, true, true, true, true, true, true, true, true, true, false, false, dm, rfl, rfl, hB, hrX5, hrX6, hrX9, hkS, he1, he2, he3⟩
set_option maxRecDepth 20000 in
set_option maxHeartbeats 1000000 in
theorem v6_s13 {Q : Exit → Act → World → Prop} (w0 : World) (X5 X6 X9 : Nat) (a b u : Se) (s0 s1 s2 s3 s4 s7 s8 s10 s11 s12 s13 s14 s15 s16 s17 s18 s19 s20 s21 s22 s23 s24 s25 s26 s27 s28 s29 s30 s31 s32 s33 s34 s35 s36 s37 s38 s39 s40 s41 s42 s43 s44 s45 s46 s47 s48 s49 s50 s51 s52 s53 s54 s55 s56 s57 s58 s59 s60 s61 s62 s63 s64 s65 s66 s67 s68 s69 s70 s71 s72 s73 s74 s75 : Value) (dm : Nat) (w : World) (hB : Below w0.heap.size w0 w) (hrX5 : RowAt w X5 24 #[.string a.k, .int .i64 a.t, .int .i64 a.s, .bool a.g, .string a.d]) (hrX6 : RowAt w X6 24 #[.string b.k, .int .i64 b.t, .int .i64 b.s, .bool b.g, .string b.d]) (hrX9 : RowAt w X9 24 #[.string u.k, .int .i64 u.t, .int .i64 u.s, .bool u.g, .string u.d]) (hkS : ∀ wx, Below w0.heap.size w0 wx → Calls Try.prog 7 #[.agg #[.string a.k, .int .i64 a.t, .int .i64 a.s, .bool a.g, .string a.d], .agg #[.string b.k, .int .i64 b.t, .int .i64 b.s, .bool b.g, .string b.d]] wx fun e w' => e = .returned (.agg #[.string u.k, .int .i64 u.t, .int .i64 u.s, .bool u.g, .string u.d]) ∧ Below wx.heap.size wx w') (he1 : seEq u.k u.t u.s u.g u.d u.k u.t u.s u.g u.d = true) (he2 : seEq u.k u.t u.s u.g u.d a.k a.t a.s a.g a.d = false) (he3 : seEq u.k u.t u.s u.g u.d b.k b.t b.s b.g b.d = true) :
    wpOp Try.prog v6O Q 13 (v6I w0 X5 X6 X9 a b u s0 s1 s2 s3 s4 s7 s8 s10 s11 s12 s13 s14 s15 s16 s17 s18 s19 s20 s21 s22 s23 s24 s25 s26 s27 s28 s29 s30 s31 s32 s33 s34 s35 s36 s37 s38 s39 s40 s41 s42 s43 s44 s45 s46 s47 s48 s49 s50 s51 s52 s53 s54 s55 s56 s57 s58 s59 s60 s61 s62 s63 s64 s65 s66 s67 s68 s69 s70 s71 s72 s73 s74 s75 #[true, true, true, true, true, true, true, true, true, true, true, true, true, true, false]) { tmps := #[s0, s1, s2, s3, s4, .pointer (some ⟨X5, 0, none⟩), .pointer (some ⟨X6, 0, none⟩), s7, s8, .pointer (some ⟨X9, 0, none⟩), s10, s11, s12, s13, s14, s15, s16, s17, s18, s19, s20, s21, s22, s23, s24, s25, s26, s27, s28, s29, s30, .agg #[.string u.k, .int .i64 u.t, .int .i64 u.s, .bool u.g, .string u.d], .agg #[.string a.k, .int .i64 a.t, .int .i64 a.s, .bool a.g, .string a.d], .agg #[.string b.k, .int .i64 b.t, .int .i64 b.s, .bool b.g, .string b.d], .agg #[.string u.k, .int .i64 u.t, .int .i64 u.s, .bool u.g, .string u.d], .bool false, .bool false, .agg #[.string u.k, .int .i64 u.t, .int .i64 u.s, .bool u.g, .string u.d], .agg #[.string a.k, .int .i64 a.t, .int .i64 a.s, .bool a.g, .string a.d], .bool true, .bool true, .agg #[.string u.k, .int .i64 u.t, .int .i64 u.s, .bool u.g, .string u.d], .agg #[.string b.k, .int .i64 b.t, .int .i64 b.s, .bool b.g, .string b.d], .bool false, s44, s45, s46, s47, s48, s49, s50, s51, s52, s53, s54, s55, s56, s57, s58, s59, s60, s61, s62, s63, s64, s65, s66, s67, s68, s69, s70, s71, s72, s73, s74, s75], defers := [] } w := by
  refine wpOp_step (o := { dst := some 44, op := Op.pick (Operand.tmp 40) (Operand.tmp 43) (Operand.const (Value.bool false)), type := 4, pos := "laws.go:1121", after := #[{ on := 9, ground := Ground.data }, { on := 12, ground := Ground.data }, { on := 5, ground := Ground.guard }], guard := some (5, false) }) rfl (fun K hK => ?_)
  replace hK := hid hK
  go_simp
  exact hK.out _ _ ⟨true, true, true, true, true, true, true, true, true, true, true, true, true, true, false, dm, rfl, rfl, hB, hrX5, hrX6, hrX9, hkS, he1, he2, he3⟩
set_option maxRecDepth 20000 in
set_option maxHeartbeats 1000000 in
theorem v6_s14 {Q : Exit → Act → World → Prop} (w0 : World) (X5 X6 X9 : Nat) (a b u : Se) (s0 s1 s2 s3 s4 s7 s8 s10 s11 s12 s13 s14 s15 s16 s17 s18 s19 s20 s21 s22 s23 s24 s25 s26 s27 s28 s29 s30 s31 s32 s33 s34 s35 s36 s37 s38 s39 s40 s41 s42 s43 s44 s45 s46 s47 s48 s49 s50 s51 s52 s53 s54 s55 s56 s57 s58 s59 s60 s61 s62 s63 s64 s65 s66 s67 s68 s69 s70 s71 s72 s73 s74 s75 : Value) (dm : Nat) (w : World) (hB : Below w0.heap.size w0 w) (hrX5 : RowAt w X5 24 #[.string a.k, .int .i64 a.t, .int .i64 a.s, .bool a.g, .string a.d]) (hrX6 : RowAt w X6 24 #[.string b.k, .int .i64 b.t, .int .i64 b.s, .bool b.g, .string b.d]) (hrX9 : RowAt w X9 24 #[.string u.k, .int .i64 u.t, .int .i64 u.s, .bool u.g, .string u.d]) (hkS : ∀ wx, Below w0.heap.size w0 wx → Calls Try.prog 7 #[.agg #[.string a.k, .int .i64 a.t, .int .i64 a.s, .bool a.g, .string a.d], .agg #[.string b.k, .int .i64 b.t, .int .i64 b.s, .bool b.g, .string b.d]] wx fun e w' => e = .returned (.agg #[.string u.k, .int .i64 u.t, .int .i64 u.s, .bool u.g, .string u.d]) ∧ Below wx.heap.size wx w') (he1 : seEq u.k u.t u.s u.g u.d u.k u.t u.s u.g u.d = true) (he2 : seEq u.k u.t u.s u.g u.d a.k a.t a.s a.g a.d = false) (he3 : seEq u.k u.t u.s u.g u.d b.k b.t b.s b.g b.d = true) :
    wpOp Try.prog v6O Q 14 (v6I w0 X5 X6 X9 a b u s0 s1 s2 s3 s4 s7 s8 s10 s11 s12 s13 s14 s15 s16 s17 s18 s19 s20 s21 s22 s23 s24 s25 s26 s27 s28 s29 s30 s31 s32 s33 s34 s35 s36 s37 s38 s39 s40 s41 s42 s43 s44 s45 s46 s47 s48 s49 s50 s51 s52 s53 s54 s55 s56 s57 s58 s59 s60 s61 s62 s63 s64 s65 s66 s67 s68 s69 s70 s71 s72 s73 s74 s75 #[true, true, true, true, true, true, true, true, true, true, true, true, true, true, true]) { tmps := #[s0, s1, s2, s3, s4, .pointer (some ⟨X5, 0, none⟩), .pointer (some ⟨X6, 0, none⟩), s7, s8, .pointer (some ⟨X9, 0, none⟩), s10, s11, s12, s13, s14, s15, s16, s17, s18, s19, s20, s21, s22, s23, s24, s25, s26, s27, s28, s29, s30, .agg #[.string u.k, .int .i64 u.t, .int .i64 u.s, .bool u.g, .string u.d], .agg #[.string a.k, .int .i64 a.t, .int .i64 a.s, .bool a.g, .string a.d], .agg #[.string b.k, .int .i64 b.t, .int .i64 b.s, .bool b.g, .string b.d], .agg #[.string u.k, .int .i64 u.t, .int .i64 u.s, .bool u.g, .string u.d], .bool false, .bool false, .agg #[.string u.k, .int .i64 u.t, .int .i64 u.s, .bool u.g, .string u.d], .agg #[.string a.k, .int .i64 a.t, .int .i64 a.s, .bool a.g, .string a.d], .bool true, .bool true, .agg #[.string u.k, .int .i64 u.t, .int .i64 u.s, .bool u.g, .string u.d], .agg #[.string b.k, .int .i64 b.t, .int .i64 b.s, .bool b.g, .string b.d], .bool false, .bool false, s45, s46, s47, s48, s49, s50, s51, s52, s53, s54, s55, s56, s57, s58, s59, s60, s61, s62, s63, s64, s65, s66, s67, s68, s69, s70, s71, s72, s73, s74, s75], defers := [] } w := by
  refine wpOp_step (o := { dst := some 45, op := Op.pick (Operand.tmp 36) (Operand.const (Value.bool true)) (Operand.tmp 44), type := 4, pos := "laws.go:1121", after := #[{ on := 5, ground := Ground.data }, { on := 13, ground := Ground.data }], guard := none }) rfl (fun K hK => ?_)
  replace hK := hid hK
  go_simp
  exact hK.out _ _ ⟨true, true, true, true, true, true, true, true, true, true, true, true, true, true, true, dm, rfl, rfl, hB, hrX5, hrX6, hrX9, hkS, he1, he2, he3⟩
set_option maxRecDepth 20000 in
set_option maxHeartbeats 2000000 in
theorem v6_step {Q : Exit → Act → World → Prop} (w0 : World) (X5 X6 X9 : Nat) (a b u : Se) (s0 s1 s2 s3 s4 s7 s8 s10 s11 s12 s13 s14 s15 s16 s17 s18 s19 s20 s21 s22 s23 s24 s25 s26 s27 s28 s29 s30 s31 s32 s33 s34 s35 s36 s37 s38 s39 s40 s41 s42 s43 s44 s45 s46 s47 s48 s49 s50 s51 s52 s53 s54 s55 s56 s57 s58 s59 s60 s61 s62 s63 s64 s65 s66 s67 s68 s69 s70 s71 s72 s73 s74 s75 : Value) (l : Array Bool) (f : Act) (w : World) (hC : Closed v6O l) (hI : v6I w0 X5 X6 X9 a b u s0 s1 s2 s3 s4 s7 s8 s10 s11 s12 s13 s14 s15 s16 s17 s18 s19 s20 s21 s22 s23 s24 s25 s26 s27 s28 s29 s30 s31 s32 s33 s34 s35 s36 s37 s38 s39 s40 s41 s42 s43 s44 s45 s46 s47 s48 s49 s50 s51 s52 s53 s54 s55 s56 s57 s58 s59 s60 s61 s62 s63 s64 s65 s66 s67 s68 s69 s70 s71 s72 s73 s74 s75 l f w) (i : Nat) (h0 : l.getD i true = false) (o : Oper) (ho : v6O[i]? = some o) (h1 : ∀ e ∈ o.after, Region.binds .any e = true → l.getD e.on false = true) : wpOp Try.prog v6O Q i (v6I w0 X5 X6 X9 a b u s0 s1 s2 s3 s4 s7 s8 s10 s11 s12 s13 s14 s15 s16 s17 s18 s19 s20 s21 s22 s23 s24 s25 s26 s27 s28 s29 s30 s31 s32 s33 s34 s35 s36 s37 s38 s39 s40 s41 s42 s43 s44 s45 s46 s47 s48 s49 s50 s51 s52 s53 s54 s55 s56 s57 s58 s59 s60 s61 s62 s63 s64 s65 s66 s67 s68 s69 s70 s71 s72 s73 s74 s75 (l.setIfInBounds i true)) f w := by
  obtain ⟨b0, b1, b2, b3, b4, b5, b6, b7, b8, b9, b10, b11, b12, b13, b14, dm, rfl, rfl, hB, hrX5, hrX6, hrX9, hkS, he1, he2, he3⟩ := hI
  have hi : i < 15 := by
    rcases Nat.lt_or_ge i 15 with h | h
    · exact h
    · rw [show v6O[i]? = none from Array.getElem?_eq_none h] at ho; cases ho
  rcases (by omega : i = 0 ∨ i = 1 ∨ i = 2 ∨ i = 3 ∨ i = 4 ∨ i = 5 ∨ i = 6 ∨ i = 7 ∨ i = 8 ∨ i = 9 ∨ i = 10 ∨ i = 11 ∨ i = 12 ∨ i = 13 ∨ i = 14) with rfl | rfl | rfl | rfl | rfl | rfl | rfl | rfl | rfl | rfl | rfl | rfl | rfl | rfl | rfl
  · obtain rfl : v6o0 = o := Option.some.inj ho
    obtain rfl : b0 = false := h0
    obtain rfl : b4 = false := by
      cases b4 with
      | false => rfl
      | true => exact Bool.noConfusion (show false = true from hC 4 v6o4 rfl rfl ⟨0, .data⟩ (by simp [v6o4]) rfl)
    obtain rfl : b5 = false := by
      cases b5 with
      | false => rfl
      | true => exact Bool.noConfusion (show false = true from hC 5 v6o5 rfl rfl ⟨4, .data⟩ (by simp [v6o5]) rfl)
    obtain rfl : b6 = false := by
      cases b6 with
      | false => rfl
      | true => exact Bool.noConfusion (show false = true from hC 6 v6o6 rfl rfl ⟨5, .guard⟩ (by simp [v6o6]) rfl)
    obtain rfl : b7 = false := by
      cases b7 with
      | false => rfl
      | true => exact Bool.noConfusion (show false = true from hC 7 v6o7 rfl rfl ⟨5, .guard⟩ (by simp [v6o7]) rfl)
    obtain rfl : b8 = false := by
      cases b8 with
      | false => rfl
      | true => exact Bool.noConfusion (show false = true from hC 8 v6o8 rfl rfl ⟨5, .guard⟩ (by simp [v6o8]) rfl)
    obtain rfl : b9 = false := by
      cases b9 with
      | false => rfl
      | true => exact Bool.noConfusion (show false = true from hC 9 v6o9 rfl rfl ⟨5, .chain⟩ (by simp [v6o9]) rfl)
    obtain rfl : b10 = false := by
      cases b10 with
      | false => rfl
      | true => exact Bool.noConfusion (show false = true from hC 10 v6o10 rfl rfl ⟨9, .guard⟩ (by simp [v6o10]) rfl)
    obtain rfl : b11 = false := by
      cases b11 with
      | false => rfl
      | true => exact Bool.noConfusion (show false = true from hC 11 v6o11 rfl rfl ⟨9, .guard⟩ (by simp [v6o11]) rfl)
    obtain rfl : b12 = false := by
      cases b12 with
      | false => rfl
      | true => exact Bool.noConfusion (show false = true from hC 12 v6o12 rfl rfl ⟨9, .guard⟩ (by simp [v6o12]) rfl)
    obtain rfl : b13 = false := by
      cases b13 with
      | false => rfl
      | true => exact Bool.noConfusion (show false = true from hC 13 v6o13 rfl rfl ⟨5, .guard⟩ (by simp [v6o13]) rfl)
    obtain rfl : b14 = false := by
      cases b14 with
      | false => rfl
      | true => exact Bool.noConfusion (show false = true from hC 14 v6o14 rfl rfl ⟨5, .data⟩ (by simp [v6o14]) rfl)
    exact v6_s0 w0 X5 X6 X9 a b u s0 s1 s2 s3 s4 s7 s8 s10 s11 s12 s13 s14 s15 s16 s17 s18 s19 s20 s21 s22 s23 s24 s25 s26 s27 s28 s29 s30 s31 s32 s33 s34 s35 s36 s37 s38 s39 s40 s41 s42 s43 s44 s45 s46 s47 s48 s49 s50 s51 s52 s53 s54 s55 s56 s57 s58 s59 s60 s61 s62 s63 s64 s65 s66 s67 s68 s69 s70 s71 s72 s73 s74 s75 b1 b2 b3 dm w hB hrX5 hrX6 hrX9 hkS he1 he2 he3
  · obtain rfl : v6o1 = o := Option.some.inj ho
    obtain rfl : b1 = false := h0
    obtain rfl : b3 = false := by
      cases b3 with
      | false => rfl
      | true => exact Bool.noConfusion (show false = true from hC 3 v6o3 rfl rfl ⟨1, .data⟩ (by simp [v6o3]) rfl)
    obtain rfl : b4 = false := by
      cases b4 with
      | false => rfl
      | true => exact Bool.noConfusion (show false = true from hC 4 v6o4 rfl rfl ⟨3, .data⟩ (by simp [v6o4]) rfl)
    obtain rfl : b5 = false := by
      cases b5 with
      | false => rfl
      | true => exact Bool.noConfusion (show false = true from hC 5 v6o5 rfl rfl ⟨3, .chain⟩ (by simp [v6o5]) rfl)
    obtain rfl : b6 = false := by
      cases b6 with
      | false => rfl
      | true => exact Bool.noConfusion (show false = true from hC 6 v6o6 rfl rfl ⟨5, .guard⟩ (by simp [v6o6]) rfl)
    obtain rfl : b7 = false := by
      cases b7 with
      | false => rfl
      | true => exact Bool.noConfusion (show false = true from hC 7 v6o7 rfl rfl ⟨5, .guard⟩ (by simp [v6o7]) rfl)
    obtain rfl : b8 = false := by
      cases b8 with
      | false => rfl
      | true => exact Bool.noConfusion (show false = true from hC 8 v6o8 rfl rfl ⟨5, .guard⟩ (by simp [v6o8]) rfl)
    obtain rfl : b9 = false := by
      cases b9 with
      | false => rfl
      | true => exact Bool.noConfusion (show false = true from hC 9 v6o9 rfl rfl ⟨5, .chain⟩ (by simp [v6o9]) rfl)
    obtain rfl : b10 = false := by
      cases b10 with
      | false => rfl
      | true => exact Bool.noConfusion (show false = true from hC 10 v6o10 rfl rfl ⟨9, .guard⟩ (by simp [v6o10]) rfl)
    obtain rfl : b11 = false := by
      cases b11 with
      | false => rfl
      | true => exact Bool.noConfusion (show false = true from hC 11 v6o11 rfl rfl ⟨9, .guard⟩ (by simp [v6o11]) rfl)
    obtain rfl : b12 = false := by
      cases b12 with
      | false => rfl
      | true => exact Bool.noConfusion (show false = true from hC 12 v6o12 rfl rfl ⟨9, .guard⟩ (by simp [v6o12]) rfl)
    obtain rfl : b13 = false := by
      cases b13 with
      | false => rfl
      | true => exact Bool.noConfusion (show false = true from hC 13 v6o13 rfl rfl ⟨5, .guard⟩ (by simp [v6o13]) rfl)
    obtain rfl : b14 = false := by
      cases b14 with
      | false => rfl
      | true => exact Bool.noConfusion (show false = true from hC 14 v6o14 rfl rfl ⟨5, .data⟩ (by simp [v6o14]) rfl)
    exact v6_s1 w0 X5 X6 X9 a b u s0 s1 s2 s3 s4 s7 s8 s10 s11 s12 s13 s14 s15 s16 s17 s18 s19 s20 s21 s22 s23 s24 s25 s26 s27 s28 s29 s30 s31 s32 s33 s34 s35 s36 s37 s38 s39 s40 s41 s42 s43 s44 s45 s46 s47 s48 s49 s50 s51 s52 s53 s54 s55 s56 s57 s58 s59 s60 s61 s62 s63 s64 s65 s66 s67 s68 s69 s70 s71 s72 s73 s74 s75 b0 b2 dm w hB hrX5 hrX6 hrX9 hkS he1 he2 he3
  · obtain rfl : v6o2 = o := Option.some.inj ho
    obtain rfl : b2 = false := h0
    obtain rfl : b3 = false := by
      cases b3 with
      | false => rfl
      | true => exact Bool.noConfusion (show false = true from hC 3 v6o3 rfl rfl ⟨2, .data⟩ (by simp [v6o3]) rfl)
    obtain rfl : b4 = false := by
      cases b4 with
      | false => rfl
      | true => exact Bool.noConfusion (show false = true from hC 4 v6o4 rfl rfl ⟨3, .data⟩ (by simp [v6o4]) rfl)
    obtain rfl : b5 = false := by
      cases b5 with
      | false => rfl
      | true => exact Bool.noConfusion (show false = true from hC 5 v6o5 rfl rfl ⟨3, .chain⟩ (by simp [v6o5]) rfl)
    obtain rfl : b6 = false := by
      cases b6 with
      | false => rfl
      | true => exact Bool.noConfusion (show false = true from hC 6 v6o6 rfl rfl ⟨5, .guard⟩ (by simp [v6o6]) rfl)
    obtain rfl : b7 = false := by
      cases b7 with
      | false => rfl
      | true => exact Bool.noConfusion (show false = true from hC 7 v6o7 rfl rfl ⟨5, .guard⟩ (by simp [v6o7]) rfl)
    obtain rfl : b8 = false := by
      cases b8 with
      | false => rfl
      | true => exact Bool.noConfusion (show false = true from hC 8 v6o8 rfl rfl ⟨5, .guard⟩ (by simp [v6o8]) rfl)
    obtain rfl : b9 = false := by
      cases b9 with
      | false => rfl
      | true => exact Bool.noConfusion (show false = true from hC 9 v6o9 rfl rfl ⟨5, .chain⟩ (by simp [v6o9]) rfl)
    obtain rfl : b10 = false := by
      cases b10 with
      | false => rfl
      | true => exact Bool.noConfusion (show false = true from hC 10 v6o10 rfl rfl ⟨9, .guard⟩ (by simp [v6o10]) rfl)
    obtain rfl : b11 = false := by
      cases b11 with
      | false => rfl
      | true => exact Bool.noConfusion (show false = true from hC 11 v6o11 rfl rfl ⟨9, .guard⟩ (by simp [v6o11]) rfl)
    obtain rfl : b12 = false := by
      cases b12 with
      | false => rfl
      | true => exact Bool.noConfusion (show false = true from hC 12 v6o12 rfl rfl ⟨9, .guard⟩ (by simp [v6o12]) rfl)
    obtain rfl : b13 = false := by
      cases b13 with
      | false => rfl
      | true => exact Bool.noConfusion (show false = true from hC 13 v6o13 rfl rfl ⟨5, .guard⟩ (by simp [v6o13]) rfl)
    obtain rfl : b14 = false := by
      cases b14 with
      | false => rfl
      | true => exact Bool.noConfusion (show false = true from hC 14 v6o14 rfl rfl ⟨5, .data⟩ (by simp [v6o14]) rfl)
    exact v6_s2 w0 X5 X6 X9 a b u s0 s1 s2 s3 s4 s7 s8 s10 s11 s12 s13 s14 s15 s16 s17 s18 s19 s20 s21 s22 s23 s24 s25 s26 s27 s28 s29 s30 s31 s32 s33 s34 s35 s36 s37 s38 s39 s40 s41 s42 s43 s44 s45 s46 s47 s48 s49 s50 s51 s52 s53 s54 s55 s56 s57 s58 s59 s60 s61 s62 s63 s64 s65 s66 s67 s68 s69 s70 s71 s72 s73 s74 s75 b0 b1 dm w hB hrX5 hrX6 hrX9 hkS he1 he2 he3
  · obtain rfl : v6o3 = o := Option.some.inj ho
    obtain rfl : b3 = false := h0
    obtain rfl : b2 = true := h1 ⟨2, .data⟩ (by simp [v6o3]) rfl
    obtain rfl : b1 = true := h1 ⟨1, .data⟩ (by simp [v6o3]) rfl
    obtain rfl : b4 = false := by
      cases b4 with
      | false => rfl
      | true => exact Bool.noConfusion (show false = true from hC 4 v6o4 rfl rfl ⟨3, .data⟩ (by simp [v6o4]) rfl)
    obtain rfl : b5 = false := by
      cases b5 with
      | false => rfl
      | true => exact Bool.noConfusion (show false = true from hC 5 v6o5 rfl rfl ⟨3, .chain⟩ (by simp [v6o5]) rfl)
    obtain rfl : b6 = false := by
      cases b6 with
      | false => rfl
      | true => exact Bool.noConfusion (show false = true from hC 6 v6o6 rfl rfl ⟨5, .guard⟩ (by simp [v6o6]) rfl)
    obtain rfl : b7 = false := by
      cases b7 with
      | false => rfl
      | true => exact Bool.noConfusion (show false = true from hC 7 v6o7 rfl rfl ⟨5, .guard⟩ (by simp [v6o7]) rfl)
    obtain rfl : b8 = false := by
      cases b8 with
      | false => rfl
      | true => exact Bool.noConfusion (show false = true from hC 8 v6o8 rfl rfl ⟨5, .guard⟩ (by simp [v6o8]) rfl)
    obtain rfl : b9 = false := by
      cases b9 with
      | false => rfl
      | true => exact Bool.noConfusion (show false = true from hC 9 v6o9 rfl rfl ⟨5, .chain⟩ (by simp [v6o9]) rfl)
    obtain rfl : b10 = false := by
      cases b10 with
      | false => rfl
      | true => exact Bool.noConfusion (show false = true from hC 10 v6o10 rfl rfl ⟨9, .guard⟩ (by simp [v6o10]) rfl)
    obtain rfl : b11 = false := by
      cases b11 with
      | false => rfl
      | true => exact Bool.noConfusion (show false = true from hC 11 v6o11 rfl rfl ⟨9, .guard⟩ (by simp [v6o11]) rfl)
    obtain rfl : b12 = false := by
      cases b12 with
      | false => rfl
      | true => exact Bool.noConfusion (show false = true from hC 12 v6o12 rfl rfl ⟨9, .guard⟩ (by simp [v6o12]) rfl)
    obtain rfl : b13 = false := by
      cases b13 with
      | false => rfl
      | true => exact Bool.noConfusion (show false = true from hC 13 v6o13 rfl rfl ⟨5, .guard⟩ (by simp [v6o13]) rfl)
    obtain rfl : b14 = false := by
      cases b14 with
      | false => rfl
      | true => exact Bool.noConfusion (show false = true from hC 14 v6o14 rfl rfl ⟨5, .data⟩ (by simp [v6o14]) rfl)
    exact v6_s3 w0 X5 X6 X9 a b u s0 s1 s2 s3 s4 s7 s8 s10 s11 s12 s13 s14 s15 s16 s17 s18 s19 s20 s21 s22 s23 s24 s25 s26 s27 s28 s29 s30 s31 s32 s33 s34 s35 s36 s37 s38 s39 s40 s41 s42 s43 s44 s45 s46 s47 s48 s49 s50 s51 s52 s53 s54 s55 s56 s57 s58 s59 s60 s61 s62 s63 s64 s65 s66 s67 s68 s69 s70 s71 s72 s73 s74 s75 b0 dm w hB hrX5 hrX6 hrX9 hkS he1 he2 he3
  · obtain rfl : v6o4 = o := Option.some.inj ho
    obtain rfl : b4 = false := h0
    obtain rfl : b3 = true := h1 ⟨3, .data⟩ (by simp [v6o4]) rfl
    obtain rfl : b0 = true := h1 ⟨0, .data⟩ (by simp [v6o4]) rfl
    obtain rfl : b1 = true := hC 3 v6o3 rfl rfl ⟨1, .data⟩ (by simp [v6o3]) rfl
    obtain rfl : b2 = true := hC 3 v6o3 rfl rfl ⟨2, .data⟩ (by simp [v6o3]) rfl
    obtain rfl : b5 = false := by
      cases b5 with
      | false => rfl
      | true => exact Bool.noConfusion (show false = true from hC 5 v6o5 rfl rfl ⟨4, .data⟩ (by simp [v6o5]) rfl)
    obtain rfl : b6 = false := by
      cases b6 with
      | false => rfl
      | true => exact Bool.noConfusion (show false = true from hC 6 v6o6 rfl rfl ⟨5, .guard⟩ (by simp [v6o6]) rfl)
    obtain rfl : b7 = false := by
      cases b7 with
      | false => rfl
      | true => exact Bool.noConfusion (show false = true from hC 7 v6o7 rfl rfl ⟨5, .guard⟩ (by simp [v6o7]) rfl)
    obtain rfl : b8 = false := by
      cases b8 with
      | false => rfl
      | true => exact Bool.noConfusion (show false = true from hC 8 v6o8 rfl rfl ⟨5, .guard⟩ (by simp [v6o8]) rfl)
    obtain rfl : b9 = false := by
      cases b9 with
      | false => rfl
      | true => exact Bool.noConfusion (show false = true from hC 9 v6o9 rfl rfl ⟨5, .chain⟩ (by simp [v6o9]) rfl)
    obtain rfl : b10 = false := by
      cases b10 with
      | false => rfl
      | true => exact Bool.noConfusion (show false = true from hC 10 v6o10 rfl rfl ⟨9, .guard⟩ (by simp [v6o10]) rfl)
    obtain rfl : b11 = false := by
      cases b11 with
      | false => rfl
      | true => exact Bool.noConfusion (show false = true from hC 11 v6o11 rfl rfl ⟨9, .guard⟩ (by simp [v6o11]) rfl)
    obtain rfl : b12 = false := by
      cases b12 with
      | false => rfl
      | true => exact Bool.noConfusion (show false = true from hC 12 v6o12 rfl rfl ⟨9, .guard⟩ (by simp [v6o12]) rfl)
    obtain rfl : b13 = false := by
      cases b13 with
      | false => rfl
      | true => exact Bool.noConfusion (show false = true from hC 13 v6o13 rfl rfl ⟨5, .guard⟩ (by simp [v6o13]) rfl)
    obtain rfl : b14 = false := by
      cases b14 with
      | false => rfl
      | true => exact Bool.noConfusion (show false = true from hC 14 v6o14 rfl rfl ⟨5, .data⟩ (by simp [v6o14]) rfl)
    exact v6_s4 w0 X5 X6 X9 a b u s0 s1 s2 s3 s4 s7 s8 s10 s11 s12 s13 s14 s15 s16 s17 s18 s19 s20 s21 s22 s23 s24 s25 s26 s27 s28 s29 s30 s31 s32 s33 s34 s35 s36 s37 s38 s39 s40 s41 s42 s43 s44 s45 s46 s47 s48 s49 s50 s51 s52 s53 s54 s55 s56 s57 s58 s59 s60 s61 s62 s63 s64 s65 s66 s67 s68 s69 s70 s71 s72 s73 s74 s75  dm w hB hrX5 hrX6 hrX9 hkS he1 he2 he3
  · obtain rfl : v6o5 = o := Option.some.inj ho
    obtain rfl : b5 = false := h0
    obtain rfl : b4 = true := h1 ⟨4, .data⟩ (by simp [v6o5]) rfl
    obtain rfl : b3 = true := h1 ⟨3, .chain⟩ (by simp [v6o5]) rfl
    obtain rfl : b0 = true := hC 4 v6o4 rfl rfl ⟨0, .data⟩ (by simp [v6o4]) rfl
    obtain rfl : b1 = true := hC 3 v6o3 rfl rfl ⟨1, .data⟩ (by simp [v6o3]) rfl
    obtain rfl : b2 = true := hC 3 v6o3 rfl rfl ⟨2, .data⟩ (by simp [v6o3]) rfl
    obtain rfl : b6 = false := by
      cases b6 with
      | false => rfl
      | true => exact Bool.noConfusion (show false = true from hC 6 v6o6 rfl rfl ⟨5, .guard⟩ (by simp [v6o6]) rfl)
    obtain rfl : b7 = false := by
      cases b7 with
      | false => rfl
      | true => exact Bool.noConfusion (show false = true from hC 7 v6o7 rfl rfl ⟨5, .guard⟩ (by simp [v6o7]) rfl)
    obtain rfl : b8 = false := by
      cases b8 with
      | false => rfl
      | true => exact Bool.noConfusion (show false = true from hC 8 v6o8 rfl rfl ⟨5, .guard⟩ (by simp [v6o8]) rfl)
    obtain rfl : b9 = false := by
      cases b9 with
      | false => rfl
      | true => exact Bool.noConfusion (show false = true from hC 9 v6o9 rfl rfl ⟨5, .chain⟩ (by simp [v6o9]) rfl)
    obtain rfl : b10 = false := by
      cases b10 with
      | false => rfl
      | true => exact Bool.noConfusion (show false = true from hC 10 v6o10 rfl rfl ⟨9, .guard⟩ (by simp [v6o10]) rfl)
    obtain rfl : b11 = false := by
      cases b11 with
      | false => rfl
      | true => exact Bool.noConfusion (show false = true from hC 11 v6o11 rfl rfl ⟨9, .guard⟩ (by simp [v6o11]) rfl)
    obtain rfl : b12 = false := by
      cases b12 with
      | false => rfl
      | true => exact Bool.noConfusion (show false = true from hC 12 v6o12 rfl rfl ⟨9, .guard⟩ (by simp [v6o12]) rfl)
    obtain rfl : b13 = false := by
      cases b13 with
      | false => rfl
      | true => exact Bool.noConfusion (show false = true from hC 13 v6o13 rfl rfl ⟨5, .guard⟩ (by simp [v6o13]) rfl)
    obtain rfl : b14 = false := by
      cases b14 with
      | false => rfl
      | true => exact Bool.noConfusion (show false = true from hC 14 v6o14 rfl rfl ⟨5, .data⟩ (by simp [v6o14]) rfl)
    exact v6_s5 w0 X5 X6 X9 a b u s0 s1 s2 s3 s4 s7 s8 s10 s11 s12 s13 s14 s15 s16 s17 s18 s19 s20 s21 s22 s23 s24 s25 s26 s27 s28 s29 s30 s31 s32 s33 s34 s35 s36 s37 s38 s39 s40 s41 s42 s43 s44 s45 s46 s47 s48 s49 s50 s51 s52 s53 s54 s55 s56 s57 s58 s59 s60 s61 s62 s63 s64 s65 s66 s67 s68 s69 s70 s71 s72 s73 s74 s75  dm w hB hrX5 hrX6 hrX9 hkS he1 he2 he3
  · obtain rfl : v6o6 = o := Option.some.inj ho
    obtain rfl : b6 = false := h0
    obtain rfl : b5 = true := h1 ⟨5, .guard⟩ (by simp [v6o6]) rfl
    obtain rfl : b3 = true := hC 5 v6o5 rfl rfl ⟨3, .chain⟩ (by simp [v6o5]) rfl
    obtain rfl : b4 = true := hC 5 v6o5 rfl rfl ⟨4, .data⟩ (by simp [v6o5]) rfl
    obtain rfl : b0 = true := hC 4 v6o4 rfl rfl ⟨0, .data⟩ (by simp [v6o4]) rfl
    obtain rfl : b1 = true := hC 3 v6o3 rfl rfl ⟨1, .data⟩ (by simp [v6o3]) rfl
    obtain rfl : b2 = true := hC 3 v6o3 rfl rfl ⟨2, .data⟩ (by simp [v6o3]) rfl
    obtain rfl : b8 = false := by
      cases b8 with
      | false => rfl
      | true => exact Bool.noConfusion (show false = true from hC 8 v6o8 rfl rfl ⟨6, .data⟩ (by simp [v6o8]) rfl)
    obtain rfl : b9 = false := by
      cases b9 with
      | false => rfl
      | true => exact Bool.noConfusion (show false = true from hC 9 v6o9 rfl rfl ⟨8, .data⟩ (by simp [v6o9]) rfl)
    obtain rfl : b10 = false := by
      cases b10 with
      | false => rfl
      | true => exact Bool.noConfusion (show false = true from hC 10 v6o10 rfl rfl ⟨9, .guard⟩ (by simp [v6o10]) rfl)
    obtain rfl : b11 = false := by
      cases b11 with
      | false => rfl
      | true => exact Bool.noConfusion (show false = true from hC 11 v6o11 rfl rfl ⟨9, .guard⟩ (by simp [v6o11]) rfl)
    obtain rfl : b12 = false := by
      cases b12 with
      | false => rfl
      | true => exact Bool.noConfusion (show false = true from hC 12 v6o12 rfl rfl ⟨9, .guard⟩ (by simp [v6o12]) rfl)
    obtain rfl : b13 = false := by
      cases b13 with
      | false => rfl
      | true => exact Bool.noConfusion (show false = true from hC 13 v6o13 rfl rfl ⟨9, .data⟩ (by simp [v6o13]) rfl)
    obtain rfl : b14 = false := by
      cases b14 with
      | false => rfl
      | true => exact Bool.noConfusion (show false = true from hC 14 v6o14 rfl rfl ⟨13, .data⟩ (by simp [v6o14]) rfl)
    exact v6_s6 w0 X5 X6 X9 a b u s0 s1 s2 s3 s4 s7 s8 s10 s11 s12 s13 s14 s15 s16 s17 s18 s19 s20 s21 s22 s23 s24 s25 s26 s27 s28 s29 s30 s31 s32 s33 s34 s35 s36 s37 s38 s39 s40 s41 s42 s43 s44 s45 s46 s47 s48 s49 s50 s51 s52 s53 s54 s55 s56 s57 s58 s59 s60 s61 s62 s63 s64 s65 s66 s67 s68 s69 s70 s71 s72 s73 s74 s75 b7 dm w hB hrX5 hrX6 hrX9 hkS he1 he2 he3
  · obtain rfl : v6o7 = o := Option.some.inj ho
    obtain rfl : b7 = false := h0
    obtain rfl : b5 = true := h1 ⟨5, .guard⟩ (by simp [v6o7]) rfl
    obtain rfl : b3 = true := hC 5 v6o5 rfl rfl ⟨3, .chain⟩ (by simp [v6o5]) rfl
    obtain rfl : b4 = true := hC 5 v6o5 rfl rfl ⟨4, .data⟩ (by simp [v6o5]) rfl
    obtain rfl : b0 = true := hC 4 v6o4 rfl rfl ⟨0, .data⟩ (by simp [v6o4]) rfl
    obtain rfl : b1 = true := hC 3 v6o3 rfl rfl ⟨1, .data⟩ (by simp [v6o3]) rfl
    obtain rfl : b2 = true := hC 3 v6o3 rfl rfl ⟨2, .data⟩ (by simp [v6o3]) rfl
    obtain rfl : b8 = false := by
      cases b8 with
      | false => rfl
      | true => exact Bool.noConfusion (show false = true from hC 8 v6o8 rfl rfl ⟨7, .data⟩ (by simp [v6o8]) rfl)
    obtain rfl : b9 = false := by
      cases b9 with
      | false => rfl
      | true => exact Bool.noConfusion (show false = true from hC 9 v6o9 rfl rfl ⟨8, .data⟩ (by simp [v6o9]) rfl)
    obtain rfl : b10 = false := by
      cases b10 with
      | false => rfl
      | true => exact Bool.noConfusion (show false = true from hC 10 v6o10 rfl rfl ⟨9, .guard⟩ (by simp [v6o10]) rfl)
    obtain rfl : b11 = false := by
      cases b11 with
      | false => rfl
      | true => exact Bool.noConfusion (show false = true from hC 11 v6o11 rfl rfl ⟨9, .guard⟩ (by simp [v6o11]) rfl)
    obtain rfl : b12 = false := by
      cases b12 with
      | false => rfl
      | true => exact Bool.noConfusion (show false = true from hC 12 v6o12 rfl rfl ⟨9, .guard⟩ (by simp [v6o12]) rfl)
    obtain rfl : b13 = false := by
      cases b13 with
      | false => rfl
      | true => exact Bool.noConfusion (show false = true from hC 13 v6o13 rfl rfl ⟨9, .data⟩ (by simp [v6o13]) rfl)
    obtain rfl : b14 = false := by
      cases b14 with
      | false => rfl
      | true => exact Bool.noConfusion (show false = true from hC 14 v6o14 rfl rfl ⟨13, .data⟩ (by simp [v6o14]) rfl)
    exact v6_s7 w0 X5 X6 X9 a b u s0 s1 s2 s3 s4 s7 s8 s10 s11 s12 s13 s14 s15 s16 s17 s18 s19 s20 s21 s22 s23 s24 s25 s26 s27 s28 s29 s30 s31 s32 s33 s34 s35 s36 s37 s38 s39 s40 s41 s42 s43 s44 s45 s46 s47 s48 s49 s50 s51 s52 s53 s54 s55 s56 s57 s58 s59 s60 s61 s62 s63 s64 s65 s66 s67 s68 s69 s70 s71 s72 s73 s74 s75 b6 dm w hB hrX5 hrX6 hrX9 hkS he1 he2 he3
  · obtain rfl : v6o8 = o := Option.some.inj ho
    obtain rfl : b8 = false := h0
    obtain rfl : b7 = true := h1 ⟨7, .data⟩ (by simp [v6o8]) rfl
    obtain rfl : b6 = true := h1 ⟨6, .data⟩ (by simp [v6o8]) rfl
    obtain rfl : b5 = true := h1 ⟨5, .guard⟩ (by simp [v6o8]) rfl
    obtain rfl : b3 = true := hC 5 v6o5 rfl rfl ⟨3, .chain⟩ (by simp [v6o5]) rfl
    obtain rfl : b4 = true := hC 5 v6o5 rfl rfl ⟨4, .data⟩ (by simp [v6o5]) rfl
    obtain rfl : b0 = true := hC 4 v6o4 rfl rfl ⟨0, .data⟩ (by simp [v6o4]) rfl
    obtain rfl : b1 = true := hC 3 v6o3 rfl rfl ⟨1, .data⟩ (by simp [v6o3]) rfl
    obtain rfl : b2 = true := hC 3 v6o3 rfl rfl ⟨2, .data⟩ (by simp [v6o3]) rfl
    obtain rfl : b9 = false := by
      cases b9 with
      | false => rfl
      | true => exact Bool.noConfusion (show false = true from hC 9 v6o9 rfl rfl ⟨8, .data⟩ (by simp [v6o9]) rfl)
    obtain rfl : b10 = false := by
      cases b10 with
      | false => rfl
      | true => exact Bool.noConfusion (show false = true from hC 10 v6o10 rfl rfl ⟨9, .guard⟩ (by simp [v6o10]) rfl)
    obtain rfl : b11 = false := by
      cases b11 with
      | false => rfl
      | true => exact Bool.noConfusion (show false = true from hC 11 v6o11 rfl rfl ⟨9, .guard⟩ (by simp [v6o11]) rfl)
    obtain rfl : b12 = false := by
      cases b12 with
      | false => rfl
      | true => exact Bool.noConfusion (show false = true from hC 12 v6o12 rfl rfl ⟨9, .guard⟩ (by simp [v6o12]) rfl)
    obtain rfl : b13 = false := by
      cases b13 with
      | false => rfl
      | true => exact Bool.noConfusion (show false = true from hC 13 v6o13 rfl rfl ⟨9, .data⟩ (by simp [v6o13]) rfl)
    obtain rfl : b14 = false := by
      cases b14 with
      | false => rfl
      | true => exact Bool.noConfusion (show false = true from hC 14 v6o14 rfl rfl ⟨13, .data⟩ (by simp [v6o14]) rfl)
    exact v6_s8 w0 X5 X6 X9 a b u s0 s1 s2 s3 s4 s7 s8 s10 s11 s12 s13 s14 s15 s16 s17 s18 s19 s20 s21 s22 s23 s24 s25 s26 s27 s28 s29 s30 s31 s32 s33 s34 s35 s36 s37 s38 s39 s40 s41 s42 s43 s44 s45 s46 s47 s48 s49 s50 s51 s52 s53 s54 s55 s56 s57 s58 s59 s60 s61 s62 s63 s64 s65 s66 s67 s68 s69 s70 s71 s72 s73 s74 s75  dm w hB hrX5 hrX6 hrX9 hkS he1 he2 he3
  · obtain rfl : v6o9 = o := Option.some.inj ho
    obtain rfl : b9 = false := h0
    obtain rfl : b8 = true := h1 ⟨8, .data⟩ (by simp [v6o9]) rfl
    obtain rfl : b5 = true := h1 ⟨5, .chain⟩ (by simp [v6o9]) rfl
    obtain rfl : b6 = true := hC 8 v6o8 rfl rfl ⟨6, .data⟩ (by simp [v6o8]) rfl
    obtain rfl : b7 = true := hC 8 v6o8 rfl rfl ⟨7, .data⟩ (by simp [v6o8]) rfl
    obtain rfl : b3 = true := hC 5 v6o5 rfl rfl ⟨3, .chain⟩ (by simp [v6o5]) rfl
    obtain rfl : b4 = true := hC 5 v6o5 rfl rfl ⟨4, .data⟩ (by simp [v6o5]) rfl
    obtain rfl : b0 = true := hC 4 v6o4 rfl rfl ⟨0, .data⟩ (by simp [v6o4]) rfl
    obtain rfl : b1 = true := hC 3 v6o3 rfl rfl ⟨1, .data⟩ (by simp [v6o3]) rfl
    obtain rfl : b2 = true := hC 3 v6o3 rfl rfl ⟨2, .data⟩ (by simp [v6o3]) rfl
    obtain rfl : b10 = false := by
      cases b10 with
      | false => rfl
      | true => exact Bool.noConfusion (show false = true from hC 10 v6o10 rfl rfl ⟨9, .guard⟩ (by simp [v6o10]) rfl)
    obtain rfl : b11 = false := by
      cases b11 with
      | false => rfl
      | true => exact Bool.noConfusion (show false = true from hC 11 v6o11 rfl rfl ⟨9, .guard⟩ (by simp [v6o11]) rfl)
    obtain rfl : b12 = false := by
      cases b12 with
      | false => rfl
      | true => exact Bool.noConfusion (show false = true from hC 12 v6o12 rfl rfl ⟨9, .guard⟩ (by simp [v6o12]) rfl)
    obtain rfl : b13 = false := by
      cases b13 with
      | false => rfl
      | true => exact Bool.noConfusion (show false = true from hC 13 v6o13 rfl rfl ⟨9, .data⟩ (by simp [v6o13]) rfl)
    obtain rfl : b14 = false := by
      cases b14 with
      | false => rfl
      | true => exact Bool.noConfusion (show false = true from hC 14 v6o14 rfl rfl ⟨13, .data⟩ (by simp [v6o14]) rfl)
    exact v6_s9 w0 X5 X6 X9 a b u s0 s1 s2 s3 s4 s7 s8 s10 s11 s12 s13 s14 s15 s16 s17 s18 s19 s20 s21 s22 s23 s24 s25 s26 s27 s28 s29 s30 s31 s32 s33 s34 s35 s36 s37 s38 s39 s40 s41 s42 s43 s44 s45 s46 s47 s48 s49 s50 s51 s52 s53 s54 s55 s56 s57 s58 s59 s60 s61 s62 s63 s64 s65 s66 s67 s68 s69 s70 s71 s72 s73 s74 s75  dm w hB hrX5 hrX6 hrX9 hkS he1 he2 he3
  · obtain rfl : v6o10 = o := Option.some.inj ho
    obtain rfl : b10 = false := h0
    obtain rfl : b9 = true := h1 ⟨9, .guard⟩ (by simp [v6o10]) rfl
    obtain rfl : b5 = true := hC 9 v6o9 rfl rfl ⟨5, .chain⟩ (by simp [v6o9]) rfl
    obtain rfl : b8 = true := hC 9 v6o9 rfl rfl ⟨8, .data⟩ (by simp [v6o9]) rfl
    obtain rfl : b6 = true := hC 8 v6o8 rfl rfl ⟨6, .data⟩ (by simp [v6o8]) rfl
    obtain rfl : b7 = true := hC 8 v6o8 rfl rfl ⟨7, .data⟩ (by simp [v6o8]) rfl
    obtain rfl : b3 = true := hC 5 v6o5 rfl rfl ⟨3, .chain⟩ (by simp [v6o5]) rfl
    obtain rfl : b4 = true := hC 5 v6o5 rfl rfl ⟨4, .data⟩ (by simp [v6o5]) rfl
    obtain rfl : b0 = true := hC 4 v6o4 rfl rfl ⟨0, .data⟩ (by simp [v6o4]) rfl
    obtain rfl : b1 = true := hC 3 v6o3 rfl rfl ⟨1, .data⟩ (by simp [v6o3]) rfl
    obtain rfl : b2 = true := hC 3 v6o3 rfl rfl ⟨2, .data⟩ (by simp [v6o3]) rfl
    obtain rfl : b12 = false := by
      cases b12 with
      | false => rfl
      | true => exact Bool.noConfusion (show false = true from hC 12 v6o12 rfl rfl ⟨10, .data⟩ (by simp [v6o12]) rfl)
    obtain rfl : b13 = false := by
      cases b13 with
      | false => rfl
      | true => exact Bool.noConfusion (show false = true from hC 13 v6o13 rfl rfl ⟨12, .data⟩ (by simp [v6o13]) rfl)
    obtain rfl : b14 = false := by
      cases b14 with
      | false => rfl
      | true => exact Bool.noConfusion (show false = true from hC 14 v6o14 rfl rfl ⟨13, .data⟩ (by simp [v6o14]) rfl)
    exact v6_s10 w0 X5 X6 X9 a b u s0 s1 s2 s3 s4 s7 s8 s10 s11 s12 s13 s14 s15 s16 s17 s18 s19 s20 s21 s22 s23 s24 s25 s26 s27 s28 s29 s30 s31 s32 s33 s34 s35 s36 s37 s38 s39 s40 s41 s42 s43 s44 s45 s46 s47 s48 s49 s50 s51 s52 s53 s54 s55 s56 s57 s58 s59 s60 s61 s62 s63 s64 s65 s66 s67 s68 s69 s70 s71 s72 s73 s74 s75 b11 dm w hB hrX5 hrX6 hrX9 hkS he1 he2 he3
  · obtain rfl : v6o11 = o := Option.some.inj ho
    obtain rfl : b11 = false := h0
    obtain rfl : b9 = true := h1 ⟨9, .guard⟩ (by simp [v6o11]) rfl
    obtain rfl : b5 = true := hC 9 v6o9 rfl rfl ⟨5, .chain⟩ (by simp [v6o9]) rfl
    obtain rfl : b8 = true := hC 9 v6o9 rfl rfl ⟨8, .data⟩ (by simp [v6o9]) rfl
    obtain rfl : b6 = true := hC 8 v6o8 rfl rfl ⟨6, .data⟩ (by simp [v6o8]) rfl
    obtain rfl : b7 = true := hC 8 v6o8 rfl rfl ⟨7, .data⟩ (by simp [v6o8]) rfl
    obtain rfl : b3 = true := hC 5 v6o5 rfl rfl ⟨3, .chain⟩ (by simp [v6o5]) rfl
    obtain rfl : b4 = true := hC 5 v6o5 rfl rfl ⟨4, .data⟩ (by simp [v6o5]) rfl
    obtain rfl : b0 = true := hC 4 v6o4 rfl rfl ⟨0, .data⟩ (by simp [v6o4]) rfl
    obtain rfl : b1 = true := hC 3 v6o3 rfl rfl ⟨1, .data⟩ (by simp [v6o3]) rfl
    obtain rfl : b2 = true := hC 3 v6o3 rfl rfl ⟨2, .data⟩ (by simp [v6o3]) rfl
    obtain rfl : b12 = false := by
      cases b12 with
      | false => rfl
      | true => exact Bool.noConfusion (show false = true from hC 12 v6o12 rfl rfl ⟨11, .data⟩ (by simp [v6o12]) rfl)
    obtain rfl : b13 = false := by
      cases b13 with
      | false => rfl
      | true => exact Bool.noConfusion (show false = true from hC 13 v6o13 rfl rfl ⟨12, .data⟩ (by simp [v6o13]) rfl)
    obtain rfl : b14 = false := by
      cases b14 with
      | false => rfl
      | true => exact Bool.noConfusion (show false = true from hC 14 v6o14 rfl rfl ⟨13, .data⟩ (by simp [v6o14]) rfl)
    exact v6_s11 w0 X5 X6 X9 a b u s0 s1 s2 s3 s4 s7 s8 s10 s11 s12 s13 s14 s15 s16 s17 s18 s19 s20 s21 s22 s23 s24 s25 s26 s27 s28 s29 s30 s31 s32 s33 s34 s35 s36 s37 s38 s39 s40 s41 s42 s43 s44 s45 s46 s47 s48 s49 s50 s51 s52 s53 s54 s55 s56 s57 s58 s59 s60 s61 s62 s63 s64 s65 s66 s67 s68 s69 s70 s71 s72 s73 s74 s75 b10 dm w hB hrX5 hrX6 hrX9 hkS he1 he2 he3
  · obtain rfl : v6o12 = o := Option.some.inj ho
    obtain rfl : b12 = false := h0
    obtain rfl : b11 = true := h1 ⟨11, .data⟩ (by simp [v6o12]) rfl
    obtain rfl : b10 = true := h1 ⟨10, .data⟩ (by simp [v6o12]) rfl
    obtain rfl : b9 = true := h1 ⟨9, .guard⟩ (by simp [v6o12]) rfl
    obtain rfl : b5 = true := hC 9 v6o9 rfl rfl ⟨5, .chain⟩ (by simp [v6o9]) rfl
    obtain rfl : b8 = true := hC 9 v6o9 rfl rfl ⟨8, .data⟩ (by simp [v6o9]) rfl
    obtain rfl : b6 = true := hC 8 v6o8 rfl rfl ⟨6, .data⟩ (by simp [v6o8]) rfl
    obtain rfl : b7 = true := hC 8 v6o8 rfl rfl ⟨7, .data⟩ (by simp [v6o8]) rfl
    obtain rfl : b3 = true := hC 5 v6o5 rfl rfl ⟨3, .chain⟩ (by simp [v6o5]) rfl
    obtain rfl : b4 = true := hC 5 v6o5 rfl rfl ⟨4, .data⟩ (by simp [v6o5]) rfl
    obtain rfl : b0 = true := hC 4 v6o4 rfl rfl ⟨0, .data⟩ (by simp [v6o4]) rfl
    obtain rfl : b1 = true := hC 3 v6o3 rfl rfl ⟨1, .data⟩ (by simp [v6o3]) rfl
    obtain rfl : b2 = true := hC 3 v6o3 rfl rfl ⟨2, .data⟩ (by simp [v6o3]) rfl
    obtain rfl : b13 = false := by
      cases b13 with
      | false => rfl
      | true => exact Bool.noConfusion (show false = true from hC 13 v6o13 rfl rfl ⟨12, .data⟩ (by simp [v6o13]) rfl)
    obtain rfl : b14 = false := by
      cases b14 with
      | false => rfl
      | true => exact Bool.noConfusion (show false = true from hC 14 v6o14 rfl rfl ⟨13, .data⟩ (by simp [v6o14]) rfl)
    exact v6_s12 w0 X5 X6 X9 a b u s0 s1 s2 s3 s4 s7 s8 s10 s11 s12 s13 s14 s15 s16 s17 s18 s19 s20 s21 s22 s23 s24 s25 s26 s27 s28 s29 s30 s31 s32 s33 s34 s35 s36 s37 s38 s39 s40 s41 s42 s43 s44 s45 s46 s47 s48 s49 s50 s51 s52 s53 s54 s55 s56 s57 s58 s59 s60 s61 s62 s63 s64 s65 s66 s67 s68 s69 s70 s71 s72 s73 s74 s75  dm w hB hrX5 hrX6 hrX9 hkS he1 he2 he3
  · obtain rfl : v6o13 = o := Option.some.inj ho
    obtain rfl : b13 = false := h0
    obtain rfl : b12 = true := h1 ⟨12, .data⟩ (by simp [v6o13]) rfl
    obtain rfl : b9 = true := h1 ⟨9, .data⟩ (by simp [v6o13]) rfl
    obtain rfl : b5 = true := h1 ⟨5, .guard⟩ (by simp [v6o13]) rfl
    obtain rfl : b10 = true := hC 12 v6o12 rfl rfl ⟨10, .data⟩ (by simp [v6o12]) rfl
    obtain rfl : b11 = true := hC 12 v6o12 rfl rfl ⟨11, .data⟩ (by simp [v6o12]) rfl
    obtain rfl : b8 = true := hC 9 v6o9 rfl rfl ⟨8, .data⟩ (by simp [v6o9]) rfl
    obtain rfl : b6 = true := hC 8 v6o8 rfl rfl ⟨6, .data⟩ (by simp [v6o8]) rfl
    obtain rfl : b7 = true := hC 8 v6o8 rfl rfl ⟨7, .data⟩ (by simp [v6o8]) rfl
    obtain rfl : b3 = true := hC 5 v6o5 rfl rfl ⟨3, .chain⟩ (by simp [v6o5]) rfl
    obtain rfl : b4 = true := hC 5 v6o5 rfl rfl ⟨4, .data⟩ (by simp [v6o5]) rfl
    obtain rfl : b0 = true := hC 4 v6o4 rfl rfl ⟨0, .data⟩ (by simp [v6o4]) rfl
    obtain rfl : b1 = true := hC 3 v6o3 rfl rfl ⟨1, .data⟩ (by simp [v6o3]) rfl
    obtain rfl : b2 = true := hC 3 v6o3 rfl rfl ⟨2, .data⟩ (by simp [v6o3]) rfl
    obtain rfl : b14 = false := by
      cases b14 with
      | false => rfl
      | true => exact Bool.noConfusion (show false = true from hC 14 v6o14 rfl rfl ⟨13, .data⟩ (by simp [v6o14]) rfl)
    exact v6_s13 w0 X5 X6 X9 a b u s0 s1 s2 s3 s4 s7 s8 s10 s11 s12 s13 s14 s15 s16 s17 s18 s19 s20 s21 s22 s23 s24 s25 s26 s27 s28 s29 s30 s31 s32 s33 s34 s35 s36 s37 s38 s39 s40 s41 s42 s43 s44 s45 s46 s47 s48 s49 s50 s51 s52 s53 s54 s55 s56 s57 s58 s59 s60 s61 s62 s63 s64 s65 s66 s67 s68 s69 s70 s71 s72 s73 s74 s75  dm w hB hrX5 hrX6 hrX9 hkS he1 he2 he3
  · obtain rfl : v6o14 = o := Option.some.inj ho
    obtain rfl : b14 = false := h0
    obtain rfl : b13 = true := h1 ⟨13, .data⟩ (by simp [v6o14]) rfl
    obtain rfl : b5 = true := h1 ⟨5, .data⟩ (by simp [v6o14]) rfl
    obtain rfl : b9 = true := hC 13 v6o13 rfl rfl ⟨9, .data⟩ (by simp [v6o13]) rfl
    obtain rfl : b12 = true := hC 13 v6o13 rfl rfl ⟨12, .data⟩ (by simp [v6o13]) rfl
    obtain rfl : b10 = true := hC 12 v6o12 rfl rfl ⟨10, .data⟩ (by simp [v6o12]) rfl
    obtain rfl : b11 = true := hC 12 v6o12 rfl rfl ⟨11, .data⟩ (by simp [v6o12]) rfl
    obtain rfl : b8 = true := hC 9 v6o9 rfl rfl ⟨8, .data⟩ (by simp [v6o9]) rfl
    obtain rfl : b6 = true := hC 8 v6o8 rfl rfl ⟨6, .data⟩ (by simp [v6o8]) rfl
    obtain rfl : b7 = true := hC 8 v6o8 rfl rfl ⟨7, .data⟩ (by simp [v6o8]) rfl
    obtain rfl : b3 = true := hC 5 v6o5 rfl rfl ⟨3, .chain⟩ (by simp [v6o5]) rfl
    obtain rfl : b4 = true := hC 5 v6o5 rfl rfl ⟨4, .data⟩ (by simp [v6o5]) rfl
    obtain rfl : b0 = true := hC 4 v6o4 rfl rfl ⟨0, .data⟩ (by simp [v6o4]) rfl
    obtain rfl : b1 = true := hC 3 v6o3 rfl rfl ⟨1, .data⟩ (by simp [v6o3]) rfl
    obtain rfl : b2 = true := hC 3 v6o3 rfl rfl ⟨2, .data⟩ (by simp [v6o3]) rfl
    exact v6_s14 w0 X5 X6 X9 a b u s0 s1 s2 s3 s4 s7 s8 s10 s11 s12 s13 s14 s15 s16 s17 s18 s19 s20 s21 s22 s23 s24 s25 s26 s27 s28 s29 s30 s31 s32 s33 s34 s35 s36 s37 s38 s39 s40 s41 s42 s43 s44 s45 s46 s47 s48 s49 s50 s51 s52 s53 s54 s55 s56 s57 s58 s59 s60 s61 s62 s63 s64 s65 s66 s67 s68 s69 s70 s71 s72 s73 s74 s75  dm w hB hrX5 hrX6 hrX9 hkS he1 he2 he3
set_option maxRecDepth 20000 in
set_option maxHeartbeats 4000000 in
theorem v6_wp {Q : Exit → Act → World → Prop} {rid : Nat} (w0 : World) (X5 X6 X9 : Nat) (a b u : Se) {s0 s1 s2 s3 s4 s7 s8 s10 s11 s12 s13 s14 s15 s16 s17 s18 s19 s20 s21 s22 s23 s24 s25 s26 s27 s28 s29 s30 s31 s32 s33 s34 s35 s36 s37 s38 s39 s40 s41 s42 s43 s44 s45 s46 s47 s48 s49 s50 s51 s52 s53 s54 s55 s56 s57 s58 s59 s60 s61 s62 s63 s64 s65 s66 s67 s68 s69 s70 s71 s72 s73 s74 s75 : Value} (w : World) (hB : Below w0.heap.size w0 w) (hrX5 : RowAt w X5 24 #[.string a.k, .int .i64 a.t, .int .i64 a.s, .bool a.g, .string a.d]) (hrX6 : RowAt w X6 24 #[.string b.k, .int .i64 b.t, .int .i64 b.s, .bool b.g, .string b.d]) (hrX9 : RowAt w X9 24 #[.string u.k, .int .i64 u.t, .int .i64 u.s, .bool u.g, .string u.d]) (hkS : ∀ wx, Below w0.heap.size w0 wx → Calls Try.prog 7 #[.agg #[.string a.k, .int .i64 a.t, .int .i64 a.s, .bool a.g, .string a.d], .agg #[.string b.k, .int .i64 b.t, .int .i64 b.s, .bool b.g, .string b.d]] wx fun e w' => e = .returned (.agg #[.string u.k, .int .i64 u.t, .int .i64 u.s, .bool u.g, .string u.d]) ∧ Below wx.heap.size wx w') (he1 : seEq u.k u.t u.s u.g u.d u.k u.t u.s u.g u.d = true) (he2 : seEq u.k u.t u.s u.g u.d a.k a.t a.s a.g a.d = false) (he3 : seEq u.k u.t u.s u.g u.d b.k b.t b.s b.g b.d = true)
    (fin : ∀ (dm : Nat) (w' : World), (Below w0.heap.size w0 w') → (RowAt w' X5 24 #[.string a.k, .int .i64 a.t, .int .i64 a.s, .bool a.g, .string a.d]) → (RowAt w' X6 24 #[.string b.k, .int .i64 b.t, .int .i64 b.s, .bool b.g, .string b.d]) → (RowAt w' X9 24 #[.string u.k, .int .i64 u.t, .int .i64 u.s, .bool u.g, .string u.d]) → (∀ wx, Below w0.heap.size w0 wx → Calls Try.prog 7 #[.agg #[.string a.k, .int .i64 a.t, .int .i64 a.s, .bool a.g, .string a.d], .agg #[.string b.k, .int .i64 b.t, .int .i64 b.s, .bool b.g, .string b.d]] wx fun e w' => e = .returned (.agg #[.string u.k, .int .i64 u.t, .int .i64 u.s, .bool u.g, .string u.d]) ∧ Below wx.heap.size wx w') → (seEq u.k u.t u.s u.g u.d u.k u.t u.s u.g u.d = true) → (seEq u.k u.t u.s u.g u.d a.k a.t a.s a.g a.d = false) → (seEq u.k u.t u.s u.g u.d b.k b.t b.s b.g b.d = true) → Q .normal { tmps := #[s0, s1, s2, s3, s4, .pointer (some ⟨X5, 0, none⟩), .pointer (some ⟨X6, 0, none⟩), s7, s8, .pointer (some ⟨X9, 0, none⟩), s10, s11, s12, s13, s14, s15, s16, s17, s18, s19, s20, s21, s22, s23, s24, s25, s26, s27, s28, s29, s30, .agg #[.string u.k, .int .i64 u.t, .int .i64 u.s, .bool u.g, .string u.d], .agg #[.string a.k, .int .i64 a.t, .int .i64 a.s, .bool a.g, .string a.d], .agg #[.string b.k, .int .i64 b.t, .int .i64 b.s, .bool b.g, .string b.d], .agg #[.string u.k, .int .i64 u.t, .int .i64 u.s, .bool u.g, .string u.d], .bool false, .bool false, .agg #[.string u.k, .int .i64 u.t, .int .i64 u.s, .bool u.g, .string u.d], .agg #[.string a.k, .int .i64 a.t, .int .i64 a.s, .bool a.g, .string a.d], .bool true, .bool true, .agg #[.string u.k, .int .i64 u.t, .int .i64 u.s, .bool u.g, .string u.d], .agg #[.string b.k, .int .i64 b.t, .int .i64 b.s, .bool b.g, .string b.d], .bool false, .bool false, .bool false, s46, s47, s48, s49, s50, s51, s52, s53, s54, s55, s56, s57, s58, s59, s60, s61, s62, s63, s64, s65, s66, s67, s68, s69, s70, s71, s72, s73, s74, s75], defers := [] } w') :
    (Code.region rid v6O true).wp Try.prog Q { tmps := #[s0, s1, s2, s3, s4, .pointer (some ⟨X5, 0, none⟩), .pointer (some ⟨X6, 0, none⟩), s7, s8, .pointer (some ⟨X9, 0, none⟩), s10, s11, s12, s13, s14, s15, s16, s17, s18, s19, s20, s21, s22, s23, s24, s25, s26, s27, s28, s29, s30, s31, s32, s33, s34, s35, s36, s37, s38, s39, s40, s41, s42, s43, s44, s45, s46, s47, s48, s49, s50, s51, s52, s53, s54, s55, s56, s57, s58, s59, s60, s61, s62, s63, s64, s65, s66, s67, s68, s69, s70, s71, s72, s73, s74, s75], defers := [] } w := by
  refine wp_region_inv (ops := v6O) (v6I w0 X5 X6 X9 a b u s0 s1 s2 s3 s4 s7 s8 s10 s11 s12 s13 s14 s15 s16 s17 s18 s19 s20 s21 s22 s23 s24 s25 s26 s27 s28 s29 s30 s31 s32 s33 s34 s35 s36 s37 s38 s39 s40 s41 s42 s43 s44 s45 s46 s47 s48 s49 s50 s51 s52 s53 s54 s55 s56 s57 s58 s59 s60 s61 s62 s63 s64 s65 s66 s67 s68 s69 s70 s71 s72 s73 s74 s75) (by kernel_rfl) (by kernel_rfl) (fun l f v hI => ?_) (fun l f v hC hI i h0 o ho h1 => v6_step w0 X5 X6 X9 a b u s0 s1 s2 s3 s4 s7 s8 s10 s11 s12 s13 s14 s15 s16 s17 s18 s19 s20 s21 s22 s23 s24 s25 s26 s27 s28 s29 s30 s31 s32 s33 s34 s35 s36 s37 s38 s39 s40 s41 s42 s43 s44 s45 s46 s47 s48 s49 s50 s51 s52 s53 s54 s55 s56 s57 s58 s59 s60 s61 s62 s63 s64 s65 s66 s67 s68 s69 s70 s71 s72 s73 s74 s75 l f v hC hI i h0 o ho h1) (fun l f v hI hall => ?_) ?_
  · obtain ⟨_, _, _, _, _, _, _, _, _, _, _, _, _, _, _, _, rfl, _⟩ := hI; rfl
  · obtain ⟨b0, b1, b2, b3, b4, b5, b6, b7, b8, b9, b10, b11, b12, b13, b14, dm, rfl, rfl, hB, hrX5, hrX6, hrX9, hkS, he1, he2, he3⟩ := hI
    obtain rfl : b0 = true := hall 0 (by simp)
    obtain rfl : b1 = true := hall 1 (by simp)
    obtain rfl : b2 = true := hall 2 (by simp)
    obtain rfl : b3 = true := hall 3 (by simp)
    obtain rfl : b4 = true := hall 4 (by simp)
    obtain rfl : b5 = true := hall 5 (by simp)
    obtain rfl : b6 = true := hall 6 (by simp)
    obtain rfl : b7 = true := hall 7 (by simp)
    obtain rfl : b8 = true := hall 8 (by simp)
    obtain rfl : b9 = true := hall 9 (by simp)
    obtain rfl : b10 = true := hall 10 (by simp)
    obtain rfl : b11 = true := hall 11 (by simp)
    obtain rfl : b12 = true := hall 12 (by simp)
    obtain rfl : b13 = true := hall 13 (by simp)
    obtain rfl : b14 = true := hall 14 (by simp)
    exact fin dm v hB hrX5 hrX6 hrX9 hkS he1 he2 he3
  · exact ⟨false, false, false, false, false, false, false, false, false, false, false, false, false, false, false, 0, rfl, rfl, hB.drew, hrX5.drew, hrX6.drew, hrX9.drew, hkS, he1, he2, he3⟩
end Go.Proofs.Ytkedjhpaeojclaa
