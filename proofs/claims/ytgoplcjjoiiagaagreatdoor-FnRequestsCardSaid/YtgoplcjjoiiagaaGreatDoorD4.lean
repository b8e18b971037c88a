import Derived.Test.YtgoplcjjoiiagaaGreatDoorD2
namespace Go.Proofs.YtgoplcjjoiiagaaGreatDoor
open Go.RowKit
set_option linter.unusedVariables false
theorem ra6_tab2 (x1 : ByteArray) (hx1 : x1.size ≤ 1002) (k : Nat) (hk : k < 3) : ∃ t : ByteArray, (#[.string ⟨#[]⟩, .string ⟨#[120]⟩, .string x1] : Array Value)[k]? = some (.string t) ∧ t.size ≤ 1002 := by
  rcases (by omega : k = 0 ∨ k = 1 ∨ k = 2) with rfl | rfl | rfl
  all_goals exact ⟨_, rfl, by first | decide | assumption⟩
def ra6o0 : Oper := { dst := some 18, op := Op.makeSlice 22 (Operand.const (Value.int IntKind.i64 1001)) (Operand.const (Value.int IntKind.i64 1001)), type := 22, pos := "l10_request.go:395", after := #[], guard := none }
def ra6o1 : Oper := { dst := some 19, op := Op.convert 22 9 (Operand.tmp 18), type := 9, pos := "l10_request.go:395", after := #[{ on := 0, ground := Ground.data }], guard := none }
def ra6o2 : Oper := { dst := some 20, op := Op.buildSlice 86 3 #[(0, Operand.const (Value.string { data := #[] })), (1, Operand.const (Value.string { data := #[120] })), (2, Operand.tmp 19)], type := 86, pos := "l10_request.go:395", after := #[{ on := 1, ground := Ground.data }], guard := none }
def ra6o3 : Oper := { dst := some 21, op := Op.move (Operand.tmp 0), type := 43, pos := "l10_request.go:395", after := #[], guard := none }
def ra6o4 : Oper := { dst := some 22, op := Op.call { callee := Callee.value (Operand.func 52), args := #[Operand.tmp 21, Operand.const (Value.int IntKind.i64 3)], argTypes := #[43, 2] }, type := 2, pos := "l10_request.go:395", after := #[{ on := 3, ground := Ground.data }], guard := none }
def ra6o5 : Oper := { dst := some 23, op := Op.indexAddr 86 (Operand.tmp 20) (Operand.tmp 22), type := 0, pos := "l10_request.go:395", after := #[{ on := 2, ground := Ground.data }, { on := 4, ground := Ground.data }], guard := none }
def ra6o6 : Oper := { dst := some 24, op := Op.load 9 (Operand.tmp 23), type := 9, pos := "l10_request.go:395", after := #[{ on := 5, ground := Ground.data }], guard := none }
def ra6o7 : Oper := { dst := some 25, op := Op.fieldAddr 25 (Operand.tmp 3) 1, type := 0, pos := "l10_request.go:395", after := #[{ on := 0, ground := Ground.phase }, { on := 1, ground := Ground.phase }, { on := 2, ground := Ground.phase }, { on := 3, ground := Ground.phase }, { on := 4, ground := Ground.phase }, { on := 5, ground := Ground.phase }, { on := 6, ground := Ground.phase }], guard := none }
def ra6o8 : Oper := { dst := none, op := Op.store 9 (Operand.tmp 25) (Operand.tmp 24), type := 0, pos := "l10_request.go:395", after := #[{ on := 7, ground := Ground.data }, { on := 6, ground := Ground.data }, { on := 4, ground := Ground.chain }, { on := 0, ground := Ground.phase }, { on := 1, ground := Ground.phase }, { on := 2, ground := Ground.phase }, { on := 3, ground := Ground.phase }, { on := 4, ground := Ground.phase }, { on := 5, ground := Ground.phase }, { on := 6, ground := Ground.phase }], guard := none }
def ra6O : Array Oper := #[ra6o0, ra6o1, ra6o2, ra6o3, ra6o4, ra6o5, ra6o6, ra6o7, ra6o8]
def ra6I (W0 w0 : World) (c : Nat) (a : Option Addr) (len cap p XR XB B : Nat) (zr : Array Value) (y0 y1 y2 y3 y4 : Value) (BO : Nat) (aO : Option Addr) (nO cO : Nat) (LO : List Hp) (BU : Nat) (aU : Option Addr) (nU cU : Nat) (LU : List Hp) (s1 s4 s5 s6 s7 s8 s9 s10 s11 s12 s13 s14 s15 s16 s17 s18 s19 s20 s21 s22 s23 s24 s25 s26 s27 s28 s29 s30 s31 s32 s33 s34 s35 s36 s37 s38 s39 s40 s41 s42 s43 s44 s45 s46 s47 s48 s49 s50 s51 s52 s53 s54 s55 s56 s57 s58 s59 s60 s61 s62 s63 s64 s65 s66 s67 s68 s69 s70 s71 : Value) (l : Array Bool) (f : Act) (w : World) : Prop :=
  ∃ (b0 b1 b2 b3 b4 b5 b6 b7 b8 : Bool) (X0 : Nat) (x1 : ByteArray) (X2 : Nat) (R4 : Nat) (x6 : ByteArray) (pp : Nat), l = #[b0, b1, b2, b3, b4, b5, b6, b7, b8] ∧ f = { tmps := #[.pointer (some ⟨c, 0, none⟩), s1, .pointer (some ⟨XR, 0, none⟩), .pointer (some ⟨XB, 0, none⟩), s4, s5, s6, s7, s8, s9, s10, s11, s12, s13, s14, s15, s16, s17, sel b0 (.slice (some ⟨X0, 0, none⟩) 1001 1001) (s18), sel b1 (.string x1) (s19), sel b2 (.slice (some ⟨X2, 0, none⟩) 3 3) (s20), sel b3 (.pointer (some ⟨c, 0, none⟩)) (s21), sel b4 (.int .i64 (R4 : Int)) (s22), sel b5 (.pointer (some ⟨X2, R4, none⟩)) (s23), sel b6 (.string x6) (s24), sel b7 (.pointer (some ⟨XB, 1, none⟩)) (s25), s26, s27, s28, s29, s30, s31, s32, s33, s34, s35, s36, s37, s38, s39, s40, s41, s42, s43, s44, s45, s46, s47, s48, s49, s50, s51, s52, s53, s54, s55, s56, s57, s58, s59, s60, s61, s62, s63, s64, s65, s66, s67, s68, s69, s70, s71], defers := [] } ∧ (Src W0 w c a len cap pp) ∧ (pp ≤ p + 40 * (b4.toNat)) ∧ (w0.grownBy w (some c)) ∧ (RowAt w XB 25 (cond b8 #[y0, .string x6, y2, y3, y4] #[y0, y1, y2, y3, y4])) ∧ (RowAt w XR 25 zr) ∧ (B ≤ w.heap.size) ∧ (c < XB ∧ c < B ∧ w0.heap.size ≤ B ∧ XR ≠ XB ∧ w0.heap.size ≤ XB ∧ W0.heap.size ≤ c ∧ p ≤ 900000 ∧ c ≠ XR) ∧ (OwnHp w BO (.slice aO nO cO) LO ∧ c < BO) ∧ (OwnHp w BU (.slice aU nU cU) LU ∧ c < BU) ∧ (b0 = true → b8 = false → OwnNums w B 5 .u8 (.slice (some ⟨X0, 0, none⟩) 1001 1001) (List.replicate 1001 0)) ∧ (b1 = true → x1.size ≤ 1002) ∧ (b2 = true → b8 = false → RowAt w X2 9 #[.string ⟨#[]⟩, .string ⟨#[120]⟩, .string x1] ∧ B ≤ X2) ∧ (b4 = true → R4 < 3) ∧ (b6 = true → x6.size ≤ 1002)
set_option maxRecDepth 20000 in
set_option maxHeartbeats 1000000 in
theorem ra6_s0 {Q : Exit → Act → World → Prop} (W0 w0 : World) (c : Nat) (a : Option Addr) (len cap p XR XB B : Nat) (zr : Array Value) (y0 y1 y2 y3 y4 : Value) (BO : Nat) (aO : Option Addr) (nO cO : Nat) (LO : List Hp) (BU : Nat) (aU : Option Addr) (nU cU : Nat) (LU : List Hp) (s1 s4 s5 s6 s7 s8 s9 s10 s11 s12 s13 s14 s15 s16 s17 s18 s19 s20 s21 s22 s23 s24 s25 s26 s27 s28 s29 s30 s31 s32 s33 s34 s35 s36 s37 s38 s39 s40 s41 s42 s43 s44 s45 s46 s47 s48 s49 s50 s51 s52 s53 s54 s55 s56 s57 s58 s59 s60 s61 s62 s63 s64 s65 s66 s67 s68 s69 s70 s71 : Value) (b3 b4 : Bool) (X0 : Nat) (x1 : ByteArray) (X2 : Nat) (R4 : Nat) (x6 : ByteArray) (pp : Nat) (w : World) (hS : Src W0 w c a len cap pp) (hp : pp ≤ p + 40 * (b4.toNat)) (hg : w0.grownBy w (some c)) (hbox : RowAt w XB 25 (cond false #[y0, .string x6, y2, y3, y4] #[y0, y1, y2, y3, y4])) (hR : RowAt w XR 25 zr) (hBz : B ≤ w.heap.size) (hst : c < XB ∧ c < B ∧ w0.heap.size ≤ B ∧ XR ≠ XB ∧ w0.heap.size ≤ XB ∧ W0.heap.size ≤ c ∧ p ≤ 900000 ∧ c ≠ XR) (hoO : OwnHp w BO (.slice aO nO cO) LO ∧ c < BO) (hoU : OwnHp w BU (.slice aU nU cU) LU ∧ c < BU) (hX0 : false = true → false = false → OwnNums w B 5 .u8 (.slice (some ⟨X0, 0, none⟩) 1001 1001) (List.replicate 1001 0)) (hx1 : false = true → x1.size ≤ 1002) (hX2 : false = true → false = false → RowAt w X2 9 #[.string ⟨#[]⟩, .string ⟨#[120]⟩, .string x1] ∧ B ≤ X2) (hR4 : b4 = true → R4 < 3) (hx6 : false = true → x6.size ≤ 1002) :
    wpOp Tryz.prog ra6O Q 0 (ra6I W0 w0 c a len cap p XR XB B zr y0 y1 y2 y3 y4 BO aO nO cO LO BU aU nU cU LU s1 s4 s5 s6 s7 s8 s9 s10 s11 s12 s13 s14 s15 s16 s17 s18 s19 s20 s21 s22 s23 s24 s25 s26 s27 s28 s29 s30 s31 s32 s33 s34 s35 s36 s37 s38 s39 s40 s41 s42 s43 s44 s45 s46 s47 s48 s49 s50 s51 s52 s53 s54 s55 s56 s57 s58 s59 s60 s61 s62 s63 s64 s65 s66 s67 s68 s69 s70 s71 #[true, false, false, b3, b4, false, false, false, false]) { tmps := #[.pointer (some ⟨c, 0, none⟩), s1, .pointer (some ⟨XR, 0, none⟩), .pointer (some ⟨XB, 0, none⟩), s4, s5, s6, s7, s8, s9, s10, s11, s12, s13, s14, s15, s16, s17, s18, s19, s20, sel b3 (.pointer (some ⟨c, 0, none⟩)) (s21), sel b4 (.int .i64 (R4 : Int)) (s22), s23, s24, s25, s26, s27, s28, s29, s30, s31, s32, s33, s34, s35, s36, s37, s38, s39, s40, s41, s42, s43, s44, s45, s46, s47, s48, s49, s50, s51, s52, s53, s54, s55, s56, s57, s58, s59, s60, s61, s62, s63, s64, s65, s66, s67, s68, s69, s70, s71], defers := [] } w := by
  have hmk : ∀ w, (Instr.makeSlice 22 (.int .i64 1001) (.int .i64 1001)).run Tryz.prog w = .ok (.slice (some ⟨w.heap.size, 0, none⟩) 1001 1001) (w.alloc (.cells (ints .u8 (List.replicate 1001 0)) 5)) := fun w => mk_bytes w 1001 (by omega)
  refine wpOp_step (o := { dst := some 18, op := Op.makeSlice 22 (Operand.const (Value.int IntKind.i64 1001)) (Operand.const (Value.int IntKind.i64 1001)), type := 22, pos := "l10_request.go:395", after := #[], guard := none }) rfl (fun K hK => ?_)
  replace hK := hid hK
  go_simp
  exact hK.out _ _ ⟨true, false, false, b3, b4, false, false, false, false, w.heap.size, x1, X2, R4, x6, pp, rfl, rfl, hS.alloc _, hp, grown_al hg _, hbox.alloc _, hR.alloc _, by simp only [World.size_alloc]; omega, hst, ⟨World.ownsRow.alloc hoO.1 _, hoO.2⟩, ⟨World.ownsRow.alloc hoU.1 _, hoU.2⟩, fun _ _ => (own_made w 1001 (by omega)).monoD hBz, hx1, fun h => Bool.noConfusion h, hR4, hx6⟩
set_option maxRecDepth 20000 in
set_option maxHeartbeats 1000000 in
theorem ra6_s1 {Q : Exit → Act → World → Prop} (W0 w0 : World) (c : Nat) (a : Option Addr) (len cap p XR XB B : Nat) (zr : Array Value) (y0 y1 y2 y3 y4 : Value) (BO : Nat) (aO : Option Addr) (nO cO : Nat) (LO : List Hp) (BU : Nat) (aU : Option Addr) (nU cU : Nat) (LU : List Hp) (s1 s4 s5 s6 s7 s8 s9 s10 s11 s12 s13 s14 s15 s16 s17 s18 s19 s20 s21 s22 s23 s24 s25 s26 s27 s28 s29 s30 s31 s32 s33 s34 s35 s36 s37 s38 s39 s40 s41 s42 s43 s44 s45 s46 s47 s48 s49 s50 s51 s52 s53 s54 s55 s56 s57 s58 s59 s60 s61 s62 s63 s64 s65 s66 s67 s68 s69 s70 s71 : Value) (b3 b4 : Bool) (X0 : Nat) (x1 : ByteArray) (X2 : Nat) (R4 : Nat) (x6 : ByteArray) (pp : Nat) (w : World) (hS : Src W0 w c a len cap pp) (hp : pp ≤ p + 40 * (b4.toNat)) (hg : w0.grownBy w (some c)) (hbox : RowAt w XB 25 (cond false #[y0, .string x6, y2, y3, y4] #[y0, y1, y2, y3, y4])) (hR : RowAt w XR 25 zr) (hBz : B ≤ w.heap.size) (hst : c < XB ∧ c < B ∧ w0.heap.size ≤ B ∧ XR ≠ XB ∧ w0.heap.size ≤ XB ∧ W0.heap.size ≤ c ∧ p ≤ 900000 ∧ c ≠ XR) (hoO : OwnHp w BO (.slice aO nO cO) LO ∧ c < BO) (hoU : OwnHp w BU (.slice aU nU cU) LU ∧ c < BU) (hX0 : true = true → false = false → OwnNums w B 5 .u8 (.slice (some ⟨X0, 0, none⟩) 1001 1001) (List.replicate 1001 0)) (hx1 : false = true → x1.size ≤ 1002) (hX2 : false = true → false = false → RowAt w X2 9 #[.string ⟨#[]⟩, .string ⟨#[120]⟩, .string x1] ∧ B ≤ X2) (hR4 : b4 = true → R4 < 3) (hx6 : false = true → x6.size ≤ 1002) :
    wpOp Tryz.prog ra6O Q 1 (ra6I W0 w0 c a len cap p XR XB B zr y0 y1 y2 y3 y4 BO aO nO cO LO BU aU nU cU LU s1 s4 s5 s6 s7 s8 s9 s10 s11 s12 s13 s14 s15 s16 s17 s18 s19 s20 s21 s22 s23 s24 s25 s26 s27 s28 s29 s30 s31 s32 s33 s34 s35 s36 s37 s38 s39 s40 s41 s42 s43 s44 s45 s46 s47 s48 s49 s50 s51 s52 s53 s54 s55 s56 s57 s58 s59 s60 s61 s62 s63 s64 s65 s66 s67 s68 s69 s70 s71 #[true, true, false, b3, b4, false, false, false, false]) { tmps := #[.pointer (some ⟨c, 0, none⟩), s1, .pointer (some ⟨XR, 0, none⟩), .pointer (some ⟨XB, 0, none⟩), s4, s5, s6, s7, s8, s9, s10, s11, s12, s13, s14, s15, s16, s17, .slice (some ⟨X0, 0, none⟩) 1001 1001, s19, s20, sel b3 (.pointer (some ⟨c, 0, none⟩)) (s21), sel b4 (.int .i64 (R4 : Int)) (s22), s23, s24, s25, s26, s27, s28, s29, s30, s31, s32, s33, s34, s35, s36, s37, s38, s39, s40, s41, s42, s43, s44, s45, s46, s47, s48, s49, s50, s51, s52, s53, s54, s55, s56, s57, s58, s59, s60, s61, s62, s63, s64, s65, s66, s67, s68, s69, s70, s71], defers := [] } w := by
  have hcv := conv_owned w 22 5 9 Tryz.underlying22 Tryz.underlying5 Tryz.underlying9 (hX0 rfl rfl)
  refine wpOp_step (o := { dst := some 19, op := Op.convert 22 9 (Operand.tmp 18), type := 9, pos := "l10_request.go:395", after := #[{ on := 0, ground := Ground.data }], guard := none }) rfl (fun K hK => ?_)
  replace hK := hid hK
  go_simp
  exact hK.out _ _ ⟨true, true, false, b3, b4, false, false, false, false, X0, (strOfNums (List.replicate 1001 0)), X2, R4, x6, pp, rfl, rfl, hS, hp, hg, hbox, hR, hBz, hst, hoO, hoU, hX0, fun _ => by rw [strOfNums_size, List.length_replicate]; omega, fun h => Bool.noConfusion h, hR4, hx6⟩
set_option maxRecDepth 20000 in
set_option maxHeartbeats 1000000 in
theorem ra6_s2 {Q : Exit → Act → World → Prop} (W0 w0 : World) (c : Nat) (a : Option Addr) (len cap p XR XB B : Nat) (zr : Array Value) (y0 y1 y2 y3 y4 : Value) (BO : Nat) (aO : Option Addr) (nO cO : Nat) (LO : List Hp) (BU : Nat) (aU : Option Addr) (nU cU : Nat) (LU : List Hp) (s1 s4 s5 s6 s7 s8 s9 s10 s11 s12 s13 s14 s15 s16 s17 s18 s19 s20 s21 s22 s23 s24 s25 s26 s27 s28 s29 s30 s31 s32 s33 s34 s35 s36 s37 s38 s39 s40 s41 s42 s43 s44 s45 s46 s47 s48 s49 s50 s51 s52 s53 s54 s55 s56 s57 s58 s59 s60 s61 s62 s63 s64 s65 s66 s67 s68 s69 s70 s71 : Value) (b3 b4 : Bool) (X0 : Nat) (x1 : ByteArray) (X2 : Nat) (R4 : Nat) (x6 : ByteArray) (pp : Nat) (w : World) (hS : Src W0 w c a len cap pp) (hp : pp ≤ p + 40 * (b4.toNat)) (hg : w0.grownBy w (some c)) (hbox : RowAt w XB 25 (cond false #[y0, .string x6, y2, y3, y4] #[y0, y1, y2, y3, y4])) (hR : RowAt w XR 25 zr) (hBz : B ≤ w.heap.size) (hst : c < XB ∧ c < B ∧ w0.heap.size ≤ B ∧ XR ≠ XB ∧ w0.heap.size ≤ XB ∧ W0.heap.size ≤ c ∧ p ≤ 900000 ∧ c ≠ XR) (hoO : OwnHp w BO (.slice aO nO cO) LO ∧ c < BO) (hoU : OwnHp w BU (.slice aU nU cU) LU ∧ c < BU) (hX0 : true = true → false = false → OwnNums w B 5 .u8 (.slice (some ⟨X0, 0, none⟩) 1001 1001) (List.replicate 1001 0)) (hx1 : true = true → x1.size ≤ 1002) (hX2 : false = true → false = false → RowAt w X2 9 #[.string ⟨#[]⟩, .string ⟨#[120]⟩, .string x1] ∧ B ≤ X2) (hR4 : b4 = true → R4 < 3) (hx6 : false = true → x6.size ≤ 1002) :
    wpOp Tryz.prog ra6O Q 2 (ra6I W0 w0 c a len cap p XR XB B zr y0 y1 y2 y3 y4 BO aO nO cO LO BU aU nU cU LU s1 s4 s5 s6 s7 s8 s9 s10 s11 s12 s13 s14 s15 s16 s17 s18 s19 s20 s21 s22 s23 s24 s25 s26 s27 s28 s29 s30 s31 s32 s33 s34 s35 s36 s37 s38 s39 s40 s41 s42 s43 s44 s45 s46 s47 s48 s49 s50 s51 s52 s53 s54 s55 s56 s57 s58 s59 s60 s61 s62 s63 s64 s65 s66 s67 s68 s69 s70 s71 #[true, true, true, b3, b4, false, false, false, false]) { tmps := #[.pointer (some ⟨c, 0, none⟩), s1, .pointer (some ⟨XR, 0, none⟩), .pointer (some ⟨XB, 0, none⟩), s4, s5, s6, s7, s8, s9, s10, s11, s12, s13, s14, s15, s16, s17, .slice (some ⟨X0, 0, none⟩) 1001 1001, .string x1, s20, sel b3 (.pointer (some ⟨c, 0, none⟩)) (s21), sel b4 (.int .i64 (R4 : Int)) (s22), s23, s24, s25, s26, s27, s28, s29, s30, s31, s32, s33, s34, s35, s36, s37, s38, s39, s40, s41, s42, s43, s44, s45, s46, s47, s48, s49, s50, s51, s52, s53, s54, s55, s56, s57, s58, s59, s60, s61, s62, s63, s64, s65, s66, s67, s68, s69, s70, s71], defers := [] } w := by
  refine wpOp_step (o := { dst := some 20, op := Op.buildSlice 86 3 #[(0, Operand.const (Value.string { data := #[] })), (1, Operand.const (Value.string { data := #[120] })), (2, Operand.tmp 19)], type := 86, pos := "l10_request.go:395", after := #[{ on := 1, ground := Ground.data }], guard := none }) rfl (fun K hK => ?_)
  replace hK := hid hK
  go_simp
  exact hK.out _ _ ⟨true, true, true, b3, b4, false, false, false, false, X0, x1, w.heap.size, R4, x6, pp, rfl, rfl, hS.alloc _, hp, grown_al hg _, hbox.alloc _, hR.alloc _, by simp only [World.size_alloc]; omega, hst, ⟨World.ownsRow.alloc hoO.1 _, hoO.2⟩, ⟨World.ownsRow.alloc hoU.1 _, hoU.2⟩, fun h e => World.ownsRow.alloc (hX0 h e) _, hx1, fun _ _ => ⟨RowAt.new w _ _, hBz⟩, hR4, hx6⟩
set_option maxRecDepth 20000 in
set_option maxHeartbeats 1000000 in
theorem ra6_s3 {Q : Exit → Act → World → Prop} (W0 w0 : World) (c : Nat) (a : Option Addr) (len cap p XR XB B : Nat) (zr : Array Value) (y0 y1 y2 y3 y4 : Value) (BO : Nat) (aO : Option Addr) (nO cO : Nat) (LO : List Hp) (BU : Nat) (aU : Option Addr) (nU cU : Nat) (LU : List Hp) (s1 s4 s5 s6 s7 s8 s9 s10 s11 s12 s13 s14 s15 s16 s17 s18 s19 s20 s21 s22 s23 s24 s25 s26 s27 s28 s29 s30 s31 s32 s33 s34 s35 s36 s37 s38 s39 s40 s41 s42 s43 s44 s45 s46 s47 s48 s49 s50 s51 s52 s53 s54 s55 s56 s57 s58 s59 s60 s61 s62 s63 s64 s65 s66 s67 s68 s69 s70 s71 : Value) (b0 b1 b2 : Bool) (X0 : Nat) (x1 : ByteArray) (X2 : Nat) (R4 : Nat) (x6 : ByteArray) (pp : Nat) (w : World) (hS : Src W0 w c a len cap pp) (hp : pp ≤ p + 40 * (0)) (hg : w0.grownBy w (some c)) (hbox : RowAt w XB 25 (cond false #[y0, .string x6, y2, y3, y4] #[y0, y1, y2, y3, y4])) (hR : RowAt w XR 25 zr) (hBz : B ≤ w.heap.size) (hst : c < XB ∧ c < B ∧ w0.heap.size ≤ B ∧ XR ≠ XB ∧ w0.heap.size ≤ XB ∧ W0.heap.size ≤ c ∧ p ≤ 900000 ∧ c ≠ XR) (hoO : OwnHp w BO (.slice aO nO cO) LO ∧ c < BO) (hoU : OwnHp w BU (.slice aU nU cU) LU ∧ c < BU) (hX0 : b0 = true → false = false → OwnNums w B 5 .u8 (.slice (some ⟨X0, 0, none⟩) 1001 1001) (List.replicate 1001 0)) (hx1 : b1 = true → x1.size ≤ 1002) (hX2 : b2 = true → false = false → RowAt w X2 9 #[.string ⟨#[]⟩, .string ⟨#[120]⟩, .string x1] ∧ B ≤ X2) (hR4 : false = true → R4 < 3) (hx6 : false = true → x6.size ≤ 1002) :
    wpOp Tryz.prog ra6O Q 3 (ra6I W0 w0 c a len cap p XR XB B zr y0 y1 y2 y3 y4 BO aO nO cO LO BU aU nU cU LU s1 s4 s5 s6 s7 s8 s9 s10 s11 s12 s13 s14 s15 s16 s17 s18 s19 s20 s21 s22 s23 s24 s25 s26 s27 s28 s29 s30 s31 s32 s33 s34 s35 s36 s37 s38 s39 s40 s41 s42 s43 s44 s45 s46 s47 s48 s49 s50 s51 s52 s53 s54 s55 s56 s57 s58 s59 s60 s61 s62 s63 s64 s65 s66 s67 s68 s69 s70 s71 #[b0, b1, b2, true, false, false, false, false, false]) { tmps := #[.pointer (some ⟨c, 0, none⟩), s1, .pointer (some ⟨XR, 0, none⟩), .pointer (some ⟨XB, 0, none⟩), s4, s5, s6, s7, s8, s9, s10, s11, s12, s13, s14, s15, s16, s17, sel b0 (.slice (some ⟨X0, 0, none⟩) 1001 1001) (s18), sel b1 (.string x1) (s19), sel b2 (.slice (some ⟨X2, 0, none⟩) 3 3) (s20), s21, s22, s23, s24, s25, s26, s27, s28, s29, s30, s31, s32, s33, s34, s35, s36, s37, s38, s39, s40, s41, s42, s43, s44, s45, s46, s47, s48, s49, s50, s51, s52, s53, s54, s55, s56, s57, s58, s59, s60, s61, s62, s63, s64, s65, s66, s67, s68, s69, s70, s71], defers := [] } w := by
  refine wpOp_step (o := { dst := some 21, op := Op.move (Operand.tmp 0), type := 43, pos := "l10_request.go:395", after := #[], guard := none }) rfl (fun K hK => ?_)
  replace hK := hid hK
  go_simp
  exact hK.out _ _ ⟨b0, b1, b2, true, false, false, false, false, false, X0, x1, X2, R4, x6, pp, rfl, rfl, hS, hp, hg, hbox, hR, hBz, hst, hoO, hoU, hX0, hx1, hX2, hR4, hx6⟩
set_option maxRecDepth 20000 in
set_option maxHeartbeats 1000000 in
theorem ra6_s4 {Q : Exit → Act → World → Prop} (W0 w0 : World) (c : Nat) (a : Option Addr) (len cap p XR XB B : Nat) (zr : Array Value) (y0 y1 y2 y3 y4 : Value) (BO : Nat) (aO : Option Addr) (nO cO : Nat) (LO : List Hp) (BU : Nat) (aU : Option Addr) (nU cU : Nat) (LU : List Hp) (s1 s4 s5 s6 s7 s8 s9 s10 s11 s12 s13 s14 s15 s16 s17 s18 s19 s20 s21 s22 s23 s24 s25 s26 s27 s28 s29 s30 s31 s32 s33 s34 s35 s36 s37 s38 s39 s40 s41 s42 s43 s44 s45 s46 s47 s48 s49 s50 s51 s52 s53 s54 s55 s56 s57 s58 s59 s60 s61 s62 s63 s64 s65 s66 s67 s68 s69 s70 s71 : Value) (b0 b1 b2 : Bool) (X0 : Nat) (x1 : ByteArray) (X2 : Nat) (R4 : Nat) (x6 : ByteArray) (pp : Nat) (w : World) (hS : Src W0 w c a len cap pp) (hp : pp ≤ p + 40 * (0)) (hg : w0.grownBy w (some c)) (hbox : RowAt w XB 25 (cond false #[y0, .string x6, y2, y3, y4] #[y0, y1, y2, y3, y4])) (hR : RowAt w XR 25 zr) (hBz : B ≤ w.heap.size) (hst : c < XB ∧ c < B ∧ w0.heap.size ≤ B ∧ XR ≠ XB ∧ w0.heap.size ≤ XB ∧ W0.heap.size ≤ c ∧ p ≤ 900000 ∧ c ≠ XR) (hoO : OwnHp w BO (.slice aO nO cO) LO ∧ c < BO) (hoU : OwnHp w BU (.slice aU nU cU) LU ∧ c < BU) (hX0 : b0 = true → false = false → OwnNums w B 5 .u8 (.slice (some ⟨X0, 0, none⟩) 1001 1001) (List.replicate 1001 0)) (hx1 : b1 = true → x1.size ≤ 1002) (hX2 : b2 = true → false = false → RowAt w X2 9 #[.string ⟨#[]⟩, .string ⟨#[120]⟩, .string x1] ∧ B ≤ X2) (hR4 : false = true → R4 < 3) (hx6 : false = true → x6.size ≤ 1002) :
    wpOp Tryz.prog ra6O Q 4 (ra6I W0 w0 c a len cap p XR XB B zr y0 y1 y2 y3 y4 BO aO nO cO LO BU aU nU cU LU s1 s4 s5 s6 s7 s8 s9 s10 s11 s12 s13 s14 s15 s16 s17 s18 s19 s20 s21 s22 s23 s24 s25 s26 s27 s28 s29 s30 s31 s32 s33 s34 s35 s36 s37 s38 s39 s40 s41 s42 s43 s44 s45 s46 s47 s48 s49 s50 s51 s52 s53 s54 s55 s56 s57 s58 s59 s60 s61 s62 s63 s64 s65 s66 s67 s68 s69 s70 s71 #[b0, b1, b2, true, true, false, false, false, false]) { tmps := #[.pointer (some ⟨c, 0, none⟩), s1, .pointer (some ⟨XR, 0, none⟩), .pointer (some ⟨XB, 0, none⟩), s4, s5, s6, s7, s8, s9, s10, s11, s12, s13, s14, s15, s16, s17, sel b0 (.slice (some ⟨X0, 0, none⟩) 1001 1001) (s18), sel b1 (.string x1) (s19), sel b2 (.slice (some ⟨X2, 0, none⟩) 3 3) (s20), .pointer (some ⟨c, 0, none⟩), s22, s23, s24, s25, s26, s27, s28, s29, s30, s31, s32, s33, s34, s35, s36, s37, s38, s39, s40, s41, s42, s43, s44, s45, s46, s47, s48, s49, s50, s51, s52, s53, s54, s55, s56, s57, s58, s59, s60, s61, s62, s63, s64, s65, s66, s67, s68, s69, s70, s71], defers := [] } w := by
  have hcB : c < B := by omega
  refine wpOp_step (o := { dst := some 22, op := Op.call { callee := Callee.value (Operand.func 52), args := #[Operand.tmp 21, Operand.const (Value.int IntKind.i64 3)], argTypes := #[43, 2] }, type := 2, pos := "l10_request.go:395", after := #[{ on := 3, ground := Ground.data }], guard := none }) rfl (fun K hK => ?_)
  replace hK := hid hK
  go_simp
  refine (n_all W0 _ c a len cap pp 3 hS (by omega) (by omega) (by omega)).mono ?_
  rintro e w2 ⟨⟨r, rfl, h20, h21⟩, hs2, hg2⟩
  obtain ⟨R, rfl⟩ := Int.eq_ofNat_of_zero_le h20
  dsimp only
  exact hK.out _ _ ⟨b0, b1, b2, true, true, false, false, false, false, X0, x1, X2, R, x6, pp + 1, rfl, rfl, hs2, by show pp + 1 ≤ p + 40 * (1); omega, grown_trans hg hg2, rowF hbox hg2 hst.1, rowF2 hR hg2 hst.2.2.2.2.2.2.2, Nat.le_trans hBz hg2.size, hst, ⟨OwnHp.keptC hoO.1 hg2 hoO.2, hoO.2⟩, ⟨OwnHp.keptC hoU.1 hg2 hoU.2, hoU.2⟩, fun h e => OwnNums.kept (hX0 h e) hg2 (by omega), hx1, fun h e => ⟨rowF (hX2 h e).1 hg2 (by have := (hX2 h e).2; omega), (hX2 h e).2⟩, fun _ => by omega, hx6⟩
set_option maxRecDepth 20000 in
set_option maxHeartbeats 1000000 in
theorem ra6_s5 {Q : Exit → Act → World → Prop} (W0 w0 : World) (c : Nat) (a : Option Addr) (len cap p XR XB B : Nat) (zr : Array Value) (y0 y1 y2 y3 y4 : Value) (BO : Nat) (aO : Option Addr) (nO cO : Nat) (LO : List Hp) (BU : Nat) (aU : Option Addr) (nU cU : Nat) (LU : List Hp) (s1 s4 s5 s6 s7 s8 s9 s10 s11 s12 s13 s14 s15 s16 s17 s18 s19 s20 s21 s22 s23 s24 s25 s26 s27 s28 s29 s30 s31 s32 s33 s34 s35 s36 s37 s38 s39 s40 s41 s42 s43 s44 s45 s46 s47 s48 s49 s50 s51 s52 s53 s54 s55 s56 s57 s58 s59 s60 s61 s62 s63 s64 s65 s66 s67 s68 s69 s70 s71 : Value) (X0 : Nat) (x1 : ByteArray) (X2 : Nat) (R4 : Nat) (x6 : ByteArray) (pp : Nat) (w : World) (hS : Src W0 w c a len cap pp) (hp : pp ≤ p + 40 * (1)) (hg : w0.grownBy w (some c)) (hbox : RowAt w XB 25 (cond false #[y0, .string x6, y2, y3, y4] #[y0, y1, y2, y3, y4])) (hR : RowAt w XR 25 zr) (hBz : B ≤ w.heap.size) (hst : c < XB ∧ c < B ∧ w0.heap.size ≤ B ∧ XR ≠ XB ∧ w0.heap.size ≤ XB ∧ W0.heap.size ≤ c ∧ p ≤ 900000 ∧ c ≠ XR) (hoO : OwnHp w BO (.slice aO nO cO) LO ∧ c < BO) (hoU : OwnHp w BU (.slice aU nU cU) LU ∧ c < BU) (hX0 : true = true → false = false → OwnNums w B 5 .u8 (.slice (some ⟨X0, 0, none⟩) 1001 1001) (List.replicate 1001 0)) (hx1 : true = true → x1.size ≤ 1002) (hX2 : true = true → false = false → RowAt w X2 9 #[.string ⟨#[]⟩, .string ⟨#[120]⟩, .string x1] ∧ B ≤ X2) (hR4 : true = true → R4 < 3) (hx6 : false = true → x6.size ≤ 1002) :
    wpOp Tryz.prog ra6O Q 5 (ra6I W0 w0 c a len cap p XR XB B zr y0 y1 y2 y3 y4 BO aO nO cO LO BU aU nU cU LU s1 s4 s5 s6 s7 s8 s9 s10 s11 s12 s13 s14 s15 s16 s17 s18 s19 s20 s21 s22 s23 s24 s25 s26 s27 s28 s29 s30 s31 s32 s33 s34 s35 s36 s37 s38 s39 s40 s41 s42 s43 s44 s45 s46 s47 s48 s49 s50 s51 s52 s53 s54 s55 s56 s57 s58 s59 s60 s61 s62 s63 s64 s65 s66 s67 s68 s69 s70 s71 #[true, true, true, true, true, true, false, false, false]) { tmps := #[.pointer (some ⟨c, 0, none⟩), s1, .pointer (some ⟨XR, 0, none⟩), .pointer (some ⟨XB, 0, none⟩), s4, s5, s6, s7, s8, s9, s10, s11, s12, s13, s14, s15, s16, s17, .slice (some ⟨X0, 0, none⟩) 1001 1001, .string x1, .slice (some ⟨X2, 0, none⟩) 3 3, .pointer (some ⟨c, 0, none⟩), .int .i64 (R4 : Int), s23, s24, s25, s26, s27, s28, s29, s30, s31, s32, s33, s34, s35, s36, s37, s38, s39, s40, s41, s42, s43, s44, s45, s46, s47, s48, s49, s50, s51, s52, s53, s54, s55, s56, s57, s58, s59, s60, s61, s62, s63, s64, s65, s66, s67, s68, s69, s70, s71], defers := [] } w := by
  have r := hR4 rfl
  have r0 : (R4 : Int) < 3 := by omega
  refine wpOp_step (o := { dst := some 23, op := Op.indexAddr 86 (Operand.tmp 20) (Operand.tmp 22), type := 0, pos := "l10_request.go:395", after := #[{ on := 2, ground := Ground.data }, { on := 4, ground := Ground.data }], guard := none }) rfl (fun K hK => ?_)
  replace hK := hid hK
  go_simp
  exact hK.out _ _ ⟨true, true, true, true, true, true, false, false, false, X0, x1, X2, R4, x6, pp, rfl, rfl, hS, hp, hg, hbox, hR, hBz, hst, hoO, hoU, hX0, hx1, hX2, hR4, hx6⟩
set_option maxRecDepth 20000 in
set_option maxHeartbeats 1000000 in
theorem ra6_s6 {Q : Exit → Act → World → Prop} (W0 w0 : World) (c : Nat) (a : Option Addr) (len cap p XR XB B : Nat) (zr : Array Value) (y0 y1 y2 y3 y4 : Value) (BO : Nat) (aO : Option Addr) (nO cO : Nat) (LO : List Hp) (BU : Nat) (aU : Option Addr) (nU cU : Nat) (LU : List Hp) (s1 s4 s5 s6 s7 s8 s9 s10 s11 s12 s13 s14 s15 s16 s17 s18 s19 s20 s21 s22 s23 s24 s25 s26 s27 s28 s29 s30 s31 s32 s33 s34 s35 s36 s37 s38 s39 s40 s41 s42 s43 s44 s45 s46 s47 s48 s49 s50 s51 s52 s53 s54 s55 s56 s57 s58 s59 s60 s61 s62 s63 s64 s65 s66 s67 s68 s69 s70 s71 : Value) (X0 : Nat) (x1 : ByteArray) (X2 : Nat) (R4 : Nat) (x6 : ByteArray) (pp : Nat) (w : World) (hS : Src W0 w c a len cap pp) (hp : pp ≤ p + 40 * (1)) (hg : w0.grownBy w (some c)) (hbox : RowAt w XB 25 (cond false #[y0, .string x6, y2, y3, y4] #[y0, y1, y2, y3, y4])) (hR : RowAt w XR 25 zr) (hBz : B ≤ w.heap.size) (hst : c < XB ∧ c < B ∧ w0.heap.size ≤ B ∧ XR ≠ XB ∧ w0.heap.size ≤ XB ∧ W0.heap.size ≤ c ∧ p ≤ 900000 ∧ c ≠ XR) (hoO : OwnHp w BO (.slice aO nO cO) LO ∧ c < BO) (hoU : OwnHp w BU (.slice aU nU cU) LU ∧ c < BU) (hX0 : true = true → false = false → OwnNums w B 5 .u8 (.slice (some ⟨X0, 0, none⟩) 1001 1001) (List.replicate 1001 0)) (hx1 : true = true → x1.size ≤ 1002) (hX2 : true = true → false = false → RowAt w X2 9 #[.string ⟨#[]⟩, .string ⟨#[120]⟩, .string x1] ∧ B ≤ X2) (hR4 : true = true → R4 < 3) (hx6 : false = true → x6.size ≤ 1002) :
    wpOp Tryz.prog ra6O Q 6 (ra6I W0 w0 c a len cap p XR XB B zr y0 y1 y2 y3 y4 BO aO nO cO LO BU aU nU cU LU s1 s4 s5 s6 s7 s8 s9 s10 s11 s12 s13 s14 s15 s16 s17 s18 s19 s20 s21 s22 s23 s24 s25 s26 s27 s28 s29 s30 s31 s32 s33 s34 s35 s36 s37 s38 s39 s40 s41 s42 s43 s44 s45 s46 s47 s48 s49 s50 s51 s52 s53 s54 s55 s56 s57 s58 s59 s60 s61 s62 s63 s64 s65 s66 s67 s68 s69 s70 s71 #[true, true, true, true, true, true, true, false, false]) { tmps := #[.pointer (some ⟨c, 0, none⟩), s1, .pointer (some ⟨XR, 0, none⟩), .pointer (some ⟨XB, 0, none⟩), s4, s5, s6, s7, s8, s9, s10, s11, s12, s13, s14, s15, s16, s17, .slice (some ⟨X0, 0, none⟩) 1001 1001, .string x1, .slice (some ⟨X2, 0, none⟩) 3 3, .pointer (some ⟨c, 0, none⟩), .int .i64 (R4 : Int), .pointer (some ⟨X2, R4, none⟩), s24, s25, s26, s27, s28, s29, s30, s31, s32, s33, s34, s35, s36, s37, s38, s39, s40, s41, s42, s43, s44, s45, s46, s47, s48, s49, s50, s51, s52, s53, s54, s55, s56, s57, s58, s59, s60, s61, s62, s63, s64, s65, s66, s67, s68, s69, s70, s71], defers := [] } w := by
  obtain ⟨tt, hk2, htt⟩ := ra6_tab2 x1 (hx1 rfl) R4 (hR4 rfl)
  have c2 := ((hX2 rfl rfl).1.cell R4).trans hk2
  refine wpOp_step (o := { dst := some 24, op := Op.load 9 (Operand.tmp 23), type := 9, pos := "l10_request.go:395", after := #[{ on := 5, ground := Ground.data }], guard := none }) rfl (fun K hK => ?_)
  replace hK := hid hK
  go_simp
  exact hK.out _ _ ⟨true, true, true, true, true, true, true, false, false, X0, x1, X2, R4, tt, pp, rfl, rfl, hS, hp, hg, hbox, hR, hBz, hst, hoO, hoU, hX0, hx1, hX2, hR4, fun _ => htt⟩
set_option maxRecDepth 20000 in
set_option maxHeartbeats 1000000 in
theorem ra6_s7 {Q : Exit → Act → World → Prop} (W0 w0 : World) (c : Nat) (a : Option Addr) (len cap p XR XB B : Nat) (zr : Array Value) (y0 y1 y2 y3 y4 : Value) (BO : Nat) (aO : Option Addr) (nO cO : Nat) (LO : List Hp) (BU : Nat) (aU : Option Addr) (nU cU : Nat) (LU : List Hp) (s1 s4 s5 s6 s7 s8 s9 s10 s11 s12 s13 s14 s15 s16 s17 s18 s19 s20 s21 s22 s23 s24 s25 s26 s27 s28 s29 s30 s31 s32 s33 s34 s35 s36 s37 s38 s39 s40 s41 s42 s43 s44 s45 s46 s47 s48 s49 s50 s51 s52 s53 s54 s55 s56 s57 s58 s59 s60 s61 s62 s63 s64 s65 s66 s67 s68 s69 s70 s71 : Value) (X0 : Nat) (x1 : ByteArray) (X2 : Nat) (R4 : Nat) (x6 : ByteArray) (pp : Nat) (w : World) (hS : Src W0 w c a len cap pp) (hp : pp ≤ p + 40 * (1)) (hg : w0.grownBy w (some c)) (hbox : RowAt w XB 25 (cond false #[y0, .string x6, y2, y3, y4] #[y0, y1, y2, y3, y4])) (hR : RowAt w XR 25 zr) (hBz : B ≤ w.heap.size) (hst : c < XB ∧ c < B ∧ w0.heap.size ≤ B ∧ XR ≠ XB ∧ w0.heap.size ≤ XB ∧ W0.heap.size ≤ c ∧ p ≤ 900000 ∧ c ≠ XR) (hoO : OwnHp w BO (.slice aO nO cO) LO ∧ c < BO) (hoU : OwnHp w BU (.slice aU nU cU) LU ∧ c < BU) (hX0 : true = true → false = false → OwnNums w B 5 .u8 (.slice (some ⟨X0, 0, none⟩) 1001 1001) (List.replicate 1001 0)) (hx1 : true = true → x1.size ≤ 1002) (hX2 : true = true → false = false → RowAt w X2 9 #[.string ⟨#[]⟩, .string ⟨#[120]⟩, .string x1] ∧ B ≤ X2) (hR4 : true = true → R4 < 3) (hx6 : true = true → x6.size ≤ 1002) :
    wpOp Tryz.prog ra6O Q 7 (ra6I W0 w0 c a len cap p XR XB B zr y0 y1 y2 y3 y4 BO aO nO cO LO BU aU nU cU LU s1 s4 s5 s6 s7 s8 s9 s10 s11 s12 s13 s14 s15 s16 s17 s18 s19 s20 s21 s22 s23 s24 s25 s26 s27 s28 s29 s30 s31 s32 s33 s34 s35 s36 s37 s38 s39 s40 s41 s42 s43 s44 s45 s46 s47 s48 s49 s50 s51 s52 s53 s54 s55 s56 s57 s58 s59 s60 s61 s62 s63 s64 s65 s66 s67 s68 s69 s70 s71 #[true, true, true, true, true, true, true, true, false]) { tmps := #[.pointer (some ⟨c, 0, none⟩), s1, .pointer (some ⟨XR, 0, none⟩), .pointer (some ⟨XB, 0, none⟩), s4, s5, s6, s7, s8, s9, s10, s11, s12, s13, s14, s15, s16, s17, .slice (some ⟨X0, 0, none⟩) 1001 1001, .string x1, .slice (some ⟨X2, 0, none⟩) 3 3, .pointer (some ⟨c, 0, none⟩), .int .i64 (R4 : Int), .pointer (some ⟨X2, R4, none⟩), .string x6, s25, s26, s27, s28, s29, s30, s31, s32, s33, s34, s35, s36, s37, s38, s39, s40, s41, s42, s43, s44, s45, s46, s47, s48, s49, s50, s51, s52, s53, s54, s55, s56, s57, s58, s59, s60, s61, s62, s63, s64, s65, s66, s67, s68, s69, s70, s71], defers := [] } w := by
  refine wpOp_step (o := { dst := some 25, op := Op.fieldAddr 25 (Operand.tmp 3) 1, type := 0, pos := "l10_request.go:395", after := #[{ on := 0, ground := Ground.phase }, { on := 1, ground := Ground.phase }, { on := 2, ground := Ground.phase }, { on := 3, ground := Ground.phase }, { on := 4, ground := Ground.phase }, { on := 5, ground := Ground.phase }, { on := 6, ground := Ground.phase }], guard := none }) rfl (fun K hK => ?_)
  replace hK := hid hK
  go_simp
  exact hK.out _ _ ⟨true, true, true, true, true, true, true, true, false, X0, x1, X2, R4, x6, pp, rfl, rfl, hS, hp, hg, hbox, hR, hBz, hst, hoO, hoU, hX0, hx1, hX2, hR4, hx6⟩
set_option maxRecDepth 20000 in
set_option maxHeartbeats 1000000 in
theorem ra6_s8 {Q : Exit → Act → World → Prop} (W0 w0 : World) (c : Nat) (a : Option Addr) (len cap p XR XB B : Nat) (zr : Array Value) (y0 y1 y2 y3 y4 : Value) (BO : Nat) (aO : Option Addr) (nO cO : Nat) (LO : List Hp) (BU : Nat) (aU : Option Addr) (nU cU : Nat) (LU : List Hp) (s1 s4 s5 s6 s7 s8 s9 s10 s11 s12 s13 s14 s15 s16 s17 s18 s19 s20 s21 s22 s23 s24 s25 s26 s27 s28 s29 s30 s31 s32 s33 s34 s35 s36 s37 s38 s39 s40 s41 s42 s43 s44 s45 s46 s47 s48 s49 s50 s51 s52 s53 s54 s55 s56 s57 s58 s59 s60 s61 s62 s63 s64 s65 s66 s67 s68 s69 s70 s71 : Value) (X0 : Nat) (x1 : ByteArray) (X2 : Nat) (R4 : Nat) (x6 : ByteArray) (pp : Nat) (w : World) (hS : Src W0 w c a len cap pp) (hp : pp ≤ p + 40 * (1)) (hg : w0.grownBy w (some c)) (hbox : RowAt w XB 25 (cond false #[y0, .string x6, y2, y3, y4] #[y0, y1, y2, y3, y4])) (hR : RowAt w XR 25 zr) (hBz : B ≤ w.heap.size) (hst : c < XB ∧ c < B ∧ w0.heap.size ≤ B ∧ XR ≠ XB ∧ w0.heap.size ≤ XB ∧ W0.heap.size ≤ c ∧ p ≤ 900000 ∧ c ≠ XR) (hoO : OwnHp w BO (.slice aO nO cO) LO ∧ c < BO) (hoU : OwnHp w BU (.slice aU nU cU) LU ∧ c < BU) (hX0 : true = true → false = false → OwnNums w B 5 .u8 (.slice (some ⟨X0, 0, none⟩) 1001 1001) (List.replicate 1001 0)) (hx1 : true = true → x1.size ≤ 1002) (hX2 : true = true → false = false → RowAt w X2 9 #[.string ⟨#[]⟩, .string ⟨#[120]⟩, .string x1] ∧ B ≤ X2) (hR4 : true = true → R4 < 3) (hx6 : true = true → x6.size ≤ 1002) :
    wpOp Tryz.prog ra6O Q 8 (ra6I W0 w0 c a len cap p XR XB B zr y0 y1 y2 y3 y4 BO aO nO cO LO BU aU nU cU LU s1 s4 s5 s6 s7 s8 s9 s10 s11 s12 s13 s14 s15 s16 s17 s18 s19 s20 s21 s22 s23 s24 s25 s26 s27 s28 s29 s30 s31 s32 s33 s34 s35 s36 s37 s38 s39 s40 s41 s42 s43 s44 s45 s46 s47 s48 s49 s50 s51 s52 s53 s54 s55 s56 s57 s58 s59 s60 s61 s62 s63 s64 s65 s66 s67 s68 s69 s70 s71 #[true, true, true, true, true, true, true, true, true]) { tmps := #[.pointer (some ⟨c, 0, none⟩), s1, .pointer (some ⟨XR, 0, none⟩), .pointer (some ⟨XB, 0, none⟩), s4, s5, s6, s7, s8, s9, s10, s11, s12, s13, s14, s15, s16, s17, .slice (some ⟨X0, 0, none⟩) 1001 1001, .string x1, .slice (some ⟨X2, 0, none⟩) 3 3, .pointer (some ⟨c, 0, none⟩), .int .i64 (R4 : Int), .pointer (some ⟨X2, R4, none⟩), .string x6, .pointer (some ⟨XB, 1, none⟩), s26, s27, s28, s29, s30, s31, s32, s33, s34, s35, s36, s37, s38, s39, s40, s41, s42, s43, s44, s45, s46, s47, s48, s49, s50, s51, s52, s53, s54, s55, s56, s57, s58, s59, s60, s61, s62, s63, s64, s65, s66, s67, s68, s69, s70, s71], defers := [] } w := by
  have hbx : RowAt w XB 25 #[y0, y1, y2, y3, y4] := hbox
  have q := hbx.cell 1
  have f := hbx.free 1
  refine wpOp_step (o := { dst := none, op := Op.store 9 (Operand.tmp 25) (Operand.tmp 24), type := 0, pos := "l10_request.go:395", after := #[{ on := 7, ground := Ground.data }, { on := 6, ground := Ground.data }, { on := 4, ground := Ground.chain }, { on := 0, ground := Ground.phase }, { on := 1, ground := Ground.phase }, { on := 2, ground := Ground.phase }, { on := 3, ground := Ground.phase }, { on := 4, ground := Ground.phase }, { on := 5, ground := Ground.phase }, { on := 6, ground := Ground.phase }], guard := none }) rfl (fun K hK => ?_)
  replace hK := hid hK
  go_simp
  exact hK.out _ _ ⟨true, true, true, true, true, true, true, true, true, X0, x1, X2, R4, x6, pp, rfl, rfl, hS.set hst.1 1 _, hp, grown_far hg hst.2.2.2.2.1 1 _, hbx.set 1 _, hR.other ⟨XB, 1, none⟩ _ hst.2.2.2.1, by simp; omega, hst, ⟨OwnHp.setCellN hoO.1 (OwnHp.neRow hoO.1 hbx (by decide)), hoO.2⟩, ⟨OwnHp.setCellN hoU.1 (OwnHp.neRow hoU.1 hbx (by decide)), hoU.2⟩, fun h e => Bool.noConfusion e, hx1, fun h e => Bool.noConfusion e, hR4, hx6⟩
set_option maxRecDepth 20000 in
set_option maxHeartbeats 2000000 in
theorem ra6_step {Q : Exit → Act → World → Prop} (W0 w0 : World) (c : Nat) (a : Option Addr) (len cap p XR XB B : Nat) (zr : Array Value) (y0 y1 y2 y3 y4 : Value) (BO : Nat) (aO : Option Addr) (nO cO : Nat) (LO : List Hp) (BU : Nat) (aU : Option Addr) (nU cU : Nat) (LU : List Hp) (s1 s4 s5 s6 s7 s8 s9 s10 s11 s12 s13 s14 s15 s16 s17 s18 s19 s20 s21 s22 s23 s24 s25 s26 s27 s28 s29 s30 s31 s32 s33 s34 s35 s36 s37 s38 s39 s40 s41 s42 s43 s44 s45 s46 s47 s48 s49 s50 s51 s52 s53 s54 s55 s56 s57 s58 s59 s60 s61 s62 s63 s64 s65 s66 s67 s68 s69 s70 s71 : Value) (l : Array Bool) (f : Act) (w : World) (hC : Closed ra6O l) (hI : ra6I W0 w0 c a len cap p XR XB B zr y0 y1 y2 y3 y4 BO aO nO cO LO BU aU nU cU LU s1 s4 s5 s6 s7 s8 s9 s10 s11 s12 s13 s14 s15 s16 s17 s18 s19 s20 s21 s22 s23 s24 s25 s26 s27 s28 s29 s30 s31 s32 s33 s34 s35 s36 s37 s38 s39 s40 s41 s42 s43 s44 s45 s46 s47 s48 s49 s50 s51 s52 s53 s54 s55 s56 s57 s58 s59 s60 s61 s62 s63 s64 s65 s66 s67 s68 s69 s70 s71 l f w) (i : Nat) (h0 : l.getD i true = false) (o : Oper) (ho : ra6O[i]? = some o) (h1 : ∀ e ∈ o.after, Region.binds .any e = true → l.getD e.on false = true) : wpOp Tryz.prog ra6O Q i (ra6I W0 w0 c a len cap p XR XB B zr y0 y1 y2 y3 y4 BO aO nO cO LO BU aU nU cU LU s1 s4 s5 s6 s7 s8 s9 s10 s11 s12 s13 s14 s15 s16 s17 s18 s19 s20 s21 s22 s23 s24 s25 s26 s27 s28 s29 s30 s31 s32 s33 s34 s35 s36 s37 s38 s39 s40 s41 s42 s43 s44 s45 s46 s47 s48 s49 s50 s51 s52 s53 s54 s55 s56 s57 s58 s59 s60 s61 s62 s63 s64 s65 s66 s67 s68 s69 s70 s71 (l.setIfInBounds i true)) f w := by
  obtain ⟨b0, b1, b2, b3, b4, b5, b6, b7, b8, X0, x1, X2, R4, x6, pp, rfl, rfl, hS, hp, hg, hbox, hR, hBz, hst, hoO, hoU, hX0, hx1, hX2, hR4, hx6⟩ := hI
  have hi : i < 9 := by
    rcases Nat.lt_or_ge i 9 with h | h
    · exact h
    · rw [show ra6O[i]? = none from Array.getElem?_eq_none h] at ho; cases ho
  rcases (by omega : i = 0 ∨ i = 1 ∨ i = 2 ∨ i = 3 ∨ i = 4 ∨ i = 5 ∨ i = 6 ∨ i = 7 ∨ i = 8) with rfl | rfl | rfl | rfl | rfl | rfl | rfl | rfl | rfl
  · obtain rfl : ra6o0 = o := Option.some.inj ho
    obtain rfl : b0 = false := h0
    obtain rfl : b1 = false := by
      cases b1 with
      | false => rfl
      | true => exact Bool.noConfusion (show false = true from hC 1 ra6o1 rfl rfl ⟨0, .data⟩ (by simp [ra6o1]) rfl)
    obtain rfl : b2 = false := by
      cases b2 with
      | false => rfl
      | true => exact Bool.noConfusion (show false = true from hC 2 ra6o2 rfl rfl ⟨1, .data⟩ (by simp [ra6o2]) rfl)
    obtain rfl : b5 = false := by
      cases b5 with
      | false => rfl
      | true => exact Bool.noConfusion (show false = true from hC 5 ra6o5 rfl rfl ⟨2, .data⟩ (by simp [ra6o5]) rfl)
    obtain rfl : b6 = false := by
      cases b6 with
      | false => rfl
      | true => exact Bool.noConfusion (show false = true from hC 6 ra6o6 rfl rfl ⟨5, .data⟩ (by simp [ra6o6]) rfl)
    obtain rfl : b7 = false := by
      cases b7 with
      | false => rfl
      | true => exact Bool.noConfusion (show false = true from hC 7 ra6o7 rfl rfl ⟨0, .phase⟩ (by simp [ra6o7]) rfl)
    obtain rfl : b8 = false := by
      cases b8 with
      | false => rfl
      | true => exact Bool.noConfusion (show false = true from hC 8 ra6o8 rfl rfl ⟨0, .phase⟩ (by simp [ra6o8]) rfl)
    exact ra6_s0 W0 w0 c a len cap p XR XB B zr y0 y1 y2 y3 y4 BO aO nO cO LO BU aU nU cU LU s1 s4 s5 s6 s7 s8 s9 s10 s11 s12 s13 s14 s15 s16 s17 s18 s19 s20 s21 s22 s23 s24 s25 s26 s27 s28 s29 s30 s31 s32 s33 s34 s35 s36 s37 s38 s39 s40 s41 s42 s43 s44 s45 s46 s47 s48 s49 s50 s51 s52 s53 s54 s55 s56 s57 s58 s59 s60 s61 s62 s63 s64 s65 s66 s67 s68 s69 s70 s71 b3 b4 X0 x1 X2 R4 x6 pp w hS hp hg hbox hR hBz hst hoO hoU hX0 hx1 hX2 hR4 hx6
  · obtain rfl : ra6o1 = o := Option.some.inj ho
    obtain rfl : b1 = false := h0
    obtain rfl : b0 = true := h1 ⟨0, .data⟩ (by simp [ra6o1]) rfl
    obtain rfl : b2 = false := by
      cases b2 with
      | false => rfl
      | true => exact Bool.noConfusion (show false = true from hC 2 ra6o2 rfl rfl ⟨1, .data⟩ (by simp [ra6o2]) rfl)
    obtain rfl : b5 = false := by
      cases b5 with
      | false => rfl
      | true => exact Bool.noConfusion (show false = true from hC 5 ra6o5 rfl rfl ⟨2, .data⟩ (by simp [ra6o5]) rfl)
    obtain rfl : b6 = false := by
      cases b6 with
      | false => rfl
      | true => exact Bool.noConfusion (show false = true from hC 6 ra6o6 rfl rfl ⟨5, .data⟩ (by simp [ra6o6]) rfl)
    obtain rfl : b7 = false := by
      cases b7 with
      | false => rfl
      | true => exact Bool.noConfusion (show false = true from hC 7 ra6o7 rfl rfl ⟨1, .phase⟩ (by simp [ra6o7]) rfl)
    obtain rfl : b8 = false := by
      cases b8 with
      | false => rfl
      | true => exact Bool.noConfusion (show false = true from hC 8 ra6o8 rfl rfl ⟨1, .phase⟩ (by simp [ra6o8]) rfl)
    exact ra6_s1 W0 w0 c a len cap p XR XB B zr y0 y1 y2 y3 y4 BO aO nO cO LO BU aU nU cU LU s1 s4 s5 s6 s7 s8 s9 s10 s11 s12 s13 s14 s15 s16 s17 s18 s19 s20 s21 s22 s23 s24 s25 s26 s27 s28 s29 s30 s31 s32 s33 s34 s35 s36 s37 s38 s39 s40 s41 s42 s43 s44 s45 s46 s47 s48 s49 s50 s51 s52 s53 s54 s55 s56 s57 s58 s59 s60 s61 s62 s63 s64 s65 s66 s67 s68 s69 s70 s71 b3 b4 X0 x1 X2 R4 x6 pp w hS hp hg hbox hR hBz hst hoO hoU hX0 hx1 hX2 hR4 hx6
  · obtain rfl : ra6o2 = o := Option.some.inj ho
    obtain rfl : b2 = false := h0
    obtain rfl : b1 = true := h1 ⟨1, .data⟩ (by simp [ra6o2]) rfl
    obtain rfl : b0 = true := hC 1 ra6o1 rfl rfl ⟨0, .data⟩ (by simp [ra6o1]) rfl
    obtain rfl : b5 = false := by
      cases b5 with
      | false => rfl
      | true => exact Bool.noConfusion (show false = true from hC 5 ra6o5 rfl rfl ⟨2, .data⟩ (by simp [ra6o5]) rfl)
    obtain rfl : b6 = false := by
      cases b6 with
      | false => rfl
      | true => exact Bool.noConfusion (show false = true from hC 6 ra6o6 rfl rfl ⟨5, .data⟩ (by simp [ra6o6]) rfl)
    obtain rfl : b7 = false := by
      cases b7 with
      | false => rfl
      | true => exact Bool.noConfusion (show false = true from hC 7 ra6o7 rfl rfl ⟨2, .phase⟩ (by simp [ra6o7]) rfl)
    obtain rfl : b8 = false := by
      cases b8 with
      | false => rfl
      | true => exact Bool.noConfusion (show false = true from hC 8 ra6o8 rfl rfl ⟨2, .phase⟩ (by simp [ra6o8]) rfl)
    exact ra6_s2 W0 w0 c a len cap p XR XB B zr y0 y1 y2 y3 y4 BO aO nO cO LO BU aU nU cU LU s1 s4 s5 s6 s7 s8 s9 s10 s11 s12 s13 s14 s15 s16 s17 s18 s19 s20 s21 s22 s23 s24 s25 s26 s27 s28 s29 s30 s31 s32 s33 s34 s35 s36 s37 s38 s39 s40 s41 s42 s43 s44 s45 s46 s47 s48 s49 s50 s51 s52 s53 s54 s55 s56 s57 s58 s59 s60 s61 s62 s63 s64 s65 s66 s67 s68 s69 s70 s71 b3 b4 X0 x1 X2 R4 x6 pp w hS hp hg hbox hR hBz hst hoO hoU hX0 hx1 hX2 hR4 hx6
  · obtain rfl : ra6o3 = o := Option.some.inj ho
    obtain rfl : b3 = false := h0
    obtain rfl : b4 = false := by
      cases b4 with
      | false => rfl
      | true => exact Bool.noConfusion (show false = true from hC 4 ra6o4 rfl rfl ⟨3, .data⟩ (by simp [ra6o4]) rfl)
    obtain rfl : b5 = false := by
      cases b5 with
      | false => rfl
      | true => exact Bool.noConfusion (show false = true from hC 5 ra6o5 rfl rfl ⟨4, .data⟩ (by simp [ra6o5]) rfl)
    obtain rfl : b6 = false := by
      cases b6 with
      | false => rfl
      | true => exact Bool.noConfusion (show false = true from hC 6 ra6o6 rfl rfl ⟨5, .data⟩ (by simp [ra6o6]) rfl)
    obtain rfl : b7 = false := by
      cases b7 with
      | false => rfl
      | true => exact Bool.noConfusion (show false = true from hC 7 ra6o7 rfl rfl ⟨3, .phase⟩ (by simp [ra6o7]) rfl)
    obtain rfl : b8 = false := by
      cases b8 with
      | false => rfl
      | true => exact Bool.noConfusion (show false = true from hC 8 ra6o8 rfl rfl ⟨3, .phase⟩ (by simp [ra6o8]) rfl)
    exact ra6_s3 W0 w0 c a len cap p XR XB B zr y0 y1 y2 y3 y4 BO aO nO cO LO BU aU nU cU LU s1 s4 s5 s6 s7 s8 s9 s10 s11 s12 s13 s14 s15 s16 s17 s18 s19 s20 s21 s22 s23 s24 s25 s26 s27 s28 s29 s30 s31 s32 s33 s34 s35 s36 s37 s38 s39 s40 s41 s42 s43 s44 s45 s46 s47 s48 s49 s50 s51 s52 s53 s54 s55 s56 s57 s58 s59 s60 s61 s62 s63 s64 s65 s66 s67 s68 s69 s70 s71 b0 b1 b2 X0 x1 X2 R4 x6 pp w hS hp hg hbox hR hBz hst hoO hoU hX0 hx1 hX2 hR4 hx6
  · obtain rfl : ra6o4 = o := Option.some.inj ho
    obtain rfl : b4 = false := h0
    obtain rfl : b3 = true := h1 ⟨3, .data⟩ (by simp [ra6o4]) rfl
    obtain rfl : b5 = false := by
      cases b5 with
      | false => rfl
      | true => exact Bool.noConfusion (show false = true from hC 5 ra6o5 rfl rfl ⟨4, .data⟩ (by simp [ra6o5]) rfl)
    obtain rfl : b6 = false := by
      cases b6 with
      | false => rfl
      | true => exact Bool.noConfusion (show false = true from hC 6 ra6o6 rfl rfl ⟨5, .data⟩ (by simp [ra6o6]) rfl)
    obtain rfl : b7 = false := by
      cases b7 with
      | false => rfl
      | true => exact Bool.noConfusion (show false = true from hC 7 ra6o7 rfl rfl ⟨4, .phase⟩ (by simp [ra6o7]) rfl)
    obtain rfl : b8 = false := by
      cases b8 with
      | false => rfl
      | true => exact Bool.noConfusion (show false = true from hC 8 ra6o8 rfl rfl ⟨4, .chain⟩ (by simp [ra6o8]) rfl)
    exact ra6_s4 W0 w0 c a len cap p XR XB B zr y0 y1 y2 y3 y4 BO aO nO cO LO BU aU nU cU LU s1 s4 s5 s6 s7 s8 s9 s10 s11 s12 s13 s14 s15 s16 s17 s18 s19 s20 s21 s22 s23 s24 s25 s26 s27 s28 s29 s30 s31 s32 s33 s34 s35 s36 s37 s38 s39 s40 s41 s42 s43 s44 s45 s46 s47 s48 s49 s50 s51 s52 s53 s54 s55 s56 s57 s58 s59 s60 s61 s62 s63 s64 s65 s66 s67 s68 s69 s70 s71 b0 b1 b2 X0 x1 X2 R4 x6 pp w hS hp hg hbox hR hBz hst hoO hoU hX0 hx1 hX2 hR4 hx6
  · obtain rfl : ra6o5 = o := Option.some.inj ho
    obtain rfl : b5 = false := h0
    obtain rfl : b4 = true := h1 ⟨4, .data⟩ (by simp [ra6o5]) rfl
    obtain rfl : b2 = true := h1 ⟨2, .data⟩ (by simp [ra6o5]) rfl
    obtain rfl : b3 = true := hC 4 ra6o4 rfl rfl ⟨3, .data⟩ (by simp [ra6o4]) rfl
    obtain rfl : b1 = true := hC 2 ra6o2 rfl rfl ⟨1, .data⟩ (by simp [ra6o2]) rfl
    obtain rfl : b0 = true := hC 1 ra6o1 rfl rfl ⟨0, .data⟩ (by simp [ra6o1]) rfl
    obtain rfl : b6 = false := by
      cases b6 with
      | false => rfl
      | true => exact Bool.noConfusion (show false = true from hC 6 ra6o6 rfl rfl ⟨5, .data⟩ (by simp [ra6o6]) rfl)
    obtain rfl : b7 = false := by
      cases b7 with
      | false => rfl
      | true => exact Bool.noConfusion (show false = true from hC 7 ra6o7 rfl rfl ⟨5, .phase⟩ (by simp [ra6o7]) rfl)
    obtain rfl : b8 = false := by
      cases b8 with
      | false => rfl
      | true => exact Bool.noConfusion (show false = true from hC 8 ra6o8 rfl rfl ⟨5, .phase⟩ (by simp [ra6o8]) rfl)
    exact ra6_s5 W0 w0 c a len cap p XR XB B zr y0 y1 y2 y3 y4 BO aO nO cO LO BU aU nU cU LU s1 s4 s5 s6 s7 s8 s9 s10 s11 s12 s13 s14 s15 s16 s17 s18 s19 s20 s21 s22 s23 s24 s25 s26 s27 s28 s29 s30 s31 s32 s33 s34 s35 s36 s37 s38 s39 s40 s41 s42 s43 s44 s45 s46 s47 s48 s49 s50 s51 s52 s53 s54 s55 s56 s57 s58 s59 s60 s61 s62 s63 s64 s65 s66 s67 s68 s69 s70 s71  X0 x1 X2 R4 x6 pp w hS hp hg hbox hR hBz hst hoO hoU hX0 hx1 hX2 hR4 hx6
  · obtain rfl : ra6o6 = o := Option.some.inj ho
    obtain rfl : b6 = false := h0
    obtain rfl : b5 = true := h1 ⟨5, .data⟩ (by simp [ra6o6]) rfl
    obtain rfl : b2 = true := hC 5 ra6o5 rfl rfl ⟨2, .data⟩ (by simp [ra6o5]) rfl
    obtain rfl : b4 = true := hC 5 ra6o5 rfl rfl ⟨4, .data⟩ (by simp [ra6o5]) rfl
    obtain rfl : b3 = true := hC 4 ra6o4 rfl rfl ⟨3, .data⟩ (by simp [ra6o4]) rfl
    obtain rfl : b1 = true := hC 2 ra6o2 rfl rfl ⟨1, .data⟩ (by simp [ra6o2]) rfl
    obtain rfl : b0 = true := hC 1 ra6o1 rfl rfl ⟨0, .data⟩ (by simp [ra6o1]) rfl
    obtain rfl : b7 = false := by
      cases b7 with
      | false => rfl
      | true => exact Bool.noConfusion (show false = true from hC 7 ra6o7 rfl rfl ⟨6, .phase⟩ (by simp [ra6o7]) rfl)
    obtain rfl : b8 = false := by
      cases b8 with
      | false => rfl
      | true => exact Bool.noConfusion (show false = true from hC 8 ra6o8 rfl rfl ⟨6, .data⟩ (by simp [ra6o8]) rfl)
    exact ra6_s6 W0 w0 c a len cap p XR XB B zr y0 y1 y2 y3 y4 BO aO nO cO LO BU aU nU cU LU s1 s4 s5 s6 s7 s8 s9 s10 s11 s12 s13 s14 s15 s16 s17 s18 s19 s20 s21 s22 s23 s24 s25 s26 s27 s28 s29 s30 s31 s32 s33 s34 s35 s36 s37 s38 s39 s40 s41 s42 s43 s44 s45 s46 s47 s48 s49 s50 s51 s52 s53 s54 s55 s56 s57 s58 s59 s60 s61 s62 s63 s64 s65 s66 s67 s68 s69 s70 s71  X0 x1 X2 R4 x6 pp w hS hp hg hbox hR hBz hst hoO hoU hX0 hx1 hX2 hR4 hx6
  · obtain rfl : ra6o7 = o := Option.some.inj ho
    obtain rfl : b7 = false := h0
    obtain rfl : b6 = true := h1 ⟨6, .phase⟩ (by simp [ra6o7]) rfl
    obtain rfl : b5 = true := h1 ⟨5, .phase⟩ (by simp [ra6o7]) rfl
    obtain rfl : b4 = true := h1 ⟨4, .phase⟩ (by simp [ra6o7]) rfl
    obtain rfl : b3 = true := h1 ⟨3, .phase⟩ (by simp [ra6o7]) rfl
    obtain rfl : b2 = true := h1 ⟨2, .phase⟩ (by simp [ra6o7]) rfl
    obtain rfl : b1 = true := h1 ⟨1, .phase⟩ (by simp [ra6o7]) rfl
    obtain rfl : b0 = true := h1 ⟨0, .phase⟩ (by simp [ra6o7]) rfl
    obtain rfl : b8 = false := by
      cases b8 with
      | false => rfl
      | true => exact Bool.noConfusion (show false = true from hC 8 ra6o8 rfl rfl ⟨7, .data⟩ (by simp [ra6o8]) rfl)
    exact ra6_s7 W0 w0 c a len cap p XR XB B zr y0 y1 y2 y3 y4 BO aO nO cO LO BU aU nU cU LU s1 s4 s5 s6 s7 s8 s9 s10 s11 s12 s13 s14 s15 s16 s17 s18 s19 s20 s21 s22 s23 s24 s25 s26 s27 s28 s29 s30 s31 s32 s33 s34 s35 s36 s37 s38 s39 s40 s41 s42 s43 s44 s45 s46 s47 s48 s49 s50 s51 s52 s53 s54 s55 s56 s57 s58 s59 s60 s61 s62 s63 s64 s65 s66 s67 s68 s69 s70 s71  X0 x1 X2 R4 x6 pp w hS hp hg hbox hR hBz hst hoO hoU hX0 hx1 hX2 hR4 hx6
  · obtain rfl : ra6o8 = o := Option.some.inj ho
    obtain rfl : b8 = false := h0
    obtain rfl : b7 = true := h1 ⟨7, .data⟩ (by simp [ra6o8]) rfl
    obtain rfl : b6 = true := h1 ⟨6, .data⟩ (by simp [ra6o8]) rfl
    obtain rfl : b5 = true := h1 ⟨5, .phase⟩ (by simp [ra6o8]) rfl
    obtain rfl : b4 = true := h1 ⟨4, .chain⟩ (by simp [ra6o8]) rfl
    obtain rfl : b3 = true := h1 ⟨3, .phase⟩ (by simp [ra6o8]) rfl
    obtain rfl : b2 = true := h1 ⟨2, .phase⟩ (by simp [ra6o8]) rfl
    obtain rfl : b1 = true := h1 ⟨1, .phase⟩ (by simp [ra6o8]) rfl
    obtain rfl : b0 = true := h1 ⟨0, .phase⟩ (by simp [ra6o8]) rfl
    exact ra6_s8 W0 w0 c a len cap p XR XB B zr y0 y1 y2 y3 y4 BO aO nO cO LO BU aU nU cU LU s1 s4 s5 s6 s7 s8 s9 s10 s11 s12 s13 s14 s15 s16 s17 s18 s19 s20 s21 s22 s23 s24 s25 s26 s27 s28 s29 s30 s31 s32 s33 s34 s35 s36 s37 s38 s39 s40 s41 s42 s43 s44 s45 s46 s47 s48 s49 s50 s51 s52 s53 s54 s55 s56 s57 s58 s59 s60 s61 s62 s63 s64 s65 s66 s67 s68 s69 s70 s71  X0 x1 X2 R4 x6 pp w hS hp hg hbox hR hBz hst hoO hoU hX0 hx1 hX2 hR4 hx6
set_option maxRecDepth 20000 in
set_option maxHeartbeats 4000000 in
theorem ra6_wp {Q : Exit → Act → World → Prop} {id : Nat} (W0 w0 : World) (c : Nat) (a : Option Addr) (len cap p XR XB B : Nat) (zr : Array Value) (y0 y1 y2 y3 y4 : Value) (BO : Nat) (aO : Option Addr) (nO cO : Nat) (LO : List Hp) (BU : Nat) (aU : Option Addr) (nU cU : Nat) (LU : List Hp) {s1 s4 s5 s6 s7 s8 s9 s10 s11 s12 s13 s14 s15 s16 s17 s18 s19 s20 s21 s22 s23 s24 s25 s26 s27 s28 s29 s30 s31 s32 s33 s34 s35 s36 s37 s38 s39 s40 s41 s42 s43 s44 s45 s46 s47 s48 s49 s50 s51 s52 s53 s54 s55 s56 s57 s58 s59 s60 s61 s62 s63 s64 s65 s66 s67 s68 s69 s70 s71 : Value} (w : World) (hS : Src W0 w c a len cap p) (hg : w0.grownBy w (some c)) (hbox : RowAt w XB 25 #[y0, y1, y2, y3, y4]) (hR : RowAt w XR 25 zr) (hBz : B ≤ w.heap.size) (hst : c < XB ∧ c < B ∧ w0.heap.size ≤ B ∧ XR ≠ XB ∧ w0.heap.size ≤ XB ∧ W0.heap.size ≤ c ∧ p ≤ 900000 ∧ c ≠ XR) (hoO : OwnHp w BO (.slice aO nO cO) LO ∧ c < BO) (hoU : OwnHp w BU (.slice aU nU cU) LU ∧ c < BU)
    (fin : ∀ (X0 : Nat) (x1 : ByteArray) (X2 : Nat) (R4 : Nat) (x6 : ByteArray) (pp : Nat) (w' : World), (Src W0 w' c a len cap pp) → (pp ≤ p + 40 * (1)) → (w0.grownBy w' (some c)) → (RowAt w' XB 25 #[y0, .string x6, y2, y3, y4]) → (RowAt w' XR 25 zr) → (B ≤ w'.heap.size) → (c < XB ∧ c < B ∧ w0.heap.size ≤ B ∧ XR ≠ XB ∧ w0.heap.size ≤ XB ∧ W0.heap.size ≤ c ∧ p ≤ 900000 ∧ c ≠ XR) → (OwnHp w' BO (.slice aO nO cO) LO ∧ c < BO) → (OwnHp w' BU (.slice aU nU cU) LU ∧ c < BU) → (x1.size ≤ 1002) → (R4 < 3) → (x6.size ≤ 1002) → Q .normal { tmps := #[.pointer (some ⟨c, 0, none⟩), s1, .pointer (some ⟨XR, 0, none⟩), .pointer (some ⟨XB, 0, none⟩), s4, s5, s6, s7, s8, s9, s10, s11, s12, s13, s14, s15, s16, s17, .slice (some ⟨X0, 0, none⟩) 1001 1001, .string x1, .slice (some ⟨X2, 0, none⟩) 3 3, .pointer (some ⟨c, 0, none⟩), .int .i64 (R4 : Int), .pointer (some ⟨X2, R4, none⟩), .string x6, .pointer (some ⟨XB, 1, none⟩), s26, s27, s28, s29, s30, s31, s32, s33, s34, s35, s36, s37, s38, s39, s40, s41, s42, s43, s44, s45, s46, s47, s48, s49, s50, s51, s52, s53, s54, s55, s56, s57, s58, s59, s60, s61, s62, s63, s64, s65, s66, s67, s68, s69, s70, s71], defers := [] } w') :
    (Code.region id ra6O true).wp Tryz.prog Q { tmps := #[.pointer (some ⟨c, 0, none⟩), s1, .pointer (some ⟨XR, 0, none⟩), .pointer (some ⟨XB, 0, none⟩), s4, s5, s6, s7, s8, s9, s10, s11, s12, s13, s14, s15, s16, s17, s18, s19, s20, s21, s22, s23, s24, s25, s26, s27, s28, s29, s30, s31, s32, s33, s34, s35, s36, s37, s38, s39, s40, s41, s42, s43, s44, s45, s46, s47, s48, s49, s50, s51, s52, s53, s54, s55, s56, s57, s58, s59, s60, s61, s62, s63, s64, s65, s66, s67, s68, s69, s70, s71], defers := [] } w := by
  refine wp_region_inv (ops := ra6O) (ra6I W0 w0 c a len cap p XR XB B zr y0 y1 y2 y3 y4 BO aO nO cO LO BU aU nU cU LU s1 s4 s5 s6 s7 s8 s9 s10 s11 s12 s13 s14 s15 s16 s17 s18 s19 s20 s21 s22 s23 s24 s25 s26 s27 s28 s29 s30 s31 s32 s33 s34 s35 s36 s37 s38 s39 s40 s41 s42 s43 s44 s45 s46 s47 s48 s49 s50 s51 s52 s53 s54 s55 s56 s57 s58 s59 s60 s61 s62 s63 s64 s65 s66 s67 s68 s69 s70 s71) (by kernel_rfl) (by kernel_rfl) (fun l f v hI => ?_) (fun l f v hC hI i h0 o ho h1 => ra6_step W0 w0 c a len cap p XR XB B zr y0 y1 y2 y3 y4 BO aO nO cO LO BU aU nU cU LU s1 s4 s5 s6 s7 s8 s9 s10 s11 s12 s13 s14 s15 s16 s17 s18 s19 s20 s21 s22 s23 s24 s25 s26 s27 s28 s29 s30 s31 s32 s33 s34 s35 s36 s37 s38 s39 s40 s41 s42 s43 s44 s45 s46 s47 s48 s49 s50 s51 s52 s53 s54 s55 s56 s57 s58 s59 s60 s61 s62 s63 s64 s65 s66 s67 s68 s69 s70 s71 l f v hC hI i h0 o ho h1) (fun l f v hI hall => ?_) ?_
  · obtain ⟨_, _, _, _, _, _, _, _, _, _, _, _, _, _, _, rfl, _⟩ := hI; rfl
  · obtain ⟨b0, b1, b2, b3, b4, b5, b6, b7, b8, X0, x1, X2, R4, x6, pp, rfl, rfl, hS, hp, hg, hbox, hR, hBz, hst, hoO, hoU, hX0, hx1, hX2, hR4, hx6⟩ := hI
    obtain rfl : b0 = true := hall 0 (by simp)
    obtain rfl : b1 = true := hall 1 (by simp)
    obtain rfl : b2 = true := hall 2 (by simp)
    obtain rfl : b3 = true := hall 3 (by simp)
    obtain rfl : b4 = true := hall 4 (by simp)
    obtain rfl : b5 = true := hall 5 (by simp)
    obtain rfl : b6 = true := hall 6 (by simp)
    obtain rfl : b7 = true := hall 7 (by simp)
    obtain rfl : b8 = true := hall 8 (by simp)
    exact fin X0 x1 X2 R4 x6 pp v hS hp hg hbox hR hBz hst hoO hoU (hx1 rfl) (hR4 rfl) (hx6 rfl)
  · exact ⟨false, false, false, false, false, false, false, false, false, 0, ⟨#[]⟩, 0, 0, ⟨#[]⟩, p, rfl, rfl, hS.drew, by omega, grown_trans hg (grown_drewS _ _), hbox.drew, hR.drew, hBz, hst, ⟨World.ownsRow.drew hoO.1, hoO.2⟩, ⟨World.ownsRow.drew hoU.1, hoU.2⟩, fun h => Bool.noConfusion h, fun h => Bool.noConfusion h, fun h => Bool.noConfusion h, fun h => Bool.noConfusion h, fun h => Bool.noConfusion h⟩
end Go.Proofs.YtgoplcjjoiiagaaGreatDoor
namespace Go.Proofs.YtgoplcjjoiiagaaGreatDoor
open Go.RowKit
set_option linter.unusedVariables false
theorem ra8_tab7 (x6 : ByteArray) (hx6 : x6.size ≤ 102) (k : Nat) (hk : k < 3) : ∃ t : ByteArray, (#[.string ⟨#[]⟩, .string ⟨#[97]⟩, .string x6] : Array Value)[k]? = some (.string t) ∧ t.size ≤ 102 := by
  rcases (by omega : k = 0 ∨ k = 1 ∨ k = 2) with rfl | rfl | rfl
  all_goals exact ⟨_, rfl, by first | decide | assumption⟩
def ra8o0 : Oper := { dst := some 28, op := Op.fieldAddr 25 (Operand.tmp 3) 2, type := 0, pos := "l10_request.go:397", after := #[], guard := none }
def ra8o1 : Oper := { dst := some 29, op := Op.load 23 (Operand.tmp 28), type := 23, pos := "l10_request.go:397", after := #[{ on := 0, ground := Ground.data }], guard := none }
def ra8o2 : Oper := { dst := some 30, op := Op.move (Operand.tmp 0), type := 43, pos := "l10_request.go:397", after := #[], guard := none }
def ra8o3 : Oper := { dst := some 31, op := Op.call { callee := Callee.value (Operand.func 52), args := #[Operand.tmp 30, Operand.const (Value.int IntKind.i64 2)], argTypes := #[43, 2] }, type := 2, pos := "l10_request.go:397", after := #[{ on := 2, ground := Ground.data }], guard := none }
def ra8o4 : Oper := { dst := some 32, op := Op.binOp BinOp.add 2 (Operand.const (Value.int IntKind.i64 100)) (Operand.tmp 31) 2, type := 2, pos := "l10_request.go:397", after := #[{ on := 3, ground := Ground.data }], guard := none }
def ra8o5 : Oper := { dst := some 33, op := Op.makeSlice 22 (Operand.tmp 32) (Operand.tmp 32), type := 22, pos := "l10_request.go:397", after := #[{ on := 4, ground := Ground.data }, { on := 4, ground := Ground.data }], guard := none }
def ra8o6 : Oper := { dst := some 34, op := Op.convert 22 9 (Operand.tmp 33), type := 9, pos := "l10_request.go:397", after := #[{ on := 5, ground := Ground.data }], guard := none }
def ra8o7 : Oper := { dst := some 35, op := Op.buildSlice 86 3 #[(0, Operand.const (Value.string { data := #[] })), (1, Operand.const (Value.string { data := #[97] })), (2, Operand.tmp 34)], type := 86, pos := "l10_request.go:397", after := #[{ on := 6, ground := Ground.data }], guard := none }
def ra8o8 : Oper := { dst := some 36, op := Op.move (Operand.tmp 0), type := 43, pos := "l10_request.go:397", after := #[], guard := none }
def ra8o9 : Oper := { dst := some 37, op := Op.call { callee := Callee.value (Operand.func 52), args := #[Operand.tmp 36, Operand.const (Value.int IntKind.i64 3)], argTypes := #[43, 2] }, type := 2, pos := "l10_request.go:397", after := #[{ on := 8, ground := Ground.data }, { on := 3, ground := Ground.chain }], guard := none }
def ra8o10 : Oper := { dst := some 38, op := Op.indexAddr 86 (Operand.tmp 35) (Operand.tmp 37), type := 0, pos := "l10_request.go:397", after := #[{ on := 7, ground := Ground.data }, { on := 9, ground := Ground.data }], guard := none }
def ra8o11 : Oper := { dst := some 39, op := Op.load 9 (Operand.tmp 38), type := 9, pos := "l10_request.go:397", after := #[{ on := 10, ground := Ground.data }], guard := none }
def ra8o12 : Oper := { dst := some 40, op := Op.build 54 #[(0, Operand.tmp 39), (1, Operand.const (Value.string { data := #[120] }))], type := 54, pos := "l10_request.go:397", after := #[{ on := 11, ground := Ground.data }], guard := none }
def ra8o13 : Oper := { dst := some 41, op := Op.buildSlice 23 1 #[(0, Operand.tmp 40)], type := 23, pos := "l10_request.go:397", after := #[{ on := 12, ground := Ground.data }], guard := none }
def ra8o14 : Oper := { dst := some 42, op := Op.call { callee := Callee.builtin Builtin.append, args := #[Operand.tmp 29, Operand.tmp 41], argTypes := #[23, 23] }, type := 23, pos := "l10_request.go:397", after := #[{ on := 1, ground := Ground.data }, { on := 13, ground := Ground.data }, { on := 9, ground := Ground.chain }], guard := none }
def ra8o15 : Oper := { dst := some 43, op := Op.fieldAddr 25 (Operand.tmp 3) 2, type := 0, pos := "l10_request.go:397", after := #[{ on := 0, ground := Ground.phase }, { on := 1, ground := Ground.phase }, { on := 2, ground := Ground.phase }, { on := 3, ground := Ground.phase }, { on := 4, ground := Ground.phase }, { on := 5, ground := Ground.phase }, { on := 6, ground := Ground.phase }, { on := 7, ground := Ground.phase }, { on := 8, ground := Ground.phase }, { on := 9, ground := Ground.phase }, { on := 10, ground := Ground.phase }, { on := 11, ground := Ground.phase }, { on := 12, ground := Ground.phase }, { on := 13, ground := Ground.phase }, { on := 14, ground := Ground.phase }], guard := none }
def ra8o16 : Oper := { dst := none, op := Op.store 23 (Operand.tmp 43) (Operand.tmp 42), type := 0, pos := "l10_request.go:397", after := #[{ on := 15, ground := Ground.data }, { on := 14, ground := Ground.data }, { on := 14, ground := Ground.chain }, { on := 0, ground := Ground.phase }, { on := 1, ground := Ground.phase }, { on := 2, ground := Ground.phase }, { on := 3, ground := Ground.phase }, { on := 4, ground := Ground.phase }, { on := 5, ground := Ground.phase }, { on := 6, ground := Ground.phase }, { on := 7, ground := Ground.phase }, { on := 8, ground := Ground.phase }, { on := 9, ground := Ground.phase }, { on := 10, ground := Ground.phase }, { on := 11, ground := Ground.phase }, { on := 12, ground := Ground.phase }, { on := 13, ground := Ground.phase }, { on := 14, ground := Ground.phase }], guard := none }
def ra8O : Array Oper := #[ra8o0, ra8o1, ra8o2, ra8o3, ra8o4, ra8o5, ra8o6, ra8o7, ra8o8, ra8o9, ra8o10, ra8o11, ra8o12, ra8o13, ra8o14, ra8o15, ra8o16]
def ra8I (W0 w0 : World) (c : Nat) (a : Option Addr) (len cap p XR XB B : Nat) (zr : Array Value) (y0 y1 y3 y4 : Value) (aL : Option Addr) (cL : Nat) (L : List Hp) (BO : Nat) (aO : Option Addr) (nO cO : Nat) (LO : List Hp) (s1 s4 s5 s6 s7 s8 s9 s10 s11 s12 s13 s14 s15 s16 s17 s18 s19 s20 s21 s22 s23 s24 s25 s26 s27 s28 s29 s30 s31 s32 s33 s34 s35 s36 s37 s38 s39 s40 s41 s42 s43 s44 s45 s46 s47 s48 s49 s50 s51 s52 s53 s54 s55 s56 s57 s58 s59 s60 s61 s62 s63 s64 s65 s66 s67 s68 s69 s70 s71 : Value) (l : Array Bool) (f : Act) (w : World) : Prop :=
  ∃ (b0 b1 b2 b3 b4 b5 b6 b7 b8 b9 b10 b11 b12 b13 b14 b15 b16 : Bool) (R3 : Nat) (X5 : Nat) (x6 : ByteArray) (X7 : Nat) (R9 : Nat) (x11 : ByteArray) (X13 : Nat) (G : Nat) (CP : Nat) (pp : Nat), l = #[b0, b1, b2, b3, b4, b5, b6, b7, b8, b9, b10, b11, b12, b13, b14, b15, b16] ∧ f = { tmps := #[.pointer (some ⟨c, 0, none⟩), s1, .pointer (some ⟨XR, 0, none⟩), .pointer (some ⟨XB, 0, none⟩), s4, s5, s6, s7, s8, s9, s10, s11, s12, s13, s14, s15, s16, s17, s18, s19, s20, s21, s22, s23, s24, s25, s26, s27, sel b0 (.pointer (some ⟨XB, 2, none⟩)) (s28), sel b1 (.slice aL L.length cL) (s29), sel b2 (.pointer (some ⟨c, 0, none⟩)) (s30), sel b3 (.int .i64 (R3 : Int)) (s31), sel b4 (.int .i64 (100 + (R3 : Int))) (s32), sel b5 (.slice (some ⟨X5, 0, none⟩) (100 + R3) (100 + R3)) (s33), sel b6 (.string x6) (s34), sel b7 (.slice (some ⟨X7, 0, none⟩) 3 3) (s35), sel b8 (.pointer (some ⟨c, 0, none⟩)) (s36), sel b9 (.int .i64 (R9 : Int)) (s37), sel b10 (.pointer (some ⟨X7, R9, none⟩)) (s38), sel b11 (.string x11) (s39), sel b12 (.agg #[.string x11, .string ⟨#[120]⟩]) (s40), sel b13 (.slice (some ⟨X13, 0, none⟩) 1 1) (s41), sel b14 (.slice (some ⟨G, 0, none⟩) (L.length + 1) CP) (s42), sel b15 (.pointer (some ⟨XB, 2, none⟩)) (s43), s44, s45, s46, s47, s48, s49, s50, s51, s52, s53, s54, s55, s56, s57, s58, s59, s60, s61, s62, s63, s64, s65, s66, s67, s68, s69, s70, s71], defers := [] } ∧ (Src W0 w c a len cap pp) ∧ (pp ≤ p + 40 * (b3.toNat + b9.toNat)) ∧ (w0.grownBy w (some c)) ∧ (RowAt w XB 25 (cond b16 #[y0, y1, .slice (some ⟨G, 0, none⟩) (L.length + 1) CP, y3, y4] #[y0, y1, .slice aL L.length cL, y3, y4])) ∧ (RowAt w XR 25 zr) ∧ (B ≤ w.heap.size) ∧ (c < XB ∧ c < B ∧ w0.heap.size ≤ B ∧ XR ≠ XB ∧ w0.heap.size ≤ XB ∧ W0.heap.size ≤ c ∧ p ≤ 900000 ∧ c ≠ XR) ∧ (b14 = false → OwnHp w B (.slice aL L.length cL) L) ∧ (b14 = true → OwnHp w B (.slice (some ⟨G, 0, none⟩) (L.length + 1) CP) (L ++ [(⟨x11, ⟨#[120]⟩⟩ : Hp)])) ∧ (L.length ≤ 1000) ∧ (OwnHp w BO (.slice aO nO cO) LO ∧ c < BO ∧ ((Value.slice aO nO cO).ownBlock = none ∨ (Value.slice aO nO cO).ownBlock ≠ (Value.slice aL L.length cL).ownBlock)) ∧ (b3 = true → R3 < 2) ∧ (b5 = true → b14 = false → OwnNums w B 5 .u8 (.slice (some ⟨X5, 0, none⟩) (100 + R3) (100 + R3)) (List.replicate (100 + R3) 0)) ∧ (b6 = true → x6.size ≤ 102) ∧ (b7 = true → b14 = false → RowAt w X7 9 #[.string ⟨#[]⟩, .string ⟨#[97]⟩, .string x6] ∧ B ≤ X7) ∧ (b9 = true → R9 < 3) ∧ (b11 = true → x11.size ≤ 102) ∧ (b13 = true → b14 = false → RowAt w X13 54 #[.string x11, .string ⟨#[120]⟩] ∧ B ≤ X13)
set_option maxRecDepth 20000 in
set_option maxHeartbeats 1000000 in
theorem ra8_s0 {Q : Exit → Act → World → Prop} (W0 w0 : World) (c : Nat) (a : Option Addr) (len cap p XR XB B : Nat) (zr : Array Value) (y0 y1 y3 y4 : Value) (aL : Option Addr) (cL : Nat) (L : List Hp) (BO : Nat) (aO : Option Addr) (nO cO : Nat) (LO : List Hp) (s1 s4 s5 s6 s7 s8 s9 s10 s11 s12 s13 s14 s15 s16 s17 s18 s19 s20 s21 s22 s23 s24 s25 s26 s27 s28 s29 s30 s31 s32 s33 s34 s35 s36 s37 s38 s39 s40 s41 s42 s43 s44 s45 s46 s47 s48 s49 s50 s51 s52 s53 s54 s55 s56 s57 s58 s59 s60 s61 s62 s63 s64 s65 s66 s67 s68 s69 s70 s71 : Value) (b2 b3 b4 b5 b6 b7 b8 b9 b10 b11 b12 b13 : Bool) (R3 : Nat) (X5 : Nat) (x6 : ByteArray) (X7 : Nat) (R9 : Nat) (x11 : ByteArray) (X13 : Nat) (G : Nat) (CP : Nat) (pp : Nat) (w : World) (hS : Src W0 w c a len cap pp) (hp : pp ≤ p + 40 * (b3.toNat + b9.toNat)) (hg : w0.grownBy w (some c)) (hbox : RowAt w XB 25 (cond false #[y0, y1, .slice (some ⟨G, 0, none⟩) (L.length + 1) CP, y3, y4] #[y0, y1, .slice aL L.length cL, y3, y4])) (hR : RowAt w XR 25 zr) (hBz : B ≤ w.heap.size) (hst : c < XB ∧ c < B ∧ w0.heap.size ≤ B ∧ XR ≠ XB ∧ w0.heap.size ≤ XB ∧ W0.heap.size ≤ c ∧ p ≤ 900000 ∧ c ≠ XR) (ho1 : false = false → OwnHp w B (.slice aL L.length cL) L) (ho2 : false = true → OwnHp w B (.slice (some ⟨G, 0, none⟩) (L.length + 1) CP) (L ++ [(⟨x11, ⟨#[120]⟩⟩ : Hp)])) (hLn : L.length ≤ 1000) (hoO : OwnHp w BO (.slice aO nO cO) LO ∧ c < BO ∧ ((Value.slice aO nO cO).ownBlock = none ∨ (Value.slice aO nO cO).ownBlock ≠ (Value.slice aL L.length cL).ownBlock)) (hR3 : b3 = true → R3 < 2) (hX5 : b5 = true → false = false → OwnNums w B 5 .u8 (.slice (some ⟨X5, 0, none⟩) (100 + R3) (100 + R3)) (List.replicate (100 + R3) 0)) (hx6 : b6 = true → x6.size ≤ 102) (hX7 : b7 = true → false = false → RowAt w X7 9 #[.string ⟨#[]⟩, .string ⟨#[97]⟩, .string x6] ∧ B ≤ X7) (hR9 : b9 = true → R9 < 3) (hx11 : b11 = true → x11.size ≤ 102) (hX13 : b13 = true → false = false → RowAt w X13 54 #[.string x11, .string ⟨#[120]⟩] ∧ B ≤ X13) :
    wpOp Tryz.prog ra8O Q 0 (ra8I W0 w0 c a len cap p XR XB B zr y0 y1 y3 y4 aL cL L BO aO nO cO LO s1 s4 s5 s6 s7 s8 s9 s10 s11 s12 s13 s14 s15 s16 s17 s18 s19 s20 s21 s22 s23 s24 s25 s26 s27 s28 s29 s30 s31 s32 s33 s34 s35 s36 s37 s38 s39 s40 s41 s42 s43 s44 s45 s46 s47 s48 s49 s50 s51 s52 s53 s54 s55 s56 s57 s58 s59 s60 s61 s62 s63 s64 s65 s66 s67 s68 s69 s70 s71 #[true, false, b2, b3, b4, b5, b6, b7, b8, b9, b10, b11, b12, b13, false, false, false]) { tmps := #[.pointer (some ⟨c, 0, none⟩), s1, .pointer (some ⟨XR, 0, none⟩), .pointer (some ⟨XB, 0, none⟩), s4, s5, s6, s7, s8, s9, s10, s11, s12, s13, s14, s15, s16, s17, s18, s19, s20, s21, s22, s23, s24, s25, s26, s27, s28, s29, sel b2 (.pointer (some ⟨c, 0, none⟩)) (s30), sel b3 (.int .i64 (R3 : Int)) (s31), sel b4 (.int .i64 (100 + (R3 : Int))) (s32), sel b5 (.slice (some ⟨X5, 0, none⟩) (100 + R3) (100 + R3)) (s33), sel b6 (.string x6) (s34), sel b7 (.slice (some ⟨X7, 0, none⟩) 3 3) (s35), sel b8 (.pointer (some ⟨c, 0, none⟩)) (s36), sel b9 (.int .i64 (R9 : Int)) (s37), sel b10 (.pointer (some ⟨X7, R9, none⟩)) (s38), sel b11 (.string x11) (s39), sel b12 (.agg #[.string x11, .string ⟨#[120]⟩]) (s40), sel b13 (.slice (some ⟨X13, 0, none⟩) 1 1) (s41), s42, s43, s44, s45, s46, s47, s48, s49, s50, s51, s52, s53, s54, s55, s56, s57, s58, s59, s60, s61, s62, s63, s64, s65, s66, s67, s68, s69, s70, s71], defers := [] } w := by
  refine wpOp_step (o := { dst := some 28, op := Op.fieldAddr 25 (Operand.tmp 3) 2, type := 0, pos := "l10_request.go:397", after := #[], guard := none }) rfl (fun K hK => ?_)
  replace hK := hid hK
  go_simp
  exact hK.out _ _ ⟨true, false, b2, b3, b4, b5, b6, b7, b8, b9, b10, b11, b12, b13, false, false, false, R3, X5, x6, X7, R9, x11, X13, G, CP, pp, rfl, rfl, hS, hp, hg, hbox, hR, hBz, hst, ho1, ho2, hLn, hoO, hR3, hX5, hx6, hX7, hR9, hx11, hX13⟩
set_option maxRecDepth 20000 in
set_option maxHeartbeats 1000000 in
theorem ra8_s1 {Q : Exit → Act → World → Prop} (W0 w0 : World) (c : Nat) (a : Option Addr) (len cap p XR XB B : Nat) (zr : Array Value) (y0 y1 y3 y4 : Value) (aL : Option Addr) (cL : Nat) (L : List Hp) (BO : Nat) (aO : Option Addr) (nO cO : Nat) (LO : List Hp) (s1 s4 s5 s6 s7 s8 s9 s10 s11 s12 s13 s14 s15 s16 s17 s18 s19 s20 s21 s22 s23 s24 s25 s26 s27 s28 s29 s30 s31 s32 s33 s34 s35 s36 s37 s38 s39 s40 s41 s42 s43 s44 s45 s46 s47 s48 s49 s50 s51 s52 s53 s54 s55 s56 s57 s58 s59 s60 s61 s62 s63 s64 s65 s66 s67 s68 s69 s70 s71 : Value) (b2 b3 b4 b5 b6 b7 b8 b9 b10 b11 b12 b13 : Bool) (R3 : Nat) (X5 : Nat) (x6 : ByteArray) (X7 : Nat) (R9 : Nat) (x11 : ByteArray) (X13 : Nat) (G : Nat) (CP : Nat) (pp : Nat) (w : World) (hS : Src W0 w c a len cap pp) (hp : pp ≤ p + 40 * (b3.toNat + b9.toNat)) (hg : w0.grownBy w (some c)) (hbox : RowAt w XB 25 (cond false #[y0, y1, .slice (some ⟨G, 0, none⟩) (L.length + 1) CP, y3, y4] #[y0, y1, .slice aL L.length cL, y3, y4])) (hR : RowAt w XR 25 zr) (hBz : B ≤ w.heap.size) (hst : c < XB ∧ c < B ∧ w0.heap.size ≤ B ∧ XR ≠ XB ∧ w0.heap.size ≤ XB ∧ W0.heap.size ≤ c ∧ p ≤ 900000 ∧ c ≠ XR) (ho1 : false = false → OwnHp w B (.slice aL L.length cL) L) (ho2 : false = true → OwnHp w B (.slice (some ⟨G, 0, none⟩) (L.length + 1) CP) (L ++ [(⟨x11, ⟨#[120]⟩⟩ : Hp)])) (hLn : L.length ≤ 1000) (hoO : OwnHp w BO (.slice aO nO cO) LO ∧ c < BO ∧ ((Value.slice aO nO cO).ownBlock = none ∨ (Value.slice aO nO cO).ownBlock ≠ (Value.slice aL L.length cL).ownBlock)) (hR3 : b3 = true → R3 < 2) (hX5 : b5 = true → false = false → OwnNums w B 5 .u8 (.slice (some ⟨X5, 0, none⟩) (100 + R3) (100 + R3)) (List.replicate (100 + R3) 0)) (hx6 : b6 = true → x6.size ≤ 102) (hX7 : b7 = true → false = false → RowAt w X7 9 #[.string ⟨#[]⟩, .string ⟨#[97]⟩, .string x6] ∧ B ≤ X7) (hR9 : b9 = true → R9 < 3) (hx11 : b11 = true → x11.size ≤ 102) (hX13 : b13 = true → false = false → RowAt w X13 54 #[.string x11, .string ⟨#[120]⟩] ∧ B ≤ X13) :
    wpOp Tryz.prog ra8O Q 1 (ra8I W0 w0 c a len cap p XR XB B zr y0 y1 y3 y4 aL cL L BO aO nO cO LO s1 s4 s5 s6 s7 s8 s9 s10 s11 s12 s13 s14 s15 s16 s17 s18 s19 s20 s21 s22 s23 s24 s25 s26 s27 s28 s29 s30 s31 s32 s33 s34 s35 s36 s37 s38 s39 s40 s41 s42 s43 s44 s45 s46 s47 s48 s49 s50 s51 s52 s53 s54 s55 s56 s57 s58 s59 s60 s61 s62 s63 s64 s65 s66 s67 s68 s69 s70 s71 #[true, true, b2, b3, b4, b5, b6, b7, b8, b9, b10, b11, b12, b13, false, false, false]) { tmps := #[.pointer (some ⟨c, 0, none⟩), s1, .pointer (some ⟨XR, 0, none⟩), .pointer (some ⟨XB, 0, none⟩), s4, s5, s6, s7, s8, s9, s10, s11, s12, s13, s14, s15, s16, s17, s18, s19, s20, s21, s22, s23, s24, s25, s26, s27, .pointer (some ⟨XB, 2, none⟩), s29, sel b2 (.pointer (some ⟨c, 0, none⟩)) (s30), sel b3 (.int .i64 (R3 : Int)) (s31), sel b4 (.int .i64 (100 + (R3 : Int))) (s32), sel b5 (.slice (some ⟨X5, 0, none⟩) (100 + R3) (100 + R3)) (s33), sel b6 (.string x6) (s34), sel b7 (.slice (some ⟨X7, 0, none⟩) 3 3) (s35), sel b8 (.pointer (some ⟨c, 0, none⟩)) (s36), sel b9 (.int .i64 (R9 : Int)) (s37), sel b10 (.pointer (some ⟨X7, R9, none⟩)) (s38), sel b11 (.string x11) (s39), sel b12 (.agg #[.string x11, .string ⟨#[120]⟩]) (s40), sel b13 (.slice (some ⟨X13, 0, none⟩) 1 1) (s41), s42, s43, s44, s45, s46, s47, s48, s49, s50, s51, s52, s53, s54, s55, s56, s57, s58, s59, s60, s61, s62, s63, s64, s65, s66, s67, s68, s69, s70, s71], defers := [] } w := by
  have q := hbox.cell 2
  refine wpOp_step (o := { dst := some 29, op := Op.load 23 (Operand.tmp 28), type := 23, pos := "l10_request.go:397", after := #[{ on := 0, ground := Ground.data }], guard := none }) rfl (fun K hK => ?_)
  replace hK := hid hK
  go_simp
  exact hK.out _ _ ⟨true, true, b2, b3, b4, b5, b6, b7, b8, b9, b10, b11, b12, b13, false, false, false, R3, X5, x6, X7, R9, x11, X13, G, CP, pp, rfl, rfl, hS, hp, hg, hbox, hR, hBz, hst, ho1, ho2, hLn, hoO, hR3, hX5, hx6, hX7, hR9, hx11, hX13⟩
set_option maxRecDepth 20000 in
set_option maxHeartbeats 1000000 in
theorem ra8_s2 {Q : Exit → Act → World → Prop} (W0 w0 : World) (c : Nat) (a : Option Addr) (len cap p XR XB B : Nat) (zr : Array Value) (y0 y1 y3 y4 : Value) (aL : Option Addr) (cL : Nat) (L : List Hp) (BO : Nat) (aO : Option Addr) (nO cO : Nat) (LO : List Hp) (s1 s4 s5 s6 s7 s8 s9 s10 s11 s12 s13 s14 s15 s16 s17 s18 s19 s20 s21 s22 s23 s24 s25 s26 s27 s28 s29 s30 s31 s32 s33 s34 s35 s36 s37 s38 s39 s40 s41 s42 s43 s44 s45 s46 s47 s48 s49 s50 s51 s52 s53 s54 s55 s56 s57 s58 s59 s60 s61 s62 s63 s64 s65 s66 s67 s68 s69 s70 s71 : Value) (b0 b1 b8 : Bool) (R3 : Nat) (X5 : Nat) (x6 : ByteArray) (X7 : Nat) (R9 : Nat) (x11 : ByteArray) (X13 : Nat) (G : Nat) (CP : Nat) (pp : Nat) (w : World) (hS : Src W0 w c a len cap pp) (hp : pp ≤ p + 40 * (0 + 0)) (hg : w0.grownBy w (some c)) (hbox : RowAt w XB 25 (cond false #[y0, y1, .slice (some ⟨G, 0, none⟩) (L.length + 1) CP, y3, y4] #[y0, y1, .slice aL L.length cL, y3, y4])) (hR : RowAt w XR 25 zr) (hBz : B ≤ w.heap.size) (hst : c < XB ∧ c < B ∧ w0.heap.size ≤ B ∧ XR ≠ XB ∧ w0.heap.size ≤ XB ∧ W0.heap.size ≤ c ∧ p ≤ 900000 ∧ c ≠ XR) (ho1 : false = false → OwnHp w B (.slice aL L.length cL) L) (ho2 : false = true → OwnHp w B (.slice (some ⟨G, 0, none⟩) (L.length + 1) CP) (L ++ [(⟨x11, ⟨#[120]⟩⟩ : Hp)])) (hLn : L.length ≤ 1000) (hoO : OwnHp w BO (.slice aO nO cO) LO ∧ c < BO ∧ ((Value.slice aO nO cO).ownBlock = none ∨ (Value.slice aO nO cO).ownBlock ≠ (Value.slice aL L.length cL).ownBlock)) (hR3 : false = true → R3 < 2) (hX5 : false = true → false = false → OwnNums w B 5 .u8 (.slice (some ⟨X5, 0, none⟩) (100 + R3) (100 + R3)) (List.replicate (100 + R3) 0)) (hx6 : false = true → x6.size ≤ 102) (hX7 : false = true → false = false → RowAt w X7 9 #[.string ⟨#[]⟩, .string ⟨#[97]⟩, .string x6] ∧ B ≤ X7) (hR9 : false = true → R9 < 3) (hx11 : false = true → x11.size ≤ 102) (hX13 : false = true → false = false → RowAt w X13 54 #[.string x11, .string ⟨#[120]⟩] ∧ B ≤ X13) :
    wpOp Tryz.prog ra8O Q 2 (ra8I W0 w0 c a len cap p XR XB B zr y0 y1 y3 y4 aL cL L BO aO nO cO LO s1 s4 s5 s6 s7 s8 s9 s10 s11 s12 s13 s14 s15 s16 s17 s18 s19 s20 s21 s22 s23 s24 s25 s26 s27 s28 s29 s30 s31 s32 s33 s34 s35 s36 s37 s38 s39 s40 s41 s42 s43 s44 s45 s46 s47 s48 s49 s50 s51 s52 s53 s54 s55 s56 s57 s58 s59 s60 s61 s62 s63 s64 s65 s66 s67 s68 s69 s70 s71 #[b0, b1, true, false, false, false, false, false, b8, false, false, false, false, false, false, false, false]) { tmps := #[.pointer (some ⟨c, 0, none⟩), s1, .pointer (some ⟨XR, 0, none⟩), .pointer (some ⟨XB, 0, none⟩), s4, s5, s6, s7, s8, s9, s10, s11, s12, s13, s14, s15, s16, s17, s18, s19, s20, s21, s22, s23, s24, s25, s26, s27, sel b0 (.pointer (some ⟨XB, 2, none⟩)) (s28), sel b1 (.slice aL L.length cL) (s29), s30, s31, s32, s33, s34, s35, sel b8 (.pointer (some ⟨c, 0, none⟩)) (s36), s37, s38, s39, s40, s41, s42, s43, s44, s45, s46, s47, s48, s49, s50, s51, s52, s53, s54, s55, s56, s57, s58, s59, s60, s61, s62, s63, s64, s65, s66, s67, s68, s69, s70, s71], defers := [] } w := by
  refine wpOp_step (o := { dst := some 30, op := Op.move (Operand.tmp 0), type := 43, pos := "l10_request.go:397", after := #[], guard := none }) rfl (fun K hK => ?_)
  replace hK := hid hK
  go_simp
  exact hK.out _ _ ⟨b0, b1, true, false, false, false, false, false, b8, false, false, false, false, false, false, false, false, R3, X5, x6, X7, R9, x11, X13, G, CP, pp, rfl, rfl, hS, hp, hg, hbox, hR, hBz, hst, ho1, ho2, hLn, hoO, hR3, hX5, hx6, hX7, hR9, hx11, hX13⟩
set_option maxRecDepth 20000 in
set_option maxHeartbeats 1000000 in
theorem ra8_s3 {Q : Exit → Act → World → Prop} (W0 w0 : World) (c : Nat) (a : Option Addr) (len cap p XR XB B : Nat) (zr : Array Value) (y0 y1 y3 y4 : Value) (aL : Option Addr) (cL : Nat) (L : List Hp) (BO : Nat) (aO : Option Addr) (nO cO : Nat) (LO : List Hp) (s1 s4 s5 s6 s7 s8 s9 s10 s11 s12 s13 s14 s15 s16 s17 s18 s19 s20 s21 s22 s23 s24 s25 s26 s27 s28 s29 s30 s31 s32 s33 s34 s35 s36 s37 s38 s39 s40 s41 s42 s43 s44 s45 s46 s47 s48 s49 s50 s51 s52 s53 s54 s55 s56 s57 s58 s59 s60 s61 s62 s63 s64 s65 s66 s67 s68 s69 s70 s71 : Value) (b0 b1 b8 : Bool) (R3 : Nat) (X5 : Nat) (x6 : ByteArray) (X7 : Nat) (R9 : Nat) (x11 : ByteArray) (X13 : Nat) (G : Nat) (CP : Nat) (pp : Nat) (w : World) (hS : Src W0 w c a len cap pp) (hp : pp ≤ p + 40 * (0 + 0)) (hg : w0.grownBy w (some c)) (hbox : RowAt w XB 25 (cond false #[y0, y1, .slice (some ⟨G, 0, none⟩) (L.length + 1) CP, y3, y4] #[y0, y1, .slice aL L.length cL, y3, y4])) (hR : RowAt w XR 25 zr) (hBz : B ≤ w.heap.size) (hst : c < XB ∧ c < B ∧ w0.heap.size ≤ B ∧ XR ≠ XB ∧ w0.heap.size ≤ XB ∧ W0.heap.size ≤ c ∧ p ≤ 900000 ∧ c ≠ XR) (ho1 : false = false → OwnHp w B (.slice aL L.length cL) L) (ho2 : false = true → OwnHp w B (.slice (some ⟨G, 0, none⟩) (L.length + 1) CP) (L ++ [(⟨x11, ⟨#[120]⟩⟩ : Hp)])) (hLn : L.length ≤ 1000) (hoO : OwnHp w BO (.slice aO nO cO) LO ∧ c < BO ∧ ((Value.slice aO nO cO).ownBlock = none ∨ (Value.slice aO nO cO).ownBlock ≠ (Value.slice aL L.length cL).ownBlock)) (hR3 : false = true → R3 < 2) (hX5 : false = true → false = false → OwnNums w B 5 .u8 (.slice (some ⟨X5, 0, none⟩) (100 + R3) (100 + R3)) (List.replicate (100 + R3) 0)) (hx6 : false = true → x6.size ≤ 102) (hX7 : false = true → false = false → RowAt w X7 9 #[.string ⟨#[]⟩, .string ⟨#[97]⟩, .string x6] ∧ B ≤ X7) (hR9 : false = true → R9 < 3) (hx11 : false = true → x11.size ≤ 102) (hX13 : false = true → false = false → RowAt w X13 54 #[.string x11, .string ⟨#[120]⟩] ∧ B ≤ X13) :
    wpOp Tryz.prog ra8O Q 3 (ra8I W0 w0 c a len cap p XR XB B zr y0 y1 y3 y4 aL cL L BO aO nO cO LO s1 s4 s5 s6 s7 s8 s9 s10 s11 s12 s13 s14 s15 s16 s17 s18 s19 s20 s21 s22 s23 s24 s25 s26 s27 s28 s29 s30 s31 s32 s33 s34 s35 s36 s37 s38 s39 s40 s41 s42 s43 s44 s45 s46 s47 s48 s49 s50 s51 s52 s53 s54 s55 s56 s57 s58 s59 s60 s61 s62 s63 s64 s65 s66 s67 s68 s69 s70 s71 #[b0, b1, true, true, false, false, false, false, b8, false, false, false, false, false, false, false, false]) { tmps := #[.pointer (some ⟨c, 0, none⟩), s1, .pointer (some ⟨XR, 0, none⟩), .pointer (some ⟨XB, 0, none⟩), s4, s5, s6, s7, s8, s9, s10, s11, s12, s13, s14, s15, s16, s17, s18, s19, s20, s21, s22, s23, s24, s25, s26, s27, sel b0 (.pointer (some ⟨XB, 2, none⟩)) (s28), sel b1 (.slice aL L.length cL) (s29), .pointer (some ⟨c, 0, none⟩), s31, s32, s33, s34, s35, sel b8 (.pointer (some ⟨c, 0, none⟩)) (s36), s37, s38, s39, s40, s41, s42, s43, s44, s45, s46, s47, s48, s49, s50, s51, s52, s53, s54, s55, s56, s57, s58, s59, s60, s61, s62, s63, s64, s65, s66, s67, s68, s69, s70, s71], defers := [] } w := by
  have hcB : c < B := by omega
  refine wpOp_step (o := { dst := some 31, op := Op.call { callee := Callee.value (Operand.func 52), args := #[Operand.tmp 30, Operand.const (Value.int IntKind.i64 2)], argTypes := #[43, 2] }, type := 2, pos := "l10_request.go:397", after := #[{ on := 2, ground := Ground.data }], guard := none }) rfl (fun K hK => ?_)
  replace hK := hid hK
  go_simp
  refine (n_all W0 _ c a len cap pp 2 hS (by omega) (by omega) (by omega)).mono ?_
  rintro e w2 ⟨⟨r, rfl, h20, h21⟩, hs2, hg2⟩
  obtain ⟨R, rfl⟩ := Int.eq_ofNat_of_zero_le h20
  dsimp only
  exact hK.out _ _ ⟨b0, b1, true, true, false, false, false, false, b8, false, false, false, false, false, false, false, false, R, X5, x6, X7, R9, x11, X13, G, CP, pp + 1, rfl, rfl, hs2, by show pp + 1 ≤ p + 40 * (1 + 0); omega, grown_trans hg hg2, rowF hbox hg2 hst.1, rowF2 hR hg2 hst.2.2.2.2.2.2.2, Nat.le_trans hBz hg2.size, hst, fun h => OwnHp.keptC (ho1 h) hg2 (by omega), fun h => Bool.noConfusion h, hLn, ⟨OwnHp.keptC hoO.1 hg2 hoO.2.1, hoO.2⟩, fun _ => by omega, fun h => Bool.noConfusion h, hx6, fun h => Bool.noConfusion h, hR9, hx11, fun h => Bool.noConfusion h⟩
set_option maxRecDepth 20000 in
set_option maxHeartbeats 1000000 in
theorem ra8_s4 {Q : Exit → Act → World → Prop} (W0 w0 : World) (c : Nat) (a : Option Addr) (len cap p XR XB B : Nat) (zr : Array Value) (y0 y1 y3 y4 : Value) (aL : Option Addr) (cL : Nat) (L : List Hp) (BO : Nat) (aO : Option Addr) (nO cO : Nat) (LO : List Hp) (s1 s4 s5 s6 s7 s8 s9 s10 s11 s12 s13 s14 s15 s16 s17 s18 s19 s20 s21 s22 s23 s24 s25 s26 s27 s28 s29 s30 s31 s32 s33 s34 s35 s36 s37 s38 s39 s40 s41 s42 s43 s44 s45 s46 s47 s48 s49 s50 s51 s52 s53 s54 s55 s56 s57 s58 s59 s60 s61 s62 s63 s64 s65 s66 s67 s68 s69 s70 s71 : Value) (b0 b1 b8 b9 : Bool) (R3 : Nat) (X5 : Nat) (x6 : ByteArray) (X7 : Nat) (R9 : Nat) (x11 : ByteArray) (X13 : Nat) (G : Nat) (CP : Nat) (pp : Nat) (w : World) (hS : Src W0 w c a len cap pp) (hp : pp ≤ p + 40 * (1 + b9.toNat)) (hg : w0.grownBy w (some c)) (hbox : RowAt w XB 25 (cond false #[y0, y1, .slice (some ⟨G, 0, none⟩) (L.length + 1) CP, y3, y4] #[y0, y1, .slice aL L.length cL, y3, y4])) (hR : RowAt w XR 25 zr) (hBz : B ≤ w.heap.size) (hst : c < XB ∧ c < B ∧ w0.heap.size ≤ B ∧ XR ≠ XB ∧ w0.heap.size ≤ XB ∧ W0.heap.size ≤ c ∧ p ≤ 900000 ∧ c ≠ XR) (ho1 : false = false → OwnHp w B (.slice aL L.length cL) L) (ho2 : false = true → OwnHp w B (.slice (some ⟨G, 0, none⟩) (L.length + 1) CP) (L ++ [(⟨x11, ⟨#[120]⟩⟩ : Hp)])) (hLn : L.length ≤ 1000) (hoO : OwnHp w BO (.slice aO nO cO) LO ∧ c < BO ∧ ((Value.slice aO nO cO).ownBlock = none ∨ (Value.slice aO nO cO).ownBlock ≠ (Value.slice aL L.length cL).ownBlock)) (hR3 : true = true → R3 < 2) (hX5 : false = true → false = false → OwnNums w B 5 .u8 (.slice (some ⟨X5, 0, none⟩) (100 + R3) (100 + R3)) (List.replicate (100 + R3) 0)) (hx6 : false = true → x6.size ≤ 102) (hX7 : false = true → false = false → RowAt w X7 9 #[.string ⟨#[]⟩, .string ⟨#[97]⟩, .string x6] ∧ B ≤ X7) (hR9 : b9 = true → R9 < 3) (hx11 : false = true → x11.size ≤ 102) (hX13 : false = true → false = false → RowAt w X13 54 #[.string x11, .string ⟨#[120]⟩] ∧ B ≤ X13) :
    wpOp Tryz.prog ra8O Q 4 (ra8I W0 w0 c a len cap p XR XB B zr y0 y1 y3 y4 aL cL L BO aO nO cO LO s1 s4 s5 s6 s7 s8 s9 s10 s11 s12 s13 s14 s15 s16 s17 s18 s19 s20 s21 s22 s23 s24 s25 s26 s27 s28 s29 s30 s31 s32 s33 s34 s35 s36 s37 s38 s39 s40 s41 s42 s43 s44 s45 s46 s47 s48 s49 s50 s51 s52 s53 s54 s55 s56 s57 s58 s59 s60 s61 s62 s63 s64 s65 s66 s67 s68 s69 s70 s71 #[b0, b1, true, true, true, false, false, false, b8, b9, false, false, false, false, false, false, false]) { tmps := #[.pointer (some ⟨c, 0, none⟩), s1, .pointer (some ⟨XR, 0, none⟩), .pointer (some ⟨XB, 0, none⟩), s4, s5, s6, s7, s8, s9, s10, s11, s12, s13, s14, s15, s16, s17, s18, s19, s20, s21, s22, s23, s24, s25, s26, s27, sel b0 (.pointer (some ⟨XB, 2, none⟩)) (s28), sel b1 (.slice aL L.length cL) (s29), .pointer (some ⟨c, 0, none⟩), .int .i64 (R3 : Int), s32, s33, s34, s35, sel b8 (.pointer (some ⟨c, 0, none⟩)) (s36), sel b9 (.int .i64 (R9 : Int)) (s37), s38, s39, s40, s41, s42, s43, s44, s45, s46, s47, s48, s49, s50, s51, s52, s53, s54, s55, s56, s57, s58, s59, s60, s61, s62, s63, s64, s65, s66, s67, s68, s69, s70, s71], defers := [] } w := by
  have r := hR3 rfl
  have wz : IntKind.i64.wrap (100 + (R3 : Int)) = 100 + (R3 : Int) := by simp [IntKind.wrap, IntKind.bits, IntKind.signed]; omega
  refine wpOp_step (o := { dst := some 32, op := Op.binOp BinOp.add 2 (Operand.const (Value.int IntKind.i64 100)) (Operand.tmp 31) 2, type := 2, pos := "l10_request.go:397", after := #[{ on := 3, ground := Ground.data }], guard := none }) rfl (fun K hK => ?_)
  replace hK := hid hK
  go_simp
  skip
  exact hK.out _ _ ⟨b0, b1, true, true, true, false, false, false, b8, b9, false, false, false, false, false, false, false, R3, X5, x6, X7, R9, x11, X13, G, CP, pp, rfl, rfl, hS, hp, hg, hbox, hR, hBz, hst, ho1, ho2, hLn, hoO, hR3, hX5, hx6, hX7, hR9, hx11, hX13⟩
set_option maxRecDepth 20000 in
set_option maxHeartbeats 1000000 in
theorem ra8_s5 {Q : Exit → Act → World → Prop} (W0 w0 : World) (c : Nat) (a : Option Addr) (len cap p XR XB B : Nat) (zr : Array Value) (y0 y1 y3 y4 : Value) (aL : Option Addr) (cL : Nat) (L : List Hp) (BO : Nat) (aO : Option Addr) (nO cO : Nat) (LO : List Hp) (s1 s4 s5 s6 s7 s8 s9 s10 s11 s12 s13 s14 s15 s16 s17 s18 s19 s20 s21 s22 s23 s24 s25 s26 s27 s28 s29 s30 s31 s32 s33 s34 s35 s36 s37 s38 s39 s40 s41 s42 s43 s44 s45 s46 s47 s48 s49 s50 s51 s52 s53 s54 s55 s56 s57 s58 s59 s60 s61 s62 s63 s64 s65 s66 s67 s68 s69 s70 s71 : Value) (b0 b1 b8 b9 : Bool) (R3 : Nat) (X5 : Nat) (x6 : ByteArray) (X7 : Nat) (R9 : Nat) (x11 : ByteArray) (X13 : Nat) (G : Nat) (CP : Nat) (pp : Nat) (w : World) (hS : Src W0 w c a len cap pp) (hp : pp ≤ p + 40 * (1 + b9.toNat)) (hg : w0.grownBy w (some c)) (hbox : RowAt w XB 25 (cond false #[y0, y1, .slice (some ⟨G, 0, none⟩) (L.length + 1) CP, y3, y4] #[y0, y1, .slice aL L.length cL, y3, y4])) (hR : RowAt w XR 25 zr) (hBz : B ≤ w.heap.size) (hst : c < XB ∧ c < B ∧ w0.heap.size ≤ B ∧ XR ≠ XB ∧ w0.heap.size ≤ XB ∧ W0.heap.size ≤ c ∧ p ≤ 900000 ∧ c ≠ XR) (ho1 : false = false → OwnHp w B (.slice aL L.length cL) L) (ho2 : false = true → OwnHp w B (.slice (some ⟨G, 0, none⟩) (L.length + 1) CP) (L ++ [(⟨x11, ⟨#[120]⟩⟩ : Hp)])) (hLn : L.length ≤ 1000) (hoO : OwnHp w BO (.slice aO nO cO) LO ∧ c < BO ∧ ((Value.slice aO nO cO).ownBlock = none ∨ (Value.slice aO nO cO).ownBlock ≠ (Value.slice aL L.length cL).ownBlock)) (hR3 : true = true → R3 < 2) (hX5 : false = true → false = false → OwnNums w B 5 .u8 (.slice (some ⟨X5, 0, none⟩) (100 + R3) (100 + R3)) (List.replicate (100 + R3) 0)) (hx6 : false = true → x6.size ≤ 102) (hX7 : false = true → false = false → RowAt w X7 9 #[.string ⟨#[]⟩, .string ⟨#[97]⟩, .string x6] ∧ B ≤ X7) (hR9 : b9 = true → R9 < 3) (hx11 : false = true → x11.size ≤ 102) (hX13 : false = true → false = false → RowAt w X13 54 #[.string x11, .string ⟨#[120]⟩] ∧ B ≤ X13) :
    wpOp Tryz.prog ra8O Q 5 (ra8I W0 w0 c a len cap p XR XB B zr y0 y1 y3 y4 aL cL L BO aO nO cO LO s1 s4 s5 s6 s7 s8 s9 s10 s11 s12 s13 s14 s15 s16 s17 s18 s19 s20 s21 s22 s23 s24 s25 s26 s27 s28 s29 s30 s31 s32 s33 s34 s35 s36 s37 s38 s39 s40 s41 s42 s43 s44 s45 s46 s47 s48 s49 s50 s51 s52 s53 s54 s55 s56 s57 s58 s59 s60 s61 s62 s63 s64 s65 s66 s67 s68 s69 s70 s71 #[b0, b1, true, true, true, true, false, false, b8, b9, false, false, false, false, false, false, false]) { tmps := #[.pointer (some ⟨c, 0, none⟩), s1, .pointer (some ⟨XR, 0, none⟩), .pointer (some ⟨XB, 0, none⟩), s4, s5, s6, s7, s8, s9, s10, s11, s12, s13, s14, s15, s16, s17, s18, s19, s20, s21, s22, s23, s24, s25, s26, s27, sel b0 (.pointer (some ⟨XB, 2, none⟩)) (s28), sel b1 (.slice aL L.length cL) (s29), .pointer (some ⟨c, 0, none⟩), .int .i64 (R3 : Int), .int .i64 (100 + (R3 : Int)), s33, s34, s35, sel b8 (.pointer (some ⟨c, 0, none⟩)) (s36), sel b9 (.int .i64 (R9 : Int)) (s37), s38, s39, s40, s41, s42, s43, s44, s45, s46, s47, s48, s49, s50, s51, s52, s53, s54, s55, s56, s57, s58, s59, s60, s61, s62, s63, s64, s65, s66, s67, s68, s69, s70, s71], defers := [] } w := by
  have r := hR3 rfl
  have ce : (((100 + R3) : Nat) : Int) = 100 + (R3 : Int) := by omega
  have hmk := fun w => mk_bytes w (100 + R3) (by omega)
  simp only [ce] at hmk
  refine wpOp_step (o := { dst := some 33, op := Op.makeSlice 22 (Operand.tmp 32) (Operand.tmp 32), type := 22, pos := "l10_request.go:397", after := #[{ on := 4, ground := Ground.data }, { on := 4, ground := Ground.data }], guard := none }) rfl (fun K hK => ?_)
  replace hK := hid hK
  go_simp
  exact hK.out _ _ ⟨b0, b1, true, true, true, true, false, false, b8, b9, false, false, false, false, false, false, false, R3, w.heap.size, x6, X7, R9, x11, X13, G, CP, pp, rfl, rfl, hS.alloc _, hp, grown_al hg _, hbox.alloc _, hR.alloc _, by simp only [World.size_alloc]; omega, hst, fun h => World.ownsRow.alloc (ho1 h) _, fun h => Bool.noConfusion h, hLn, ⟨World.ownsRow.alloc hoO.1 _, hoO.2⟩, hR3, fun _ _ => (own_made w (100 + R3) (by omega)).monoD hBz, hx6, fun h => Bool.noConfusion h, hR9, hx11, fun h => Bool.noConfusion h⟩
set_option maxRecDepth 20000 in
set_option maxHeartbeats 1000000 in
theorem ra8_s6 {Q : Exit → Act → World → Prop} (W0 w0 : World) (c : Nat) (a : Option Addr) (len cap p XR XB B : Nat) (zr : Array Value) (y0 y1 y3 y4 : Value) (aL : Option Addr) (cL : Nat) (L : List Hp) (BO : Nat) (aO : Option Addr) (nO cO : Nat) (LO : List Hp) (s1 s4 s5 s6 s7 s8 s9 s10 s11 s12 s13 s14 s15 s16 s17 s18 s19 s20 s21 s22 s23 s24 s25 s26 s27 s28 s29 s30 s31 s32 s33 s34 s35 s36 s37 s38 s39 s40 s41 s42 s43 s44 s45 s46 s47 s48 s49 s50 s51 s52 s53 s54 s55 s56 s57 s58 s59 s60 s61 s62 s63 s64 s65 s66 s67 s68 s69 s70 s71 : Value) (b0 b1 b8 b9 : Bool) (R3 : Nat) (X5 : Nat) (x6 : ByteArray) (X7 : Nat) (R9 : Nat) (x11 : ByteArray) (X13 : Nat) (G : Nat) (CP : Nat) (pp : Nat) (w : World) (hS : Src W0 w c a len cap pp) (hp : pp ≤ p + 40 * (1 + b9.toNat)) (hg : w0.grownBy w (some c)) (hbox : RowAt w XB 25 (cond false #[y0, y1, .slice (some ⟨G, 0, none⟩) (L.length + 1) CP, y3, y4] #[y0, y1, .slice aL L.length cL, y3, y4])) (hR : RowAt w XR 25 zr) (hBz : B ≤ w.heap.size) (hst : c < XB ∧ c < B ∧ w0.heap.size ≤ B ∧ XR ≠ XB ∧ w0.heap.size ≤ XB ∧ W0.heap.size ≤ c ∧ p ≤ 900000 ∧ c ≠ XR) (ho1 : false = false → OwnHp w B (.slice aL L.length cL) L) (ho2 : false = true → OwnHp w B (.slice (some ⟨G, 0, none⟩) (L.length + 1) CP) (L ++ [(⟨x11, ⟨#[120]⟩⟩ : Hp)])) (hLn : L.length ≤ 1000) (hoO : OwnHp w BO (.slice aO nO cO) LO ∧ c < BO ∧ ((Value.slice aO nO cO).ownBlock = none ∨ (Value.slice aO nO cO).ownBlock ≠ (Value.slice aL L.length cL).ownBlock)) (hR3 : true = true → R3 < 2) (hX5 : true = true → false = false → OwnNums w B 5 .u8 (.slice (some ⟨X5, 0, none⟩) (100 + R3) (100 + R3)) (List.replicate (100 + R3) 0)) (hx6 : false = true → x6.size ≤ 102) (hX7 : false = true → false = false → RowAt w X7 9 #[.string ⟨#[]⟩, .string ⟨#[97]⟩, .string x6] ∧ B ≤ X7) (hR9 : b9 = true → R9 < 3) (hx11 : false = true → x11.size ≤ 102) (hX13 : false = true → false = false → RowAt w X13 54 #[.string x11, .string ⟨#[120]⟩] ∧ B ≤ X13) :
    wpOp Tryz.prog ra8O Q 6 (ra8I W0 w0 c a len cap p XR XB B zr y0 y1 y3 y4 aL cL L BO aO nO cO LO s1 s4 s5 s6 s7 s8 s9 s10 s11 s12 s13 s14 s15 s16 s17 s18 s19 s20 s21 s22 s23 s24 s25 s26 s27 s28 s29 s30 s31 s32 s33 s34 s35 s36 s37 s38 s39 s40 s41 s42 s43 s44 s45 s46 s47 s48 s49 s50 s51 s52 s53 s54 s55 s56 s57 s58 s59 s60 s61 s62 s63 s64 s65 s66 s67 s68 s69 s70 s71 #[b0, b1, true, true, true, true, true, false, b8, b9, false, false, false, false, false, false, false]) { tmps := #[.pointer (some ⟨c, 0, none⟩), s1, .pointer (some ⟨XR, 0, none⟩), .pointer (some ⟨XB, 0, none⟩), s4, s5, s6, s7, s8, s9, s10, s11, s12, s13, s14, s15, s16, s17, s18, s19, s20, s21, s22, s23, s24, s25, s26, s27, sel b0 (.pointer (some ⟨XB, 2, none⟩)) (s28), sel b1 (.slice aL L.length cL) (s29), .pointer (some ⟨c, 0, none⟩), .int .i64 (R3 : Int), .int .i64 (100 + (R3 : Int)), .slice (some ⟨X5, 0, none⟩) (100 + R3) (100 + R3), s34, s35, sel b8 (.pointer (some ⟨c, 0, none⟩)) (s36), sel b9 (.int .i64 (R9 : Int)) (s37), s38, s39, s40, s41, s42, s43, s44, s45, s46, s47, s48, s49, s50, s51, s52, s53, s54, s55, s56, s57, s58, s59, s60, s61, s62, s63, s64, s65, s66, s67, s68, s69, s70, s71], defers := [] } w := by
  have hcv := conv_owned w 22 5 9 Tryz.underlying22 Tryz.underlying5 Tryz.underlying9 (hX5 rfl rfl)
  have r := hR3 rfl
  refine wpOp_step (o := { dst := some 34, op := Op.convert 22 9 (Operand.tmp 33), type := 9, pos := "l10_request.go:397", after := #[{ on := 5, ground := Ground.data }], guard := none }) rfl (fun K hK => ?_)
  replace hK := hid hK
  go_simp
  exact hK.out _ _ ⟨b0, b1, true, true, true, true, true, false, b8, b9, false, false, false, false, false, false, false, R3, X5, (strOfNums (List.replicate (100 + R3) 0)), X7, R9, x11, X13, G, CP, pp, rfl, rfl, hS, hp, hg, hbox, hR, hBz, hst, ho1, fun h => Bool.noConfusion h, hLn, hoO, hR3, hX5, fun _ => by rw [strOfNums_size, List.length_replicate]; omega, fun h => Bool.noConfusion h, hR9, hx11, fun h => Bool.noConfusion h⟩
set_option maxRecDepth 20000 in
set_option maxHeartbeats 1000000 in
theorem ra8_s7 {Q : Exit → Act → World → Prop} (W0 w0 : World) (c : Nat) (a : Option Addr) (len cap p XR XB B : Nat) (zr : Array Value) (y0 y1 y3 y4 : Value) (aL : Option Addr) (cL : Nat) (L : List Hp) (BO : Nat) (aO : Option Addr) (nO cO : Nat) (LO : List Hp) (s1 s4 s5 s6 s7 s8 s9 s10 s11 s12 s13 s14 s15 s16 s17 s18 s19 s20 s21 s22 s23 s24 s25 s26 s27 s28 s29 s30 s31 s32 s33 s34 s35 s36 s37 s38 s39 s40 s41 s42 s43 s44 s45 s46 s47 s48 s49 s50 s51 s52 s53 s54 s55 s56 s57 s58 s59 s60 s61 s62 s63 s64 s65 s66 s67 s68 s69 s70 s71 : Value) (b0 b1 b8 b9 : Bool) (R3 : Nat) (X5 : Nat) (x6 : ByteArray) (X7 : Nat) (R9 : Nat) (x11 : ByteArray) (X13 : Nat) (G : Nat) (CP : Nat) (pp : Nat) (w : World) (hS : Src W0 w c a len cap pp) (hp : pp ≤ p + 40 * (1 + b9.toNat)) (hg : w0.grownBy w (some c)) (hbox : RowAt w XB 25 (cond false #[y0, y1, .slice (some ⟨G, 0, none⟩) (L.length + 1) CP, y3, y4] #[y0, y1, .slice aL L.length cL, y3, y4])) (hR : RowAt w XR 25 zr) (hBz : B ≤ w.heap.size) (hst : c < XB ∧ c < B ∧ w0.heap.size ≤ B ∧ XR ≠ XB ∧ w0.heap.size ≤ XB ∧ W0.heap.size ≤ c ∧ p ≤ 900000 ∧ c ≠ XR) (ho1 : false = false → OwnHp w B (.slice aL L.length cL) L) (ho2 : false = true → OwnHp w B (.slice (some ⟨G, 0, none⟩) (L.length + 1) CP) (L ++ [(⟨x11, ⟨#[120]⟩⟩ : Hp)])) (hLn : L.length ≤ 1000) (hoO : OwnHp w BO (.slice aO nO cO) LO ∧ c < BO ∧ ((Value.slice aO nO cO).ownBlock = none ∨ (Value.slice aO nO cO).ownBlock ≠ (Value.slice aL L.length cL).ownBlock)) (hR3 : true = true → R3 < 2) (hX5 : true = true → false = false → OwnNums w B 5 .u8 (.slice (some ⟨X5, 0, none⟩) (100 + R3) (100 + R3)) (List.replicate (100 + R3) 0)) (hx6 : true = true → x6.size ≤ 102) (hX7 : false = true → false = false → RowAt w X7 9 #[.string ⟨#[]⟩, .string ⟨#[97]⟩, .string x6] ∧ B ≤ X7) (hR9 : b9 = true → R9 < 3) (hx11 : false = true → x11.size ≤ 102) (hX13 : false = true → false = false → RowAt w X13 54 #[.string x11, .string ⟨#[120]⟩] ∧ B ≤ X13) :
    wpOp Tryz.prog ra8O Q 7 (ra8I W0 w0 c a len cap p XR XB B zr y0 y1 y3 y4 aL cL L BO aO nO cO LO s1 s4 s5 s6 s7 s8 s9 s10 s11 s12 s13 s14 s15 s16 s17 s18 s19 s20 s21 s22 s23 s24 s25 s26 s27 s28 s29 s30 s31 s32 s33 s34 s35 s36 s37 s38 s39 s40 s41 s42 s43 s44 s45 s46 s47 s48 s49 s50 s51 s52 s53 s54 s55 s56 s57 s58 s59 s60 s61 s62 s63 s64 s65 s66 s67 s68 s69 s70 s71 #[b0, b1, true, true, true, true, true, true, b8, b9, false, false, false, false, false, false, false]) { tmps := #[.pointer (some ⟨c, 0, none⟩), s1, .pointer (some ⟨XR, 0, none⟩), .pointer (some ⟨XB, 0, none⟩), s4, s5, s6, s7, s8, s9, s10, s11, s12, s13, s14, s15, s16, s17, s18, s19, s20, s21, s22, s23, s24, s25, s26, s27, sel b0 (.pointer (some ⟨XB, 2, none⟩)) (s28), sel b1 (.slice aL L.length cL) (s29), .pointer (some ⟨c, 0, none⟩), .int .i64 (R3 : Int), .int .i64 (100 + (R3 : Int)), .slice (some ⟨X5, 0, none⟩) (100 + R3) (100 + R3), .string x6, s35, sel b8 (.pointer (some ⟨c, 0, none⟩)) (s36), sel b9 (.int .i64 (R9 : Int)) (s37), s38, s39, s40, s41, s42, s43, s44, s45, s46, s47, s48, s49, s50, s51, s52, s53, s54, s55, s56, s57, s58, s59, s60, s61, s62, s63, s64, s65, s66, s67, s68, s69, s70, s71], defers := [] } w := by
  refine wpOp_step (o := { dst := some 35, op := Op.buildSlice 86 3 #[(0, Operand.const (Value.string { data := #[] })), (1, Operand.const (Value.string { data := #[97] })), (2, Operand.tmp 34)], type := 86, pos := "l10_request.go:397", after := #[{ on := 6, ground := Ground.data }], guard := none }) rfl (fun K hK => ?_)
  replace hK := hid hK
  go_simp
  exact hK.out _ _ ⟨b0, b1, true, true, true, true, true, true, b8, b9, false, false, false, false, false, false, false, R3, X5, x6, w.heap.size, R9, x11, X13, G, CP, pp, rfl, rfl, hS.alloc _, hp, grown_al hg _, hbox.alloc _, hR.alloc _, by simp only [World.size_alloc]; omega, hst, fun h => World.ownsRow.alloc (ho1 h) _, fun h => Bool.noConfusion h, hLn, ⟨World.ownsRow.alloc hoO.1 _, hoO.2⟩, hR3, fun h e => World.ownsRow.alloc (hX5 h e) _, hx6, fun _ _ => ⟨RowAt.new w _ _, hBz⟩, hR9, hx11, fun h => Bool.noConfusion h⟩
set_option maxRecDepth 20000 in
set_option maxHeartbeats 1000000 in
theorem ra8_s8 {Q : Exit → Act → World → Prop} (W0 w0 : World) (c : Nat) (a : Option Addr) (len cap p XR XB B : Nat) (zr : Array Value) (y0 y1 y3 y4 : Value) (aL : Option Addr) (cL : Nat) (L : List Hp) (BO : Nat) (aO : Option Addr) (nO cO : Nat) (LO : List Hp) (s1 s4 s5 s6 s7 s8 s9 s10 s11 s12 s13 s14 s15 s16 s17 s18 s19 s20 s21 s22 s23 s24 s25 s26 s27 s28 s29 s30 s31 s32 s33 s34 s35 s36 s37 s38 s39 s40 s41 s42 s43 s44 s45 s46 s47 s48 s49 s50 s51 s52 s53 s54 s55 s56 s57 s58 s59 s60 s61 s62 s63 s64 s65 s66 s67 s68 s69 s70 s71 : Value) (b0 b1 b2 b3 b4 b5 b6 b7 : Bool) (R3 : Nat) (X5 : Nat) (x6 : ByteArray) (X7 : Nat) (R9 : Nat) (x11 : ByteArray) (X13 : Nat) (G : Nat) (CP : Nat) (pp : Nat) (w : World) (hS : Src W0 w c a len cap pp) (hp : pp ≤ p + 40 * (b3.toNat + 0)) (hg : w0.grownBy w (some c)) (hbox : RowAt w XB 25 (cond false #[y0, y1, .slice (some ⟨G, 0, none⟩) (L.length + 1) CP, y3, y4] #[y0, y1, .slice aL L.length cL, y3, y4])) (hR : RowAt w XR 25 zr) (hBz : B ≤ w.heap.size) (hst : c < XB ∧ c < B ∧ w0.heap.size ≤ B ∧ XR ≠ XB ∧ w0.heap.size ≤ XB ∧ W0.heap.size ≤ c ∧ p ≤ 900000 ∧ c ≠ XR) (ho1 : false = false → OwnHp w B (.slice aL L.length cL) L) (ho2 : false = true → OwnHp w B (.slice (some ⟨G, 0, none⟩) (L.length + 1) CP) (L ++ [(⟨x11, ⟨#[120]⟩⟩ : Hp)])) (hLn : L.length ≤ 1000) (hoO : OwnHp w BO (.slice aO nO cO) LO ∧ c < BO ∧ ((Value.slice aO nO cO).ownBlock = none ∨ (Value.slice aO nO cO).ownBlock ≠ (Value.slice aL L.length cL).ownBlock)) (hR3 : b3 = true → R3 < 2) (hX5 : b5 = true → false = false → OwnNums w B 5 .u8 (.slice (some ⟨X5, 0, none⟩) (100 + R3) (100 + R3)) (List.replicate (100 + R3) 0)) (hx6 : b6 = true → x6.size ≤ 102) (hX7 : b7 = true → false = false → RowAt w X7 9 #[.string ⟨#[]⟩, .string ⟨#[97]⟩, .string x6] ∧ B ≤ X7) (hR9 : false = true → R9 < 3) (hx11 : false = true → x11.size ≤ 102) (hX13 : false = true → false = false → RowAt w X13 54 #[.string x11, .string ⟨#[120]⟩] ∧ B ≤ X13) :
    wpOp Tryz.prog ra8O Q 8 (ra8I W0 w0 c a len cap p XR XB B zr y0 y1 y3 y4 aL cL L BO aO nO cO LO s1 s4 s5 s6 s7 s8 s9 s10 s11 s12 s13 s14 s15 s16 s17 s18 s19 s20 s21 s22 s23 s24 s25 s26 s27 s28 s29 s30 s31 s32 s33 s34 s35 s36 s37 s38 s39 s40 s41 s42 s43 s44 s45 s46 s47 s48 s49 s50 s51 s52 s53 s54 s55 s56 s57 s58 s59 s60 s61 s62 s63 s64 s65 s66 s67 s68 s69 s70 s71 #[b0, b1, b2, b3, b4, b5, b6, b7, true, false, false, false, false, false, false, false, false]) { tmps := #[.pointer (some ⟨c, 0, none⟩), s1, .pointer (some ⟨XR, 0, none⟩), .pointer (some ⟨XB, 0, none⟩), s4, s5, s6, s7, s8, s9, s10, s11, s12, s13, s14, s15, s16, s17, s18, s19, s20, s21, s22, s23, s24, s25, s26, s27, sel b0 (.pointer (some ⟨XB, 2, none⟩)) (s28), sel b1 (.slice aL L.length cL) (s29), sel b2 (.pointer (some ⟨c, 0, none⟩)) (s30), sel b3 (.int .i64 (R3 : Int)) (s31), sel b4 (.int .i64 (100 + (R3 : Int))) (s32), sel b5 (.slice (some ⟨X5, 0, none⟩) (100 + R3) (100 + R3)) (s33), sel b6 (.string x6) (s34), sel b7 (.slice (some ⟨X7, 0, none⟩) 3 3) (s35), s36, s37, s38, s39, s40, s41, s42, s43, s44, s45, s46, s47, s48, s49, s50, s51, s52, s53, s54, s55, s56, s57, s58, s59, s60, s61, s62, s63, s64, s65, s66, s67, s68, s69, s70, s71], defers := [] } w := by
  refine wpOp_step (o := { dst := some 36, op := Op.move (Operand.tmp 0), type := 43, pos := "l10_request.go:397", after := #[], guard := none }) rfl (fun K hK => ?_)
  replace hK := hid hK
  go_simp
  exact hK.out _ _ ⟨b0, b1, b2, b3, b4, b5, b6, b7, true, false, false, false, false, false, false, false, false, R3, X5, x6, X7, R9, x11, X13, G, CP, pp, rfl, rfl, hS, hp, hg, hbox, hR, hBz, hst, ho1, ho2, hLn, hoO, hR3, hX5, hx6, hX7, hR9, hx11, hX13⟩
set_option maxRecDepth 20000 in
set_option maxHeartbeats 1000000 in
theorem ra8_s9 {Q : Exit → Act → World → Prop} (W0 w0 : World) (c : Nat) (a : Option Addr) (len cap p XR XB B : Nat) (zr : Array Value) (y0 y1 y3 y4 : Value) (aL : Option Addr) (cL : Nat) (L : List Hp) (BO : Nat) (aO : Option Addr) (nO cO : Nat) (LO : List Hp) (s1 s4 s5 s6 s7 s8 s9 s10 s11 s12 s13 s14 s15 s16 s17 s18 s19 s20 s21 s22 s23 s24 s25 s26 s27 s28 s29 s30 s31 s32 s33 s34 s35 s36 s37 s38 s39 s40 s41 s42 s43 s44 s45 s46 s47 s48 s49 s50 s51 s52 s53 s54 s55 s56 s57 s58 s59 s60 s61 s62 s63 s64 s65 s66 s67 s68 s69 s70 s71 : Value) (b0 b1 b4 b5 b6 b7 : Bool) (R3 : Nat) (X5 : Nat) (x6 : ByteArray) (X7 : Nat) (R9 : Nat) (x11 : ByteArray) (X13 : Nat) (G : Nat) (CP : Nat) (pp : Nat) (w : World) (hS : Src W0 w c a len cap pp) (hp : pp ≤ p + 40 * (1 + 0)) (hg : w0.grownBy w (some c)) (hbox : RowAt w XB 25 (cond false #[y0, y1, .slice (some ⟨G, 0, none⟩) (L.length + 1) CP, y3, y4] #[y0, y1, .slice aL L.length cL, y3, y4])) (hR : RowAt w XR 25 zr) (hBz : B ≤ w.heap.size) (hst : c < XB ∧ c < B ∧ w0.heap.size ≤ B ∧ XR ≠ XB ∧ w0.heap.size ≤ XB ∧ W0.heap.size ≤ c ∧ p ≤ 900000 ∧ c ≠ XR) (ho1 : false = false → OwnHp w B (.slice aL L.length cL) L) (ho2 : false = true → OwnHp w B (.slice (some ⟨G, 0, none⟩) (L.length + 1) CP) (L ++ [(⟨x11, ⟨#[120]⟩⟩ : Hp)])) (hLn : L.length ≤ 1000) (hoO : OwnHp w BO (.slice aO nO cO) LO ∧ c < BO ∧ ((Value.slice aO nO cO).ownBlock = none ∨ (Value.slice aO nO cO).ownBlock ≠ (Value.slice aL L.length cL).ownBlock)) (hR3 : true = true → R3 < 2) (hX5 : b5 = true → false = false → OwnNums w B 5 .u8 (.slice (some ⟨X5, 0, none⟩) (100 + R3) (100 + R3)) (List.replicate (100 + R3) 0)) (hx6 : b6 = true → x6.size ≤ 102) (hX7 : b7 = true → false = false → RowAt w X7 9 #[.string ⟨#[]⟩, .string ⟨#[97]⟩, .string x6] ∧ B ≤ X7) (hR9 : false = true → R9 < 3) (hx11 : false = true → x11.size ≤ 102) (hX13 : false = true → false = false → RowAt w X13 54 #[.string x11, .string ⟨#[120]⟩] ∧ B ≤ X13) :
    wpOp Tryz.prog ra8O Q 9 (ra8I W0 w0 c a len cap p XR XB B zr y0 y1 y3 y4 aL cL L BO aO nO cO LO s1 s4 s5 s6 s7 s8 s9 s10 s11 s12 s13 s14 s15 s16 s17 s18 s19 s20 s21 s22 s23 s24 s25 s26 s27 s28 s29 s30 s31 s32 s33 s34 s35 s36 s37 s38 s39 s40 s41 s42 s43 s44 s45 s46 s47 s48 s49 s50 s51 s52 s53 s54 s55 s56 s57 s58 s59 s60 s61 s62 s63 s64 s65 s66 s67 s68 s69 s70 s71 #[b0, b1, true, true, b4, b5, b6, b7, true, true, false, false, false, false, false, false, false]) { tmps := #[.pointer (some ⟨c, 0, none⟩), s1, .pointer (some ⟨XR, 0, none⟩), .pointer (some ⟨XB, 0, none⟩), s4, s5, s6, s7, s8, s9, s10, s11, s12, s13, s14, s15, s16, s17, s18, s19, s20, s21, s22, s23, s24, s25, s26, s27, sel b0 (.pointer (some ⟨XB, 2, none⟩)) (s28), sel b1 (.slice aL L.length cL) (s29), .pointer (some ⟨c, 0, none⟩), .int .i64 (R3 : Int), sel b4 (.int .i64 (100 + (R3 : Int))) (s32), sel b5 (.slice (some ⟨X5, 0, none⟩) (100 + R3) (100 + R3)) (s33), sel b6 (.string x6) (s34), sel b7 (.slice (some ⟨X7, 0, none⟩) 3 3) (s35), .pointer (some ⟨c, 0, none⟩), s37, s38, s39, s40, s41, s42, s43, s44, s45, s46, s47, s48, s49, s50, s51, s52, s53, s54, s55, s56, s57, s58, s59, s60, s61, s62, s63, s64, s65, s66, s67, s68, s69, s70, s71], defers := [] } w := by
  have hcB : c < B := by omega
  refine wpOp_step (o := { dst := some 37, op := Op.call { callee := Callee.value (Operand.func 52), args := #[Operand.tmp 36, Operand.const (Value.int IntKind.i64 3)], argTypes := #[43, 2] }, type := 2, pos := "l10_request.go:397", after := #[{ on := 8, ground := Ground.data }, { on := 3, ground := Ground.chain }], guard := none }) rfl (fun K hK => ?_)
  replace hK := hid hK
  go_simp
  refine (n_all W0 _ c a len cap pp 3 hS (by omega) (by omega) (by omega)).mono ?_
  rintro e w2 ⟨⟨r, rfl, h20, h21⟩, hs2, hg2⟩
  obtain ⟨R, rfl⟩ := Int.eq_ofNat_of_zero_le h20
  dsimp only
  exact hK.out _ _ ⟨b0, b1, true, true, b4, b5, b6, b7, true, true, false, false, false, false, false, false, false, R3, X5, x6, X7, R, x11, X13, G, CP, pp + 1, rfl, rfl, hs2, by show pp + 1 ≤ p + 40 * (1 + 1); omega, grown_trans hg hg2, rowF hbox hg2 hst.1, rowF2 hR hg2 hst.2.2.2.2.2.2.2, Nat.le_trans hBz hg2.size, hst, fun h => OwnHp.keptC (ho1 h) hg2 (by omega), fun h => Bool.noConfusion h, hLn, ⟨OwnHp.keptC hoO.1 hg2 hoO.2.1, hoO.2⟩, hR3, fun h e => OwnNums.kept (hX5 h e) hg2 (by omega), hx6, fun h e => ⟨rowF (hX7 h e).1 hg2 (by have := (hX7 h e).2; omega), (hX7 h e).2⟩, fun _ => by omega, hx11, fun h => Bool.noConfusion h⟩
set_option maxRecDepth 20000 in
set_option maxHeartbeats 1000000 in
theorem ra8_s10 {Q : Exit → Act → World → Prop} (W0 w0 : World) (c : Nat) (a : Option Addr) (len cap p XR XB B : Nat) (zr : Array Value) (y0 y1 y3 y4 : Value) (aL : Option Addr) (cL : Nat) (L : List Hp) (BO : Nat) (aO : Option Addr) (nO cO : Nat) (LO : List Hp) (s1 s4 s5 s6 s7 s8 s9 s10 s11 s12 s13 s14 s15 s16 s17 s18 s19 s20 s21 s22 s23 s24 s25 s26 s27 s28 s29 s30 s31 s32 s33 s34 s35 s36 s37 s38 s39 s40 s41 s42 s43 s44 s45 s46 s47 s48 s49 s50 s51 s52 s53 s54 s55 s56 s57 s58 s59 s60 s61 s62 s63 s64 s65 s66 s67 s68 s69 s70 s71 : Value) (b0 b1 : Bool) (R3 : Nat) (X5 : Nat) (x6 : ByteArray) (X7 : Nat) (R9 : Nat) (x11 : ByteArray) (X13 : Nat) (G : Nat) (CP : Nat) (pp : Nat) (w : World) (hS : Src W0 w c a len cap pp) (hp : pp ≤ p + 40 * (1 + 1)) (hg : w0.grownBy w (some c)) (hbox : RowAt w XB 25 (cond false #[y0, y1, .slice (some ⟨G, 0, none⟩) (L.length + 1) CP, y3, y4] #[y0, y1, .slice aL L.length cL, y3, y4])) (hR : RowAt w XR 25 zr) (hBz : B ≤ w.heap.size) (hst : c < XB ∧ c < B ∧ w0.heap.size ≤ B ∧ XR ≠ XB ∧ w0.heap.size ≤ XB ∧ W0.heap.size ≤ c ∧ p ≤ 900000 ∧ c ≠ XR) (ho1 : false = false → OwnHp w B (.slice aL L.length cL) L) (ho2 : false = true → OwnHp w B (.slice (some ⟨G, 0, none⟩) (L.length + 1) CP) (L ++ [(⟨x11, ⟨#[120]⟩⟩ : Hp)])) (hLn : L.length ≤ 1000) (hoO : OwnHp w BO (.slice aO nO cO) LO ∧ c < BO ∧ ((Value.slice aO nO cO).ownBlock = none ∨ (Value.slice aO nO cO).ownBlock ≠ (Value.slice aL L.length cL).ownBlock)) (hR3 : true = true → R3 < 2) (hX5 : true = true → false = false → OwnNums w B 5 .u8 (.slice (some ⟨X5, 0, none⟩) (100 + R3) (100 + R3)) (List.replicate (100 + R3) 0)) (hx6 : true = true → x6.size ≤ 102) (hX7 : true = true → false = false → RowAt w X7 9 #[.string ⟨#[]⟩, .string ⟨#[97]⟩, .string x6] ∧ B ≤ X7) (hR9 : true = true → R9 < 3) (hx11 : false = true → x11.size ≤ 102) (hX13 : false = true → false = false → RowAt w X13 54 #[.string x11, .string ⟨#[120]⟩] ∧ B ≤ X13) :
    wpOp Tryz.prog ra8O Q 10 (ra8I W0 w0 c a len cap p XR XB B zr y0 y1 y3 y4 aL cL L BO aO nO cO LO s1 s4 s5 s6 s7 s8 s9 s10 s11 s12 s13 s14 s15 s16 s17 s18 s19 s20 s21 s22 s23 s24 s25 s26 s27 s28 s29 s30 s31 s32 s33 s34 s35 s36 s37 s38 s39 s40 s41 s42 s43 s44 s45 s46 s47 s48 s49 s50 s51 s52 s53 s54 s55 s56 s57 s58 s59 s60 s61 s62 s63 s64 s65 s66 s67 s68 s69 s70 s71 #[b0, b1, true, true, true, true, true, true, true, true, true, false, false, false, false, false, false]) { tmps := #[.pointer (some ⟨c, 0, none⟩), s1, .pointer (some ⟨XR, 0, none⟩), .pointer (some ⟨XB, 0, none⟩), s4, s5, s6, s7, s8, s9, s10, s11, s12, s13, s14, s15, s16, s17, s18, s19, s20, s21, s22, s23, s24, s25, s26, s27, sel b0 (.pointer (some ⟨XB, 2, none⟩)) (s28), sel b1 (.slice aL L.length cL) (s29), .pointer (some ⟨c, 0, none⟩), .int .i64 (R3 : Int), .int .i64 (100 + (R3 : Int)), .slice (some ⟨X5, 0, none⟩) (100 + R3) (100 + R3), .string x6, .slice (some ⟨X7, 0, none⟩) 3 3, .pointer (some ⟨c, 0, none⟩), .int .i64 (R9 : Int), s38, s39, s40, s41, s42, s43, s44, s45, s46, s47, s48, s49, s50, s51, s52, s53, s54, s55, s56, s57, s58, s59, s60, s61, s62, s63, s64, s65, s66, s67, s68, s69, s70, s71], defers := [] } w := by
  have r := hR9 rfl
  have r0 : (R9 : Int) < 3 := by omega
  refine wpOp_step (o := { dst := some 38, op := Op.indexAddr 86 (Operand.tmp 35) (Operand.tmp 37), type := 0, pos := "l10_request.go:397", after := #[{ on := 7, ground := Ground.data }, { on := 9, ground := Ground.data }], guard := none }) rfl (fun K hK => ?_)
  replace hK := hid hK
  go_simp
  exact hK.out _ _ ⟨b0, b1, true, true, true, true, true, true, true, true, true, false, false, false, false, false, false, R3, X5, x6, X7, R9, x11, X13, G, CP, pp, rfl, rfl, hS, hp, hg, hbox, hR, hBz, hst, ho1, ho2, hLn, hoO, hR3, hX5, hx6, hX7, hR9, hx11, hX13⟩
set_option maxRecDepth 20000 in
set_option maxHeartbeats 1000000 in
theorem ra8_s11 {Q : Exit → Act → World → Prop} (W0 w0 : World) (c : Nat) (a : Option Addr) (len cap p XR XB B : Nat) (zr : Array Value) (y0 y1 y3 y4 : Value) (aL : Option Addr) (cL : Nat) (L : List Hp) (BO : Nat) (aO : Option Addr) (nO cO : Nat) (LO : List Hp) (s1 s4 s5 s6 s7 s8 s9 s10 s11 s12 s13 s14 s15 s16 s17 s18 s19 s20 s21 s22 s23 s24 s25 s26 s27 s28 s29 s30 s31 s32 s33 s34 s35 s36 s37 s38 s39 s40 s41 s42 s43 s44 s45 s46 s47 s48 s49 s50 s51 s52 s53 s54 s55 s56 s57 s58 s59 s60 s61 s62 s63 s64 s65 s66 s67 s68 s69 s70 s71 : Value) (b0 b1 : Bool) (R3 : Nat) (X5 : Nat) (x6 : ByteArray) (X7 : Nat) (R9 : Nat) (x11 : ByteArray) (X13 : Nat) (G : Nat) (CP : Nat) (pp : Nat) (w : World) (hS : Src W0 w c a len cap pp) (hp : pp ≤ p + 40 * (1 + 1)) (hg : w0.grownBy w (some c)) (hbox : RowAt w XB 25 (cond false #[y0, y1, .slice (some ⟨G, 0, none⟩) (L.length + 1) CP, y3, y4] #[y0, y1, .slice aL L.length cL, y3, y4])) (hR : RowAt w XR 25 zr) (hBz : B ≤ w.heap.size) (hst : c < XB ∧ c < B ∧ w0.heap.size ≤ B ∧ XR ≠ XB ∧ w0.heap.size ≤ XB ∧ W0.heap.size ≤ c ∧ p ≤ 900000 ∧ c ≠ XR) (ho1 : false = false → OwnHp w B (.slice aL L.length cL) L) (ho2 : false = true → OwnHp w B (.slice (some ⟨G, 0, none⟩) (L.length + 1) CP) (L ++ [(⟨x11, ⟨#[120]⟩⟩ : Hp)])) (hLn : L.length ≤ 1000) (hoO : OwnHp w BO (.slice aO nO cO) LO ∧ c < BO ∧ ((Value.slice aO nO cO).ownBlock = none ∨ (Value.slice aO nO cO).ownBlock ≠ (Value.slice aL L.length cL).ownBlock)) (hR3 : true = true → R3 < 2) (hX5 : true = true → false = false → OwnNums w B 5 .u8 (.slice (some ⟨X5, 0, none⟩) (100 + R3) (100 + R3)) (List.replicate (100 + R3) 0)) (hx6 : true = true → x6.size ≤ 102) (hX7 : true = true → false = false → RowAt w X7 9 #[.string ⟨#[]⟩, .string ⟨#[97]⟩, .string x6] ∧ B ≤ X7) (hR9 : true = true → R9 < 3) (hx11 : false = true → x11.size ≤ 102) (hX13 : false = true → false = false → RowAt w X13 54 #[.string x11, .string ⟨#[120]⟩] ∧ B ≤ X13) :
    wpOp Tryz.prog ra8O Q 11 (ra8I W0 w0 c a len cap p XR XB B zr y0 y1 y3 y4 aL cL L BO aO nO cO LO s1 s4 s5 s6 s7 s8 s9 s10 s11 s12 s13 s14 s15 s16 s17 s18 s19 s20 s21 s22 s23 s24 s25 s26 s27 s28 s29 s30 s31 s32 s33 s34 s35 s36 s37 s38 s39 s40 s41 s42 s43 s44 s45 s46 s47 s48 s49 s50 s51 s52 s53 s54 s55 s56 s57 s58 s59 s60 s61 s62 s63 s64 s65 s66 s67 s68 s69 s70 s71 #[b0, b1, true, true, true, true, true, true, true, true, true, true, false, false, false, false, false]) { tmps := #[.pointer (some ⟨c, 0, none⟩), s1, .pointer (some ⟨XR, 0, none⟩), .pointer (some ⟨XB, 0, none⟩), s4, s5, s6, s7, s8, s9, s10, s11, s12, s13, s14, s15, s16, s17, s18, s19, s20, s21, s22, s23, s24, s25, s26, s27, sel b0 (.pointer (some ⟨XB, 2, none⟩)) (s28), sel b1 (.slice aL L.length cL) (s29), .pointer (some ⟨c, 0, none⟩), .int .i64 (R3 : Int), .int .i64 (100 + (R3 : Int)), .slice (some ⟨X5, 0, none⟩) (100 + R3) (100 + R3), .string x6, .slice (some ⟨X7, 0, none⟩) 3 3, .pointer (some ⟨c, 0, none⟩), .int .i64 (R9 : Int), .pointer (some ⟨X7, R9, none⟩), s39, s40, s41, s42, s43, s44, s45, s46, s47, s48, s49, s50, s51, s52, s53, s54, s55, s56, s57, s58, s59, s60, s61, s62, s63, s64, s65, s66, s67, s68, s69, s70, s71], defers := [] } w := by
  obtain ⟨tt, hk2, htt⟩ := ra8_tab7 x6 (hx6 rfl) R9 (hR9 rfl)
  have c2 := ((hX7 rfl rfl).1.cell R9).trans hk2
  refine wpOp_step (o := { dst := some 39, op := Op.load 9 (Operand.tmp 38), type := 9, pos := "l10_request.go:397", after := #[{ on := 10, ground := Ground.data }], guard := none }) rfl (fun K hK => ?_)
  replace hK := hid hK
  go_simp
  exact hK.out _ _ ⟨b0, b1, true, true, true, true, true, true, true, true, true, true, false, false, false, false, false, R3, X5, x6, X7, R9, tt, X13, G, CP, pp, rfl, rfl, hS, hp, hg, hbox, hR, hBz, hst, ho1, fun h => Bool.noConfusion h, hLn, hoO, hR3, hX5, hx6, hX7, hR9, fun _ => htt, fun h => Bool.noConfusion h⟩
set_option maxRecDepth 20000 in
set_option maxHeartbeats 1000000 in
theorem ra8_s12 {Q : Exit → Act → World → Prop} (W0 w0 : World) (c : Nat) (a : Option Addr) (len cap p XR XB B : Nat) (zr : Array Value) (y0 y1 y3 y4 : Value) (aL : Option Addr) (cL : Nat) (L : List Hp) (BO : Nat) (aO : Option Addr) (nO cO : Nat) (LO : List Hp) (s1 s4 s5 s6 s7 s8 s9 s10 s11 s12 s13 s14 s15 s16 s17 s18 s19 s20 s21 s22 s23 s24 s25 s26 s27 s28 s29 s30 s31 s32 s33 s34 s35 s36 s37 s38 s39 s40 s41 s42 s43 s44 s45 s46 s47 s48 s49 s50 s51 s52 s53 s54 s55 s56 s57 s58 s59 s60 s61 s62 s63 s64 s65 s66 s67 s68 s69 s70 s71 : Value) (b0 b1 : Bool) (R3 : Nat) (X5 : Nat) (x6 : ByteArray) (X7 : Nat) (R9 : Nat) (x11 : ByteArray) (X13 : Nat) (G : Nat) (CP : Nat) (pp : Nat) (w : World) (hS : Src W0 w c a len cap pp) (hp : pp ≤ p + 40 * (1 + 1)) (hg : w0.grownBy w (some c)) (hbox : RowAt w XB 25 (cond false #[y0, y1, .slice (some ⟨G, 0, none⟩) (L.length + 1) CP, y3, y4] #[y0, y1, .slice aL L.length cL, y3, y4])) (hR : RowAt w XR 25 zr) (hBz : B ≤ w.heap.size) (hst : c < XB ∧ c < B ∧ w0.heap.size ≤ B ∧ XR ≠ XB ∧ w0.heap.size ≤ XB ∧ W0.heap.size ≤ c ∧ p ≤ 900000 ∧ c ≠ XR) (ho1 : false = false → OwnHp w B (.slice aL L.length cL) L) (ho2 : false = true → OwnHp w B (.slice (some ⟨G, 0, none⟩) (L.length + 1) CP) (L ++ [(⟨x11, ⟨#[120]⟩⟩ : Hp)])) (hLn : L.length ≤ 1000) (hoO : OwnHp w BO (.slice aO nO cO) LO ∧ c < BO ∧ ((Value.slice aO nO cO).ownBlock = none ∨ (Value.slice aO nO cO).ownBlock ≠ (Value.slice aL L.length cL).ownBlock)) (hR3 : true = true → R3 < 2) (hX5 : true = true → false = false → OwnNums w B 5 .u8 (.slice (some ⟨X5, 0, none⟩) (100 + R3) (100 + R3)) (List.replicate (100 + R3) 0)) (hx6 : true = true → x6.size ≤ 102) (hX7 : true = true → false = false → RowAt w X7 9 #[.string ⟨#[]⟩, .string ⟨#[97]⟩, .string x6] ∧ B ≤ X7) (hR9 : true = true → R9 < 3) (hx11 : true = true → x11.size ≤ 102) (hX13 : false = true → false = false → RowAt w X13 54 #[.string x11, .string ⟨#[120]⟩] ∧ B ≤ X13) :
    wpOp Tryz.prog ra8O Q 12 (ra8I W0 w0 c a len cap p XR XB B zr y0 y1 y3 y4 aL cL L BO aO nO cO LO s1 s4 s5 s6 s7 s8 s9 s10 s11 s12 s13 s14 s15 s16 s17 s18 s19 s20 s21 s22 s23 s24 s25 s26 s27 s28 s29 s30 s31 s32 s33 s34 s35 s36 s37 s38 s39 s40 s41 s42 s43 s44 s45 s46 s47 s48 s49 s50 s51 s52 s53 s54 s55 s56 s57 s58 s59 s60 s61 s62 s63 s64 s65 s66 s67 s68 s69 s70 s71 #[b0, b1, true, true, true, true, true, true, true, true, true, true, true, false, false, false, false]) { tmps := #[.pointer (some ⟨c, 0, none⟩), s1, .pointer (some ⟨XR, 0, none⟩), .pointer (some ⟨XB, 0, none⟩), s4, s5, s6, s7, s8, s9, s10, s11, s12, s13, s14, s15, s16, s17, s18, s19, s20, s21, s22, s23, s24, s25, s26, s27, sel b0 (.pointer (some ⟨XB, 2, none⟩)) (s28), sel b1 (.slice aL L.length cL) (s29), .pointer (some ⟨c, 0, none⟩), .int .i64 (R3 : Int), .int .i64 (100 + (R3 : Int)), .slice (some ⟨X5, 0, none⟩) (100 + R3) (100 + R3), .string x6, .slice (some ⟨X7, 0, none⟩) 3 3, .pointer (some ⟨c, 0, none⟩), .int .i64 (R9 : Int), .pointer (some ⟨X7, R9, none⟩), .string x11, s40, s41, s42, s43, s44, s45, s46, s47, s48, s49, s50, s51, s52, s53, s54, s55, s56, s57, s58, s59, s60, s61, s62, s63, s64, s65, s66, s67, s68, s69, s70, s71], defers := [] } w := by
  refine wpOp_step (o := { dst := some 40, op := Op.build 54 #[(0, Operand.tmp 39), (1, Operand.const (Value.string { data := #[120] }))], type := 54, pos := "l10_request.go:397", after := #[{ on := 11, ground := Ground.data }], guard := none }) rfl (fun K hK => ?_)
  replace hK := hid hK
  go_simp
  exact hK.out _ _ ⟨b0, b1, true, true, true, true, true, true, true, true, true, true, true, false, false, false, false, R3, X5, x6, X7, R9, x11, X13, G, CP, pp, rfl, rfl, hS, hp, hg, hbox, hR, hBz, hst, ho1, ho2, hLn, hoO, hR3, hX5, hx6, hX7, hR9, hx11, hX13⟩
set_option maxRecDepth 20000 in
set_option maxHeartbeats 1000000 in
theorem ra8_s13 {Q : Exit → Act → World → Prop} (W0 w0 : World) (c : Nat) (a : Option Addr) (len cap p XR XB B : Nat) (zr : Array Value) (y0 y1 y3 y4 : Value) (aL : Option Addr) (cL : Nat) (L : List Hp) (BO : Nat) (aO : Option Addr) (nO cO : Nat) (LO : List Hp) (s1 s4 s5 s6 s7 s8 s9 s10 s11 s12 s13 s14 s15 s16 s17 s18 s19 s20 s21 s22 s23 s24 s25 s26 s27 s28 s29 s30 s31 s32 s33 s34 s35 s36 s37 s38 s39 s40 s41 s42 s43 s44 s45 s46 s47 s48 s49 s50 s51 s52 s53 s54 s55 s56 s57 s58 s59 s60 s61 s62 s63 s64 s65 s66 s67 s68 s69 s70 s71 : Value) (b0 b1 : Bool) (R3 : Nat) (X5 : Nat) (x6 : ByteArray) (X7 : Nat) (R9 : Nat) (x11 : ByteArray) (X13 : Nat) (G : Nat) (CP : Nat) (pp : Nat) (w : World) (hS : Src W0 w c a len cap pp) (hp : pp ≤ p + 40 * (1 + 1)) (hg : w0.grownBy w (some c)) (hbox : RowAt w XB 25 (cond false #[y0, y1, .slice (some ⟨G, 0, none⟩) (L.length + 1) CP, y3, y4] #[y0, y1, .slice aL L.length cL, y3, y4])) (hR : RowAt w XR 25 zr) (hBz : B ≤ w.heap.size) (hst : c < XB ∧ c < B ∧ w0.heap.size ≤ B ∧ XR ≠ XB ∧ w0.heap.size ≤ XB ∧ W0.heap.size ≤ c ∧ p ≤ 900000 ∧ c ≠ XR) (ho1 : false = false → OwnHp w B (.slice aL L.length cL) L) (ho2 : false = true → OwnHp w B (.slice (some ⟨G, 0, none⟩) (L.length + 1) CP) (L ++ [(⟨x11, ⟨#[120]⟩⟩ : Hp)])) (hLn : L.length ≤ 1000) (hoO : OwnHp w BO (.slice aO nO cO) LO ∧ c < BO ∧ ((Value.slice aO nO cO).ownBlock = none ∨ (Value.slice aO nO cO).ownBlock ≠ (Value.slice aL L.length cL).ownBlock)) (hR3 : true = true → R3 < 2) (hX5 : true = true → false = false → OwnNums w B 5 .u8 (.slice (some ⟨X5, 0, none⟩) (100 + R3) (100 + R3)) (List.replicate (100 + R3) 0)) (hx6 : true = true → x6.size ≤ 102) (hX7 : true = true → false = false → RowAt w X7 9 #[.string ⟨#[]⟩, .string ⟨#[97]⟩, .string x6] ∧ B ≤ X7) (hR9 : true = true → R9 < 3) (hx11 : true = true → x11.size ≤ 102) (hX13 : false = true → false = false → RowAt w X13 54 #[.string x11, .string ⟨#[120]⟩] ∧ B ≤ X13) :
    wpOp Tryz.prog ra8O Q 13 (ra8I W0 w0 c a len cap p XR XB B zr y0 y1 y3 y4 aL cL L BO aO nO cO LO s1 s4 s5 s6 s7 s8 s9 s10 s11 s12 s13 s14 s15 s16 s17 s18 s19 s20 s21 s22 s23 s24 s25 s26 s27 s28 s29 s30 s31 s32 s33 s34 s35 s36 s37 s38 s39 s40 s41 s42 s43 s44 s45 s46 s47 s48 s49 s50 s51 s52 s53 s54 s55 s56 s57 s58 s59 s60 s61 s62 s63 s64 s65 s66 s67 s68 s69 s70 s71 #[b0, b1, true, true, true, true, true, true, true, true, true, true, true, true, false, false, false]) { tmps := #[.pointer (some ⟨c, 0, none⟩), s1, .pointer (some ⟨XR, 0, none⟩), .pointer (some ⟨XB, 0, none⟩), s4, s5, s6, s7, s8, s9, s10, s11, s12, s13, s14, s15, s16, s17, s18, s19, s20, s21, s22, s23, s24, s25, s26, s27, sel b0 (.pointer (some ⟨XB, 2, none⟩)) (s28), sel b1 (.slice aL L.length cL) (s29), .pointer (some ⟨c, 0, none⟩), .int .i64 (R3 : Int), .int .i64 (100 + (R3 : Int)), .slice (some ⟨X5, 0, none⟩) (100 + R3) (100 + R3), .string x6, .slice (some ⟨X7, 0, none⟩) 3 3, .pointer (some ⟨c, 0, none⟩), .int .i64 (R9 : Int), .pointer (some ⟨X7, R9, none⟩), .string x11, .agg #[.string x11, .string ⟨#[120]⟩], s41, s42, s43, s44, s45, s46, s47, s48, s49, s50, s51, s52, s53, s54, s55, s56, s57, s58, s59, s60, s61, s62, s63, s64, s65, s66, s67, s68, s69, s70, s71], defers := [] } w := by
  refine wpOp_step (o := { dst := some 41, op := Op.buildSlice 23 1 #[(0, Operand.tmp 40)], type := 23, pos := "l10_request.go:397", after := #[{ on := 12, ground := Ground.data }], guard := none }) rfl (fun K hK => ?_)
  replace hK := hid hK
  go_simp
  exact hK.out _ _ ⟨b0, b1, true, true, true, true, true, true, true, true, true, true, true, true, false, false, false, R3, X5, x6, X7, R9, x11, w.heap.size, G, CP, pp, rfl, rfl, hS.alloc _, hp, grown_al hg _, hbox.alloc _, hR.alloc _, by simp only [World.size_alloc]; omega, hst, fun h => World.ownsRow.alloc (ho1 h) _, fun h => Bool.noConfusion h, hLn, ⟨World.ownsRow.alloc hoO.1 _, hoO.2⟩, hR3, fun h e => World.ownsRow.alloc (hX5 h e) _, hx6, fun h e => ⟨(hX7 h e).1.alloc _, (hX7 h e).2⟩, hR9, hx11, fun _ _ => ⟨RowAt.new w _ _, hBz⟩⟩
set_option maxRecDepth 20000 in
set_option maxHeartbeats 1000000 in
theorem ra8_s14 {Q : Exit → Act → World → Prop} (W0 w0 : World) (c : Nat) (a : Option Addr) (len cap p XR XB B : Nat) (zr : Array Value) (y0 y1 y3 y4 : Value) (aL : Option Addr) (cL : Nat) (L : List Hp) (BO : Nat) (aO : Option Addr) (nO cO : Nat) (LO : List Hp) (s1 s4 s5 s6 s7 s8 s9 s10 s11 s12 s13 s14 s15 s16 s17 s18 s19 s20 s21 s22 s23 s24 s25 s26 s27 s28 s29 s30 s31 s32 s33 s34 s35 s36 s37 s38 s39 s40 s41 s42 s43 s44 s45 s46 s47 s48 s49 s50 s51 s52 s53 s54 s55 s56 s57 s58 s59 s60 s61 s62 s63 s64 s65 s66 s67 s68 s69 s70 s71 : Value) (R3 : Nat) (X5 : Nat) (x6 : ByteArray) (X7 : Nat) (R9 : Nat) (x11 : ByteArray) (X13 : Nat) (G : Nat) (CP : Nat) (pp : Nat) (w : World) (hS : Src W0 w c a len cap pp) (hp : pp ≤ p + 40 * (1 + 1)) (hg : w0.grownBy w (some c)) (hbox : RowAt w XB 25 (cond false #[y0, y1, .slice (some ⟨G, 0, none⟩) (L.length + 1) CP, y3, y4] #[y0, y1, .slice aL L.length cL, y3, y4])) (hR : RowAt w XR 25 zr) (hBz : B ≤ w.heap.size) (hst : c < XB ∧ c < B ∧ w0.heap.size ≤ B ∧ XR ≠ XB ∧ w0.heap.size ≤ XB ∧ W0.heap.size ≤ c ∧ p ≤ 900000 ∧ c ≠ XR) (ho1 : false = false → OwnHp w B (.slice aL L.length cL) L) (ho2 : false = true → OwnHp w B (.slice (some ⟨G, 0, none⟩) (L.length + 1) CP) (L ++ [(⟨x11, ⟨#[120]⟩⟩ : Hp)])) (hLn : L.length ≤ 1000) (hoO : OwnHp w BO (.slice aO nO cO) LO ∧ c < BO ∧ ((Value.slice aO nO cO).ownBlock = none ∨ (Value.slice aO nO cO).ownBlock ≠ (Value.slice aL L.length cL).ownBlock)) (hR3 : true = true → R3 < 2) (hX5 : true = true → false = false → OwnNums w B 5 .u8 (.slice (some ⟨X5, 0, none⟩) (100 + R3) (100 + R3)) (List.replicate (100 + R3) 0)) (hx6 : true = true → x6.size ≤ 102) (hX7 : true = true → false = false → RowAt w X7 9 #[.string ⟨#[]⟩, .string ⟨#[97]⟩, .string x6] ∧ B ≤ X7) (hR9 : true = true → R9 < 3) (hx11 : true = true → x11.size ≤ 102) (hX13 : true = true → false = false → RowAt w X13 54 #[.string x11, .string ⟨#[120]⟩] ∧ B ≤ X13) :
    wpOp Tryz.prog ra8O Q 14 (ra8I W0 w0 c a len cap p XR XB B zr y0 y1 y3 y4 aL cL L BO aO nO cO LO s1 s4 s5 s6 s7 s8 s9 s10 s11 s12 s13 s14 s15 s16 s17 s18 s19 s20 s21 s22 s23 s24 s25 s26 s27 s28 s29 s30 s31 s32 s33 s34 s35 s36 s37 s38 s39 s40 s41 s42 s43 s44 s45 s46 s47 s48 s49 s50 s51 s52 s53 s54 s55 s56 s57 s58 s59 s60 s61 s62 s63 s64 s65 s66 s67 s68 s69 s70 s71 #[true, true, true, true, true, true, true, true, true, true, true, true, true, true, true, false, false]) { tmps := #[.pointer (some ⟨c, 0, none⟩), s1, .pointer (some ⟨XR, 0, none⟩), .pointer (some ⟨XB, 0, none⟩), s4, s5, s6, s7, s8, s9, s10, s11, s12, s13, s14, s15, s16, s17, s18, s19, s20, s21, s22, s23, s24, s25, s26, s27, .pointer (some ⟨XB, 2, none⟩), .slice aL L.length cL, .pointer (some ⟨c, 0, none⟩), .int .i64 (R3 : Int), .int .i64 (100 + (R3 : Int)), .slice (some ⟨X5, 0, none⟩) (100 + R3) (100 + R3), .string x6, .slice (some ⟨X7, 0, none⟩) 3 3, .pointer (some ⟨c, 0, none⟩), .int .i64 (R9 : Int), .pointer (some ⟨X7, R9, none⟩), .string x11, .agg #[.string x11, .string ⟨#[120]⟩], .slice (some ⟨X13, 0, none⟩) 1 1, s42, s43, s44, s45, s46, s47, s48, s49, s50, s51, s52, s53, s54, s55, s56, s57, s58, s59, s60, s61, s62, s63, s64, s65, s66, s67, s68, s69, s70, s71], defers := [] } w := by
  refine wpOp_step (o := { dst := some 42, op := Op.call { callee := Callee.builtin Builtin.append, args := #[Operand.tmp 29, Operand.tmp 41], argTypes := #[23, 23] }, type := 23, pos := "l10_request.go:397", after := #[{ on := 1, ground := Ground.data }, { on := 13, ground := Ground.data }, { on := 9, ground := Ground.chain }], guard := none }) rfl (fun K hK => ?_)
  replace hK := hid hK
  have hO := ho1 rfl
  refine step_append_hpD B _ (by rfl) _ _ 23 (by rfl) Tryz.underlying23 Tryz.infoHpF _ L x11 ⟨#[120]⟩ (by rfl) hO hBz X13 (hX13 rfl rfl).1 (by rfl) (by omega) ?_
  intro g3 c3 w3 hO3 hg3
  exact hK.out _ _ ⟨true, true, true, true, true, true, true, true, true, true, true, true, true, true, true, false, false, R3, X5, x6, X7, R9, x11, X13, g3, c3, pp, rfl, rfl, hS.far hg3 (OwnHp.apart hO (by omega)) (fun g hg => by have := (World.ownsRow.lt hO _ hg).1; omega), hp, grown_own hg hg3 (fun g hg => (World.ownsRow.lt hO _ hg).1) (by omega), row_grown hbox hg3 (OwnHp.neRow hO hbox (by decide)), row_grown hR hg3 (OwnHp.neRow hO hR (by decide)), Nat.le_trans hBz hg3.size, hst, fun h => Bool.noConfusion h, fun _ => hO3, hLn, ⟨World.ownsRow.kept hoO.1 hg3 hoO.2.2, hoO.2⟩, hR3, fun h e => Bool.noConfusion e, hx6, fun h e => Bool.noConfusion e, hR9, hx11, fun h e => Bool.noConfusion e⟩
set_option maxRecDepth 20000 in
set_option maxHeartbeats 1000000 in
theorem ra8_s15 {Q : Exit → Act → World → Prop} (W0 w0 : World) (c : Nat) (a : Option Addr) (len cap p XR XB B : Nat) (zr : Array Value) (y0 y1 y3 y4 : Value) (aL : Option Addr) (cL : Nat) (L : List Hp) (BO : Nat) (aO : Option Addr) (nO cO : Nat) (LO : List Hp) (s1 s4 s5 s6 s7 s8 s9 s10 s11 s12 s13 s14 s15 s16 s17 s18 s19 s20 s21 s22 s23 s24 s25 s26 s27 s28 s29 s30 s31 s32 s33 s34 s35 s36 s37 s38 s39 s40 s41 s42 s43 s44 s45 s46 s47 s48 s49 s50 s51 s52 s53 s54 s55 s56 s57 s58 s59 s60 s61 s62 s63 s64 s65 s66 s67 s68 s69 s70 s71 : Value) (R3 : Nat) (X5 : Nat) (x6 : ByteArray) (X7 : Nat) (R9 : Nat) (x11 : ByteArray) (X13 : Nat) (G : Nat) (CP : Nat) (pp : Nat) (w : World) (hS : Src W0 w c a len cap pp) (hp : pp ≤ p + 40 * (1 + 1)) (hg : w0.grownBy w (some c)) (hbox : RowAt w XB 25 (cond false #[y0, y1, .slice (some ⟨G, 0, none⟩) (L.length + 1) CP, y3, y4] #[y0, y1, .slice aL L.length cL, y3, y4])) (hR : RowAt w XR 25 zr) (hBz : B ≤ w.heap.size) (hst : c < XB ∧ c < B ∧ w0.heap.size ≤ B ∧ XR ≠ XB ∧ w0.heap.size ≤ XB ∧ W0.heap.size ≤ c ∧ p ≤ 900000 ∧ c ≠ XR) (ho1 : true = false → OwnHp w B (.slice aL L.length cL) L) (ho2 : true = true → OwnHp w B (.slice (some ⟨G, 0, none⟩) (L.length + 1) CP) (L ++ [(⟨x11, ⟨#[120]⟩⟩ : Hp)])) (hLn : L.length ≤ 1000) (hoO : OwnHp w BO (.slice aO nO cO) LO ∧ c < BO ∧ ((Value.slice aO nO cO).ownBlock = none ∨ (Value.slice aO nO cO).ownBlock ≠ (Value.slice aL L.length cL).ownBlock)) (hR3 : true = true → R3 < 2) (hX5 : true = true → true = false → OwnNums w B 5 .u8 (.slice (some ⟨X5, 0, none⟩) (100 + R3) (100 + R3)) (List.replicate (100 + R3) 0)) (hx6 : true = true → x6.size ≤ 102) (hX7 : true = true → true = false → RowAt w X7 9 #[.string ⟨#[]⟩, .string ⟨#[97]⟩, .string x6] ∧ B ≤ X7) (hR9 : true = true → R9 < 3) (hx11 : true = true → x11.size ≤ 102) (hX13 : true = true → true = false → RowAt w X13 54 #[.string x11, .string ⟨#[120]⟩] ∧ B ≤ X13) :
    wpOp Tryz.prog ra8O Q 15 (ra8I W0 w0 c a len cap p XR XB B zr y0 y1 y3 y4 aL cL L BO aO nO cO LO s1 s4 s5 s6 s7 s8 s9 s10 s11 s12 s13 s14 s15 s16 s17 s18 s19 s20 s21 s22 s23 s24 s25 s26 s27 s28 s29 s30 s31 s32 s33 s34 s35 s36 s37 s38 s39 s40 s41 s42 s43 s44 s45 s46 s47 s48 s49 s50 s51 s52 s53 s54 s55 s56 s57 s58 s59 s60 s61 s62 s63 s64 s65 s66 s67 s68 s69 s70 s71 #[true, true, true, true, true, true, true, true, true, true, true, true, true, true, true, true, false]) { tmps := #[.pointer (some ⟨c, 0, none⟩), s1, .pointer (some ⟨XR, 0, none⟩), .pointer (some ⟨XB, 0, none⟩), s4, s5, s6, s7, s8, s9, s10, s11, s12, s13, s14, s15, s16, s17, s18, s19, s20, s21, s22, s23, s24, s25, s26, s27, .pointer (some ⟨XB, 2, none⟩), .slice aL L.length cL, .pointer (some ⟨c, 0, none⟩), .int .i64 (R3 : Int), .int .i64 (100 + (R3 : Int)), .slice (some ⟨X5, 0, none⟩) (100 + R3) (100 + R3), .string x6, .slice (some ⟨X7, 0, none⟩) 3 3, .pointer (some ⟨c, 0, none⟩), .int .i64 (R9 : Int), .pointer (some ⟨X7, R9, none⟩), .string x11, .agg #[.string x11, .string ⟨#[120]⟩], .slice (some ⟨X13, 0, none⟩) 1 1, .slice (some ⟨G, 0, none⟩) (L.length + 1) CP, s43, s44, s45, s46, s47, s48, s49, s50, s51, s52, s53, s54, s55, s56, s57, s58, s59, s60, s61, s62, s63, s64, s65, s66, s67, s68, s69, s70, s71], defers := [] } w := by
  refine wpOp_step (o := { dst := some 43, op := Op.fieldAddr 25 (Operand.tmp 3) 2, type := 0, pos := "l10_request.go:397", after := #[{ on := 0, ground := Ground.phase }, { on := 1, ground := Ground.phase }, { on := 2, ground := Ground.phase }, { on := 3, ground := Ground.phase }, { on := 4, ground := Ground.phase }, { on := 5, ground := Ground.phase }, { on := 6, ground := Ground.phase }, { on := 7, ground := Ground.phase }, { on := 8, ground := Ground.phase }, { on := 9, ground := Ground.phase }, { on := 10, ground := Ground.phase }, { on := 11, ground := Ground.phase }, { on := 12, ground := Ground.phase }, { on := 13, ground := Ground.phase }, { on := 14, ground := Ground.phase }], guard := none }) rfl (fun K hK => ?_)
  replace hK := hid hK
  go_simp
  exact hK.out _ _ ⟨true, true, true, true, true, true, true, true, true, true, true, true, true, true, true, true, false, R3, X5, x6, X7, R9, x11, X13, G, CP, pp, rfl, rfl, hS, hp, hg, hbox, hR, hBz, hst, ho1, ho2, hLn, hoO, hR3, hX5, hx6, hX7, hR9, hx11, hX13⟩
set_option maxRecDepth 20000 in
set_option maxHeartbeats 1000000 in
theorem ra8_s16 {Q : Exit → Act → World → Prop} (W0 w0 : World) (c : Nat) (a : Option Addr) (len cap p XR XB B : Nat) (zr : Array Value) (y0 y1 y3 y4 : Value) (aL : Option Addr) (cL : Nat) (L : List Hp) (BO : Nat) (aO : Option Addr) (nO cO : Nat) (LO : List Hp) (s1 s4 s5 s6 s7 s8 s9 s10 s11 s12 s13 s14 s15 s16 s17 s18 s19 s20 s21 s22 s23 s24 s25 s26 s27 s28 s29 s30 s31 s32 s33 s34 s35 s36 s37 s38 s39 s40 s41 s42 s43 s44 s45 s46 s47 s48 s49 s50 s51 s52 s53 s54 s55 s56 s57 s58 s59 s60 s61 s62 s63 s64 s65 s66 s67 s68 s69 s70 s71 : Value) (R3 : Nat) (X5 : Nat) (x6 : ByteArray) (X7 : Nat) (R9 : Nat) (x11 : ByteArray) (X13 : Nat) (G : Nat) (CP : Nat) (pp : Nat) (w : World) (hS : Src W0 w c a len cap pp) (hp : pp ≤ p + 40 * (1 + 1)) (hg : w0.grownBy w (some c)) (hbox : RowAt w XB 25 (cond false #[y0, y1, .slice (some ⟨G, 0, none⟩) (L.length + 1) CP, y3, y4] #[y0, y1, .slice aL L.length cL, y3, y4])) (hR : RowAt w XR 25 zr) (hBz : B ≤ w.heap.size) (hst : c < XB ∧ c < B ∧ w0.heap.size ≤ B ∧ XR ≠ XB ∧ w0.heap.size ≤ XB ∧ W0.heap.size ≤ c ∧ p ≤ 900000 ∧ c ≠ XR) (ho1 : true = false → OwnHp w B (.slice aL L.length cL) L) (ho2 : true = true → OwnHp w B (.slice (some ⟨G, 0, none⟩) (L.length + 1) CP) (L ++ [(⟨x11, ⟨#[120]⟩⟩ : Hp)])) (hLn : L.length ≤ 1000) (hoO : OwnHp w BO (.slice aO nO cO) LO ∧ c < BO ∧ ((Value.slice aO nO cO).ownBlock = none ∨ (Value.slice aO nO cO).ownBlock ≠ (Value.slice aL L.length cL).ownBlock)) (hR3 : true = true → R3 < 2) (hX5 : true = true → true = false → OwnNums w B 5 .u8 (.slice (some ⟨X5, 0, none⟩) (100 + R3) (100 + R3)) (List.replicate (100 + R3) 0)) (hx6 : true = true → x6.size ≤ 102) (hX7 : true = true → true = false → RowAt w X7 9 #[.string ⟨#[]⟩, .string ⟨#[97]⟩, .string x6] ∧ B ≤ X7) (hR9 : true = true → R9 < 3) (hx11 : true = true → x11.size ≤ 102) (hX13 : true = true → true = false → RowAt w X13 54 #[.string x11, .string ⟨#[120]⟩] ∧ B ≤ X13) :
    wpOp Tryz.prog ra8O Q 16 (ra8I W0 w0 c a len cap p XR XB B zr y0 y1 y3 y4 aL cL L BO aO nO cO LO s1 s4 s5 s6 s7 s8 s9 s10 s11 s12 s13 s14 s15 s16 s17 s18 s19 s20 s21 s22 s23 s24 s25 s26 s27 s28 s29 s30 s31 s32 s33 s34 s35 s36 s37 s38 s39 s40 s41 s42 s43 s44 s45 s46 s47 s48 s49 s50 s51 s52 s53 s54 s55 s56 s57 s58 s59 s60 s61 s62 s63 s64 s65 s66 s67 s68 s69 s70 s71 #[true, true, true, true, true, true, true, true, true, true, true, true, true, true, true, true, true]) { tmps := #[.pointer (some ⟨c, 0, none⟩), s1, .pointer (some ⟨XR, 0, none⟩), .pointer (some ⟨XB, 0, none⟩), s4, s5, s6, s7, s8, s9, s10, s11, s12, s13, s14, s15, s16, s17, s18, s19, s20, s21, s22, s23, s24, s25, s26, s27, .pointer (some ⟨XB, 2, none⟩), .slice aL L.length cL, .pointer (some ⟨c, 0, none⟩), .int .i64 (R3 : Int), .int .i64 (100 + (R3 : Int)), .slice (some ⟨X5, 0, none⟩) (100 + R3) (100 + R3), .string x6, .slice (some ⟨X7, 0, none⟩) 3 3, .pointer (some ⟨c, 0, none⟩), .int .i64 (R9 : Int), .pointer (some ⟨X7, R9, none⟩), .string x11, .agg #[.string x11, .string ⟨#[120]⟩], .slice (some ⟨X13, 0, none⟩) 1 1, .slice (some ⟨G, 0, none⟩) (L.length + 1) CP, .pointer (some ⟨XB, 2, none⟩), s44, s45, s46, s47, s48, s49, s50, s51, s52, s53, s54, s55, s56, s57, s58, s59, s60, s61, s62, s63, s64, s65, s66, s67, s68, s69, s70, s71], defers := [] } w := by
  have hbx : RowAt w XB 25 #[y0, y1, .slice aL L.length cL, y3, y4] := hbox
  have q := hbx.cell 2
  have f := hbx.free 2
  refine wpOp_step (o := { dst := none, op := Op.store 23 (Operand.tmp 43) (Operand.tmp 42), type := 0, pos := "l10_request.go:397", after := #[{ on := 15, ground := Ground.data }, { on := 14, ground := Ground.data }, { on := 14, ground := Ground.chain }, { on := 0, ground := Ground.phase }, { on := 1, ground := Ground.phase }, { on := 2, ground := Ground.phase }, { on := 3, ground := Ground.phase }, { on := 4, ground := Ground.phase }, { on := 5, ground := Ground.phase }, { on := 6, ground := Ground.phase }, { on := 7, ground := Ground.phase }, { on := 8, ground := Ground.phase }, { on := 9, ground := Ground.phase }, { on := 10, ground := Ground.phase }, { on := 11, ground := Ground.phase }, { on := 12, ground := Ground.phase }, { on := 13, ground := Ground.phase }, { on := 14, ground := Ground.phase }], guard := none }) rfl (fun K hK => ?_)
  replace hK := hid hK
  go_simp
  exact hK.out _ _ ⟨true, true, true, true, true, true, true, true, true, true, true, true, true, true, true, true, true, R3, X5, x6, X7, R9, x11, X13, G, CP, pp, rfl, rfl, hS.set hst.1 2 _, hp, grown_far hg hst.2.2.2.2.1 2 _, hbx.set 2 _, hR.other ⟨XB, 2, none⟩ _ hst.2.2.2.1, by simp; omega, hst, fun h => Bool.noConfusion h, fun h => OwnHp.setCellN (ho2 h) (OwnHp.neRow (ho2 h) hbx (by decide)), hLn, ⟨OwnHp.setCellN hoO.1 (OwnHp.neRow hoO.1 hbx (by decide)), hoO.2⟩, hR3, fun h e => Bool.noConfusion e, hx6, fun h e => Bool.noConfusion e, hR9, hx11, fun h e => Bool.noConfusion e⟩
set_option maxRecDepth 20000 in
set_option maxHeartbeats 2000000 in
theorem ra8_step {Q : Exit → Act → World → Prop} (W0 w0 : World) (c : Nat) (a : Option Addr) (len cap p XR XB B : Nat) (zr : Array Value) (y0 y1 y3 y4 : Value) (aL : Option Addr) (cL : Nat) (L : List Hp) (BO : Nat) (aO : Option Addr) (nO cO : Nat) (LO : List Hp) (s1 s4 s5 s6 s7 s8 s9 s10 s11 s12 s13 s14 s15 s16 s17 s18 s19 s20 s21 s22 s23 s24 s25 s26 s27 s28 s29 s30 s31 s32 s33 s34 s35 s36 s37 s38 s39 s40 s41 s42 s43 s44 s45 s46 s47 s48 s49 s50 s51 s52 s53 s54 s55 s56 s57 s58 s59 s60 s61 s62 s63 s64 s65 s66 s67 s68 s69 s70 s71 : Value) (l : Array Bool) (f : Act) (w : World) (hC : Closed ra8O l) (hI : ra8I W0 w0 c a len cap p XR XB B zr y0 y1 y3 y4 aL cL L BO aO nO cO LO s1 s4 s5 s6 s7 s8 s9 s10 s11 s12 s13 s14 s15 s16 s17 s18 s19 s20 s21 s22 s23 s24 s25 s26 s27 s28 s29 s30 s31 s32 s33 s34 s35 s36 s37 s38 s39 s40 s41 s42 s43 s44 s45 s46 s47 s48 s49 s50 s51 s52 s53 s54 s55 s56 s57 s58 s59 s60 s61 s62 s63 s64 s65 s66 s67 s68 s69 s70 s71 l f w) (i : Nat) (h0 : l.getD i true = false) (o : Oper) (ho : ra8O[i]? = some o) (h1 : ∀ e ∈ o.after, Region.binds .any e = true → l.getD e.on false = true) : wpOp Tryz.prog ra8O Q i (ra8I W0 w0 c a len cap p XR XB B zr y0 y1 y3 y4 aL cL L BO aO nO cO LO s1 s4 s5 s6 s7 s8 s9 s10 s11 s12 s13 s14 s15 s16 s17 s18 s19 s20 s21 s22 s23 s24 s25 s26 s27 s28 s29 s30 s31 s32 s33 s34 s35 s36 s37 s38 s39 s40 s41 s42 s43 s44 s45 s46 s47 s48 s49 s50 s51 s52 s53 s54 s55 s56 s57 s58 s59 s60 s61 s62 s63 s64 s65 s66 s67 s68 s69 s70 s71 (l.setIfInBounds i true)) f w := by
  obtain ⟨b0, b1, b2, b3, b4, b5, b6, b7, b8, b9, b10, b11, b12, b13, b14, b15, b16, R3, X5, x6, X7, R9, x11, X13, G, CP, pp, rfl, rfl, hS, hp, hg, hbox, hR, hBz, hst, ho1, ho2, hLn, hoO, hR3, hX5, hx6, hX7, hR9, hx11, hX13⟩ := hI
  have hi : i < 17 := by
    rcases Nat.lt_or_ge i 17 with h | h
    · exact h
    · rw [show ra8O[i]? = none from Array.getElem?_eq_none h] at ho; cases ho
  rcases (by omega : i = 0 ∨ i = 1 ∨ i = 2 ∨ i = 3 ∨ i = 4 ∨ i = 5 ∨ i = 6 ∨ i = 7 ∨ i = 8 ∨ i = 9 ∨ i = 10 ∨ i = 11 ∨ i = 12 ∨ i = 13 ∨ i = 14 ∨ i = 15 ∨ i = 16) with rfl | rfl | rfl | rfl | rfl | rfl | rfl | rfl | rfl | rfl | rfl | rfl | rfl | rfl | rfl | rfl | rfl
  · obtain rfl : ra8o0 = o := Option.some.inj ho
    obtain rfl : b0 = false := h0
    obtain rfl : b1 = false := by
      cases b1 with
      | false => rfl
      | true => exact Bool.noConfusion (show false = true from hC 1 ra8o1 rfl rfl ⟨0, .data⟩ (by simp [ra8o1]) rfl)
    obtain rfl : b14 = false := by
      cases b14 with
      | false => rfl
      | true => exact Bool.noConfusion (show false = true from hC 14 ra8o14 rfl rfl ⟨1, .data⟩ (by simp [ra8o14]) rfl)
    obtain rfl : b15 = false := by
      cases b15 with
      | false => rfl
      | true => exact Bool.noConfusion (show false = true from hC 15 ra8o15 rfl rfl ⟨0, .phase⟩ (by simp [ra8o15]) rfl)
    obtain rfl : b16 = false := by
      cases b16 with
      | false => rfl
      | true => exact Bool.noConfusion (show false = true from hC 16 ra8o16 rfl rfl ⟨0, .phase⟩ (by simp [ra8o16]) rfl)
    exact ra8_s0 W0 w0 c a len cap p XR XB B zr y0 y1 y3 y4 aL cL L BO aO nO cO LO s1 s4 s5 s6 s7 s8 s9 s10 s11 s12 s13 s14 s15 s16 s17 s18 s19 s20 s21 s22 s23 s24 s25 s26 s27 s28 s29 s30 s31 s32 s33 s34 s35 s36 s37 s38 s39 s40 s41 s42 s43 s44 s45 s46 s47 s48 s49 s50 s51 s52 s53 s54 s55 s56 s57 s58 s59 s60 s61 s62 s63 s64 s65 s66 s67 s68 s69 s70 s71 b2 b3 b4 b5 b6 b7 b8 b9 b10 b11 b12 b13 R3 X5 x6 X7 R9 x11 X13 G CP pp w hS hp hg hbox hR hBz hst ho1 ho2 hLn hoO hR3 hX5 hx6 hX7 hR9 hx11 hX13
  · obtain rfl : ra8o1 = o := Option.some.inj ho
    obtain rfl : b1 = false := h0
    obtain rfl : b0 = true := h1 ⟨0, .data⟩ (by simp [ra8o1]) rfl
    obtain rfl : b14 = false := by
      cases b14 with
      | false => rfl
      | true => exact Bool.noConfusion (show false = true from hC 14 ra8o14 rfl rfl ⟨1, .data⟩ (by simp [ra8o14]) rfl)
    obtain rfl : b15 = false := by
      cases b15 with
      | false => rfl
      | true => exact Bool.noConfusion (show false = true from hC 15 ra8o15 rfl rfl ⟨1, .phase⟩ (by simp [ra8o15]) rfl)
    obtain rfl : b16 = false := by
      cases b16 with
      | false => rfl
      | true => exact Bool.noConfusion (show false = true from hC 16 ra8o16 rfl rfl ⟨1, .phase⟩ (by simp [ra8o16]) rfl)
    exact ra8_s1 W0 w0 c a len cap p XR XB B zr y0 y1 y3 y4 aL cL L BO aO nO cO LO s1 s4 s5 s6 s7 s8 s9 s10 s11 s12 s13 s14 s15 s16 s17 s18 s19 s20 s21 s22 s23 s24 s25 s26 s27 s28 s29 s30 s31 s32 s33 s34 s35 s36 s37 s38 s39 s40 s41 s42 s43 s44 s45 s46 s47 s48 s49 s50 s51 s52 s53 s54 s55 s56 s57 s58 s59 s60 s61 s62 s63 s64 s65 s66 s67 s68 s69 s70 s71 b2 b3 b4 b5 b6 b7 b8 b9 b10 b11 b12 b13 R3 X5 x6 X7 R9 x11 X13 G CP pp w hS hp hg hbox hR hBz hst ho1 ho2 hLn hoO hR3 hX5 hx6 hX7 hR9 hx11 hX13
  · obtain rfl : ra8o2 = o := Option.some.inj ho
    obtain rfl : b2 = false := h0
    obtain rfl : b3 = false := by
      cases b3 with
      | false => rfl
      | true => exact Bool.noConfusion (show false = true from hC 3 ra8o3 rfl rfl ⟨2, .data⟩ (by simp [ra8o3]) rfl)
    obtain rfl : b4 = false := by
      cases b4 with
      | false => rfl
      | true => exact Bool.noConfusion (show false = true from hC 4 ra8o4 rfl rfl ⟨3, .data⟩ (by simp [ra8o4]) rfl)
    obtain rfl : b5 = false := by
      cases b5 with
      | false => rfl
      | true => exact Bool.noConfusion (show false = true from hC 5 ra8o5 rfl rfl ⟨4, .data⟩ (by simp [ra8o5]) rfl)
    obtain rfl : b6 = false := by
      cases b6 with
      | false => rfl
      | true => exact Bool.noConfusion (show false = true from hC 6 ra8o6 rfl rfl ⟨5, .data⟩ (by simp [ra8o6]) rfl)
    obtain rfl : b7 = false := by
      cases b7 with
      | false => rfl
      | true => exact Bool.noConfusion (show false = true from hC 7 ra8o7 rfl rfl ⟨6, .data⟩ (by simp [ra8o7]) rfl)
    obtain rfl : b9 = false := by
      cases b9 with
      | false => rfl
      | true => exact Bool.noConfusion (show false = true from hC 9 ra8o9 rfl rfl ⟨3, .chain⟩ (by simp [ra8o9]) rfl)
    obtain rfl : b10 = false := by
      cases b10 with
      | false => rfl
      | true => exact Bool.noConfusion (show false = true from hC 10 ra8o10 rfl rfl ⟨7, .data⟩ (by simp [ra8o10]) rfl)
    obtain rfl : b11 = false := by
      cases b11 with
      | false => rfl
      | true => exact Bool.noConfusion (show false = true from hC 11 ra8o11 rfl rfl ⟨10, .data⟩ (by simp [ra8o11]) rfl)
    obtain rfl : b12 = false := by
      cases b12 with
      | false => rfl
      | true => exact Bool.noConfusion (show false = true from hC 12 ra8o12 rfl rfl ⟨11, .data⟩ (by simp [ra8o12]) rfl)
    obtain rfl : b13 = false := by
      cases b13 with
      | false => rfl
      | true => exact Bool.noConfusion (show false = true from hC 13 ra8o13 rfl rfl ⟨12, .data⟩ (by simp [ra8o13]) rfl)
    obtain rfl : b14 = false := by
      cases b14 with
      | false => rfl
      | true => exact Bool.noConfusion (show false = true from hC 14 ra8o14 rfl rfl ⟨9, .chain⟩ (by simp [ra8o14]) rfl)
    obtain rfl : b15 = false := by
      cases b15 with
      | false => rfl
      | true => exact Bool.noConfusion (show false = true from hC 15 ra8o15 rfl rfl ⟨2, .phase⟩ (by simp [ra8o15]) rfl)
    obtain rfl : b16 = false := by
      cases b16 with
      | false => rfl
      | true => exact Bool.noConfusion (show false = true from hC 16 ra8o16 rfl rfl ⟨2, .phase⟩ (by simp [ra8o16]) rfl)
    exact ra8_s2 W0 w0 c a len cap p XR XB B zr y0 y1 y3 y4 aL cL L BO aO nO cO LO s1 s4 s5 s6 s7 s8 s9 s10 s11 s12 s13 s14 s15 s16 s17 s18 s19 s20 s21 s22 s23 s24 s25 s26 s27 s28 s29 s30 s31 s32 s33 s34 s35 s36 s37 s38 s39 s40 s41 s42 s43 s44 s45 s46 s47 s48 s49 s50 s51 s52 s53 s54 s55 s56 s57 s58 s59 s60 s61 s62 s63 s64 s65 s66 s67 s68 s69 s70 s71 b0 b1 b8 R3 X5 x6 X7 R9 x11 X13 G CP pp w hS hp hg hbox hR hBz hst ho1 ho2 hLn hoO hR3 hX5 hx6 hX7 hR9 hx11 hX13
  · obtain rfl : ra8o3 = o := Option.some.inj ho
    obtain rfl : b3 = false := h0
    obtain rfl : b2 = true := h1 ⟨2, .data⟩ (by simp [ra8o3]) rfl
    obtain rfl : b4 = false := by
      cases b4 with
      | false => rfl
      | true => exact Bool.noConfusion (show false = true from hC 4 ra8o4 rfl rfl ⟨3, .data⟩ (by simp [ra8o4]) rfl)
    obtain rfl : b5 = false := by
      cases b5 with
      | false => rfl
      | true => exact Bool.noConfusion (show false = true from hC 5 ra8o5 rfl rfl ⟨4, .data⟩ (by simp [ra8o5]) rfl)
    obtain rfl : b6 = false := by
      cases b6 with
      | false => rfl
      | true => exact Bool.noConfusion (show false = true from hC 6 ra8o6 rfl rfl ⟨5, .data⟩ (by simp [ra8o6]) rfl)
    obtain rfl : b7 = false := by
      cases b7 with
      | false => rfl
      | true => exact Bool.noConfusion (show false = true from hC 7 ra8o7 rfl rfl ⟨6, .data⟩ (by simp [ra8o7]) rfl)
    obtain rfl : b9 = false := by
      cases b9 with
      | false => rfl
      | true => exact Bool.noConfusion (show false = true from hC 9 ra8o9 rfl rfl ⟨3, .chain⟩ (by simp [ra8o9]) rfl)
    obtain rfl : b10 = false := by
      cases b10 with
      | false => rfl
      | true => exact Bool.noConfusion (show false = true from hC 10 ra8o10 rfl rfl ⟨7, .data⟩ (by simp [ra8o10]) rfl)
    obtain rfl : b11 = false := by
      cases b11 with
      | false => rfl
      | true => exact Bool.noConfusion (show false = true from hC 11 ra8o11 rfl rfl ⟨10, .data⟩ (by simp [ra8o11]) rfl)
    obtain rfl : b12 = false := by
      cases b12 with
      | false => rfl
      | true => exact Bool.noConfusion (show false = true from hC 12 ra8o12 rfl rfl ⟨11, .data⟩ (by simp [ra8o12]) rfl)
    obtain rfl : b13 = false := by
      cases b13 with
      | false => rfl
      | true => exact Bool.noConfusion (show false = true from hC 13 ra8o13 rfl rfl ⟨12, .data⟩ (by simp [ra8o13]) rfl)
    obtain rfl : b14 = false := by
      cases b14 with
      | false => rfl
      | true => exact Bool.noConfusion (show false = true from hC 14 ra8o14 rfl rfl ⟨9, .chain⟩ (by simp [ra8o14]) rfl)
    obtain rfl : b15 = false := by
      cases b15 with
      | false => rfl
      | true => exact Bool.noConfusion (show false = true from hC 15 ra8o15 rfl rfl ⟨3, .phase⟩ (by simp [ra8o15]) rfl)
    obtain rfl : b16 = false := by
      cases b16 with
      | false => rfl
      | true => exact Bool.noConfusion (show false = true from hC 16 ra8o16 rfl rfl ⟨3, .phase⟩ (by simp [ra8o16]) rfl)
    exact ra8_s3 W0 w0 c a len cap p XR XB B zr y0 y1 y3 y4 aL cL L BO aO nO cO LO s1 s4 s5 s6 s7 s8 s9 s10 s11 s12 s13 s14 s15 s16 s17 s18 s19 s20 s21 s22 s23 s24 s25 s26 s27 s28 s29 s30 s31 s32 s33 s34 s35 s36 s37 s38 s39 s40 s41 s42 s43 s44 s45 s46 s47 s48 s49 s50 s51 s52 s53 s54 s55 s56 s57 s58 s59 s60 s61 s62 s63 s64 s65 s66 s67 s68 s69 s70 s71 b0 b1 b8 R3 X5 x6 X7 R9 x11 X13 G CP pp w hS hp hg hbox hR hBz hst ho1 ho2 hLn hoO hR3 hX5 hx6 hX7 hR9 hx11 hX13
  · obtain rfl : ra8o4 = o := Option.some.inj ho
    obtain rfl : b4 = false := h0
    obtain rfl : b3 = true := h1 ⟨3, .data⟩ (by simp [ra8o4]) rfl
    obtain rfl : b2 = true := hC 3 ra8o3 rfl rfl ⟨2, .data⟩ (by simp [ra8o3]) rfl
    obtain rfl : b5 = false := by
      cases b5 with
      | false => rfl
      | true => exact Bool.noConfusion (show false = true from hC 5 ra8o5 rfl rfl ⟨4, .data⟩ (by simp [ra8o5]) rfl)
    obtain rfl : b6 = false := by
      cases b6 with
      | false => rfl
      | true => exact Bool.noConfusion (show false = true from hC 6 ra8o6 rfl rfl ⟨5, .data⟩ (by simp [ra8o6]) rfl)
    obtain rfl : b7 = false := by
      cases b7 with
      | false => rfl
      | true => exact Bool.noConfusion (show false = true from hC 7 ra8o7 rfl rfl ⟨6, .data⟩ (by simp [ra8o7]) rfl)
    obtain rfl : b10 = false := by
      cases b10 with
      | false => rfl
      | true => exact Bool.noConfusion (show false = true from hC 10 ra8o10 rfl rfl ⟨7, .data⟩ (by simp [ra8o10]) rfl)
    obtain rfl : b11 = false := by
      cases b11 with
      | false => rfl
      | true => exact Bool.noConfusion (show false = true from hC 11 ra8o11 rfl rfl ⟨10, .data⟩ (by simp [ra8o11]) rfl)
    obtain rfl : b12 = false := by
      cases b12 with
      | false => rfl
      | true => exact Bool.noConfusion (show false = true from hC 12 ra8o12 rfl rfl ⟨11, .data⟩ (by simp [ra8o12]) rfl)
    obtain rfl : b13 = false := by
      cases b13 with
      | false => rfl
      | true => exact Bool.noConfusion (show false = true from hC 13 ra8o13 rfl rfl ⟨12, .data⟩ (by simp [ra8o13]) rfl)
    obtain rfl : b14 = false := by
      cases b14 with
      | false => rfl
      | true => exact Bool.noConfusion (show false = true from hC 14 ra8o14 rfl rfl ⟨13, .data⟩ (by simp [ra8o14]) rfl)
    obtain rfl : b15 = false := by
      cases b15 with
      | false => rfl
      | true => exact Bool.noConfusion (show false = true from hC 15 ra8o15 rfl rfl ⟨4, .phase⟩ (by simp [ra8o15]) rfl)
    obtain rfl : b16 = false := by
      cases b16 with
      | false => rfl
      | true => exact Bool.noConfusion (show false = true from hC 16 ra8o16 rfl rfl ⟨4, .phase⟩ (by simp [ra8o16]) rfl)
    exact ra8_s4 W0 w0 c a len cap p XR XB B zr y0 y1 y3 y4 aL cL L BO aO nO cO LO s1 s4 s5 s6 s7 s8 s9 s10 s11 s12 s13 s14 s15 s16 s17 s18 s19 s20 s21 s22 s23 s24 s25 s26 s27 s28 s29 s30 s31 s32 s33 s34 s35 s36 s37 s38 s39 s40 s41 s42 s43 s44 s45 s46 s47 s48 s49 s50 s51 s52 s53 s54 s55 s56 s57 s58 s59 s60 s61 s62 s63 s64 s65 s66 s67 s68 s69 s70 s71 b0 b1 b8 b9 R3 X5 x6 X7 R9 x11 X13 G CP pp w hS hp hg hbox hR hBz hst ho1 ho2 hLn hoO hR3 hX5 hx6 hX7 hR9 hx11 hX13
  · obtain rfl : ra8o5 = o := Option.some.inj ho
    obtain rfl : b5 = false := h0
    obtain rfl : b4 = true := h1 ⟨4, .data⟩ (by simp [ra8o5]) rfl
    obtain rfl : b3 = true := hC 4 ra8o4 rfl rfl ⟨3, .data⟩ (by simp [ra8o4]) rfl
    obtain rfl : b2 = true := hC 3 ra8o3 rfl rfl ⟨2, .data⟩ (by simp [ra8o3]) rfl
    obtain rfl : b6 = false := by
      cases b6 with
      | false => rfl
      | true => exact Bool.noConfusion (show false = true from hC 6 ra8o6 rfl rfl ⟨5, .data⟩ (by simp [ra8o6]) rfl)
    obtain rfl : b7 = false := by
      cases b7 with
      | false => rfl
      | true => exact Bool.noConfusion (show false = true from hC 7 ra8o7 rfl rfl ⟨6, .data⟩ (by simp [ra8o7]) rfl)
    obtain rfl : b10 = false := by
      cases b10 with
      | false => rfl
      | true => exact Bool.noConfusion (show false = true from hC 10 ra8o10 rfl rfl ⟨7, .data⟩ (by simp [ra8o10]) rfl)
    obtain rfl : b11 = false := by
      cases b11 with
      | false => rfl
      | true => exact Bool.noConfusion (show false = true from hC 11 ra8o11 rfl rfl ⟨10, .data⟩ (by simp [ra8o11]) rfl)
    obtain rfl : b12 = false := by
      cases b12 with
      | false => rfl
      | true => exact Bool.noConfusion (show false = true from hC 12 ra8o12 rfl rfl ⟨11, .data⟩ (by simp [ra8o12]) rfl)
    obtain rfl : b13 = false := by
      cases b13 with
      | false => rfl
      | true => exact Bool.noConfusion (show false = true from hC 13 ra8o13 rfl rfl ⟨12, .data⟩ (by simp [ra8o13]) rfl)
    obtain rfl : b14 = false := by
      cases b14 with
      | false => rfl
      | true => exact Bool.noConfusion (show false = true from hC 14 ra8o14 rfl rfl ⟨13, .data⟩ (by simp [ra8o14]) rfl)
    obtain rfl : b15 = false := by
      cases b15 with
      | false => rfl
      | true => exact Bool.noConfusion (show false = true from hC 15 ra8o15 rfl rfl ⟨5, .phase⟩ (by simp [ra8o15]) rfl)
    obtain rfl : b16 = false := by
      cases b16 with
      | false => rfl
      | true => exact Bool.noConfusion (show false = true from hC 16 ra8o16 rfl rfl ⟨5, .phase⟩ (by simp [ra8o16]) rfl)
    exact ra8_s5 W0 w0 c a len cap p XR XB B zr y0 y1 y3 y4 aL cL L BO aO nO cO LO s1 s4 s5 s6 s7 s8 s9 s10 s11 s12 s13 s14 s15 s16 s17 s18 s19 s20 s21 s22 s23 s24 s25 s26 s27 s28 s29 s30 s31 s32 s33 s34 s35 s36 s37 s38 s39 s40 s41 s42 s43 s44 s45 s46 s47 s48 s49 s50 s51 s52 s53 s54 s55 s56 s57 s58 s59 s60 s61 s62 s63 s64 s65 s66 s67 s68 s69 s70 s71 b0 b1 b8 b9 R3 X5 x6 X7 R9 x11 X13 G CP pp w hS hp hg hbox hR hBz hst ho1 ho2 hLn hoO hR3 hX5 hx6 hX7 hR9 hx11 hX13
  · obtain rfl : ra8o6 = o := Option.some.inj ho
    obtain rfl : b6 = false := h0
    obtain rfl : b5 = true := h1 ⟨5, .data⟩ (by simp [ra8o6]) rfl
    obtain rfl : b4 = true := hC 5 ra8o5 rfl rfl ⟨4, .data⟩ (by simp [ra8o5]) rfl
    obtain rfl : b3 = true := hC 4 ra8o4 rfl rfl ⟨3, .data⟩ (by simp [ra8o4]) rfl
    obtain rfl : b2 = true := hC 3 ra8o3 rfl rfl ⟨2, .data⟩ (by simp [ra8o3]) rfl
    obtain rfl : b7 = false := by
      cases b7 with
      | false => rfl
      | true => exact Bool.noConfusion (show false = true from hC 7 ra8o7 rfl rfl ⟨6, .data⟩ (by simp [ra8o7]) rfl)
    obtain rfl : b10 = false := by
      cases b10 with
      | false => rfl
      | true => exact Bool.noConfusion (show false = true from hC 10 ra8o10 rfl rfl ⟨7, .data⟩ (by simp [ra8o10]) rfl)
    obtain rfl : b11 = false := by
      cases b11 with
      | false => rfl
      | true => exact Bool.noConfusion (show false = true from hC 11 ra8o11 rfl rfl ⟨10, .data⟩ (by simp [ra8o11]) rfl)
    obtain rfl : b12 = false := by
      cases b12 with
      | false => rfl
      | true => exact Bool.noConfusion (show false = true from hC 12 ra8o12 rfl rfl ⟨11, .data⟩ (by simp [ra8o12]) rfl)
    obtain rfl : b13 = false := by
      cases b13 with
      | false => rfl
      | true => exact Bool.noConfusion (show false = true from hC 13 ra8o13 rfl rfl ⟨12, .data⟩ (by simp [ra8o13]) rfl)
    obtain rfl : b14 = false := by
      cases b14 with
      | false => rfl
      | true => exact Bool.noConfusion (show false = true from hC 14 ra8o14 rfl rfl ⟨13, .data⟩ (by simp [ra8o14]) rfl)
    obtain rfl : b15 = false := by
      cases b15 with
      | false => rfl
      | true => exact Bool.noConfusion (show false = true from hC 15 ra8o15 rfl rfl ⟨6, .phase⟩ (by simp [ra8o15]) rfl)
    obtain rfl : b16 = false := by
      cases b16 with
      | false => rfl
      | true => exact Bool.noConfusion (show false = true from hC 16 ra8o16 rfl rfl ⟨6, .phase⟩ (by simp [ra8o16]) rfl)
    exact ra8_s6 W0 w0 c a len cap p XR XB B zr y0 y1 y3 y4 aL cL L BO aO nO cO LO s1 s4 s5 s6 s7 s8 s9 s10 s11 s12 s13 s14 s15 s16 s17 s18 s19 s20 s21 s22 s23 s24 s25 s26 s27 s28 s29 s30 s31 s32 s33 s34 s35 s36 s37 s38 s39 s40 s41 s42 s43 s44 s45 s46 s47 s48 s49 s50 s51 s52 s53 s54 s55 s56 s57 s58 s59 s60 s61 s62 s63 s64 s65 s66 s67 s68 s69 s70 s71 b0 b1 b8 b9 R3 X5 x6 X7 R9 x11 X13 G CP pp w hS hp hg hbox hR hBz hst ho1 ho2 hLn hoO hR3 hX5 hx6 hX7 hR9 hx11 hX13
  · obtain rfl : ra8o7 = o := Option.some.inj ho
    obtain rfl : b7 = false := h0
    obtain rfl : b6 = true := h1 ⟨6, .data⟩ (by simp [ra8o7]) rfl
    obtain rfl : b5 = true := hC 6 ra8o6 rfl rfl ⟨5, .data⟩ (by simp [ra8o6]) rfl
    obtain rfl : b4 = true := hC 5 ra8o5 rfl rfl ⟨4, .data⟩ (by simp [ra8o5]) rfl
    obtain rfl : b3 = true := hC 4 ra8o4 rfl rfl ⟨3, .data⟩ (by simp [ra8o4]) rfl
    obtain rfl : b2 = true := hC 3 ra8o3 rfl rfl ⟨2, .data⟩ (by simp [ra8o3]) rfl
    obtain rfl : b10 = false := by
      cases b10 with
      | false => rfl
      | true => exact Bool.noConfusion (show false = true from hC 10 ra8o10 rfl rfl ⟨7, .data⟩ (by simp [ra8o10]) rfl)
    obtain rfl : b11 = false := by
      cases b11 with
      | false => rfl
      | true => exact Bool.noConfusion (show false = true from hC 11 ra8o11 rfl rfl ⟨10, .data⟩ (by simp [ra8o11]) rfl)
    obtain rfl : b12 = false := by
      cases b12 with
      | false => rfl
      | true => exact Bool.noConfusion (show false = true from hC 12 ra8o12 rfl rfl ⟨11, .data⟩ (by simp [ra8o12]) rfl)
    obtain rfl : b13 = false := by
      cases b13 with
      | false => rfl
      | true => exact Bool.noConfusion (show false = true from hC 13 ra8o13 rfl rfl ⟨12, .data⟩ (by simp [ra8o13]) rfl)
    obtain rfl : b14 = false := by
      cases b14 with
      | false => rfl
      | true => exact Bool.noConfusion (show false = true from hC 14 ra8o14 rfl rfl ⟨13, .data⟩ (by simp [ra8o14]) rfl)
    obtain rfl : b15 = false := by
      cases b15 with
      | false => rfl
      | true => exact Bool.noConfusion (show false = true from hC 15 ra8o15 rfl rfl ⟨7, .phase⟩ (by simp [ra8o15]) rfl)
    obtain rfl : b16 = false := by
      cases b16 with
      | false => rfl
      | true => exact Bool.noConfusion (show false = true from hC 16 ra8o16 rfl rfl ⟨7, .phase⟩ (by simp [ra8o16]) rfl)
    exact ra8_s7 W0 w0 c a len cap p XR XB B zr y0 y1 y3 y4 aL cL L BO aO nO cO LO s1 s4 s5 s6 s7 s8 s9 s10 s11 s12 s13 s14 s15 s16 s17 s18 s19 s20 s21 s22 s23 s24 s25 s26 s27 s28 s29 s30 s31 s32 s33 s34 s35 s36 s37 s38 s39 s40 s41 s42 s43 s44 s45 s46 s47 s48 s49 s50 s51 s52 s53 s54 s55 s56 s57 s58 s59 s60 s61 s62 s63 s64 s65 s66 s67 s68 s69 s70 s71 b0 b1 b8 b9 R3 X5 x6 X7 R9 x11 X13 G CP pp w hS hp hg hbox hR hBz hst ho1 ho2 hLn hoO hR3 hX5 hx6 hX7 hR9 hx11 hX13
  · obtain rfl : ra8o8 = o := Option.some.inj ho
    obtain rfl : b8 = false := h0
    obtain rfl : b9 = false := by
      cases b9 with
      | false => rfl
      | true => exact Bool.noConfusion (show false = true from hC 9 ra8o9 rfl rfl ⟨8, .data⟩ (by simp [ra8o9]) rfl)
    obtain rfl : b10 = false := by
      cases b10 with
      | false => rfl
      | true => exact Bool.noConfusion (show false = true from hC 10 ra8o10 rfl rfl ⟨9, .data⟩ (by simp [ra8o10]) rfl)
    obtain rfl : b11 = false := by
      cases b11 with
      | false => rfl
      | true => exact Bool.noConfusion (show false = true from hC 11 ra8o11 rfl rfl ⟨10, .data⟩ (by simp [ra8o11]) rfl)
    obtain rfl : b12 = false := by
      cases b12 with
      | false => rfl
      | true => exact Bool.noConfusion (show false = true from hC 12 ra8o12 rfl rfl ⟨11, .data⟩ (by simp [ra8o12]) rfl)
    obtain rfl : b13 = false := by
      cases b13 with
      | false => rfl
      | true => exact Bool.noConfusion (show false = true from hC 13 ra8o13 rfl rfl ⟨12, .data⟩ (by simp [ra8o13]) rfl)
    obtain rfl : b14 = false := by
      cases b14 with
      | false => rfl
      | true => exact Bool.noConfusion (show false = true from hC 14 ra8o14 rfl rfl ⟨9, .chain⟩ (by simp [ra8o14]) rfl)
    obtain rfl : b15 = false := by
      cases b15 with
      | false => rfl
      | true => exact Bool.noConfusion (show false = true from hC 15 ra8o15 rfl rfl ⟨8, .phase⟩ (by simp [ra8o15]) rfl)
    obtain rfl : b16 = false := by
      cases b16 with
      | false => rfl
      | true => exact Bool.noConfusion (show false = true from hC 16 ra8o16 rfl rfl ⟨8, .phase⟩ (by simp [ra8o16]) rfl)
    exact ra8_s8 W0 w0 c a len cap p XR XB B zr y0 y1 y3 y4 aL cL L BO aO nO cO LO s1 s4 s5 s6 s7 s8 s9 s10 s11 s12 s13 s14 s15 s16 s17 s18 s19 s20 s21 s22 s23 s24 s25 s26 s27 s28 s29 s30 s31 s32 s33 s34 s35 s36 s37 s38 s39 s40 s41 s42 s43 s44 s45 s46 s47 s48 s49 s50 s51 s52 s53 s54 s55 s56 s57 s58 s59 s60 s61 s62 s63 s64 s65 s66 s67 s68 s69 s70 s71 b0 b1 b2 b3 b4 b5 b6 b7 R3 X5 x6 X7 R9 x11 X13 G CP pp w hS hp hg hbox hR hBz hst ho1 ho2 hLn hoO hR3 hX5 hx6 hX7 hR9 hx11 hX13
  · obtain rfl : ra8o9 = o := Option.some.inj ho
    obtain rfl : b9 = false := h0
    obtain rfl : b8 = true := h1 ⟨8, .data⟩ (by simp [ra8o9]) rfl
    obtain rfl : b3 = true := h1 ⟨3, .chain⟩ (by simp [ra8o9]) rfl
    obtain rfl : b2 = true := hC 3 ra8o3 rfl rfl ⟨2, .data⟩ (by simp [ra8o3]) rfl
    obtain rfl : b10 = false := by
      cases b10 with
      | false => rfl
      | true => exact Bool.noConfusion (show false = true from hC 10 ra8o10 rfl rfl ⟨9, .data⟩ (by simp [ra8o10]) rfl)
    obtain rfl : b11 = false := by
      cases b11 with
      | false => rfl
      | true => exact Bool.noConfusion (show false = true from hC 11 ra8o11 rfl rfl ⟨10, .data⟩ (by simp [ra8o11]) rfl)
    obtain rfl : b12 = false := by
      cases b12 with
      | false => rfl
      | true => exact Bool.noConfusion (show false = true from hC 12 ra8o12 rfl rfl ⟨11, .data⟩ (by simp [ra8o12]) rfl)
    obtain rfl : b13 = false := by
      cases b13 with
      | false => rfl
      | true => exact Bool.noConfusion (show false = true from hC 13 ra8o13 rfl rfl ⟨12, .data⟩ (by simp [ra8o13]) rfl)
    obtain rfl : b14 = false := by
      cases b14 with
      | false => rfl
      | true => exact Bool.noConfusion (show false = true from hC 14 ra8o14 rfl rfl ⟨9, .chain⟩ (by simp [ra8o14]) rfl)
    obtain rfl : b15 = false := by
      cases b15 with
      | false => rfl
      | true => exact Bool.noConfusion (show false = true from hC 15 ra8o15 rfl rfl ⟨9, .phase⟩ (by simp [ra8o15]) rfl)
    obtain rfl : b16 = false := by
      cases b16 with
      | false => rfl
      | true => exact Bool.noConfusion (show false = true from hC 16 ra8o16 rfl rfl ⟨9, .phase⟩ (by simp [ra8o16]) rfl)
    exact ra8_s9 W0 w0 c a len cap p XR XB B zr y0 y1 y3 y4 aL cL L BO aO nO cO LO s1 s4 s5 s6 s7 s8 s9 s10 s11 s12 s13 s14 s15 s16 s17 s18 s19 s20 s21 s22 s23 s24 s25 s26 s27 s28 s29 s30 s31 s32 s33 s34 s35 s36 s37 s38 s39 s40 s41 s42 s43 s44 s45 s46 s47 s48 s49 s50 s51 s52 s53 s54 s55 s56 s57 s58 s59 s60 s61 s62 s63 s64 s65 s66 s67 s68 s69 s70 s71 b0 b1 b4 b5 b6 b7 R3 X5 x6 X7 R9 x11 X13 G CP pp w hS hp hg hbox hR hBz hst ho1 ho2 hLn hoO hR3 hX5 hx6 hX7 hR9 hx11 hX13
  · obtain rfl : ra8o10 = o := Option.some.inj ho
    obtain rfl : b10 = false := h0
    obtain rfl : b9 = true := h1 ⟨9, .data⟩ (by simp [ra8o10]) rfl
    obtain rfl : b7 = true := h1 ⟨7, .data⟩ (by simp [ra8o10]) rfl
    obtain rfl : b3 = true := hC 9 ra8o9 rfl rfl ⟨3, .chain⟩ (by simp [ra8o9]) rfl
    obtain rfl : b8 = true := hC 9 ra8o9 rfl rfl ⟨8, .data⟩ (by simp [ra8o9]) rfl
    obtain rfl : b6 = true := hC 7 ra8o7 rfl rfl ⟨6, .data⟩ (by simp [ra8o7]) rfl
    obtain rfl : b5 = true := hC 6 ra8o6 rfl rfl ⟨5, .data⟩ (by simp [ra8o6]) rfl
    obtain rfl : b4 = true := hC 5 ra8o5 rfl rfl ⟨4, .data⟩ (by simp [ra8o5]) rfl
    obtain rfl : b2 = true := hC 3 ra8o3 rfl rfl ⟨2, .data⟩ (by simp [ra8o3]) rfl
    obtain rfl : b11 = false := by
      cases b11 with
      | false => rfl
      | true => exact Bool.noConfusion (show false = true from hC 11 ra8o11 rfl rfl ⟨10, .data⟩ (by simp [ra8o11]) rfl)
    obtain rfl : b12 = false := by
      cases b12 with
      | false => rfl
      | true => exact Bool.noConfusion (show false = true from hC 12 ra8o12 rfl rfl ⟨11, .data⟩ (by simp [ra8o12]) rfl)
    obtain rfl : b13 = false := by
      cases b13 with
      | false => rfl
      | true => exact Bool.noConfusion (show false = true from hC 13 ra8o13 rfl rfl ⟨12, .data⟩ (by simp [ra8o13]) rfl)
    obtain rfl : b14 = false := by
      cases b14 with
      | false => rfl
      | true => exact Bool.noConfusion (show false = true from hC 14 ra8o14 rfl rfl ⟨13, .data⟩ (by simp [ra8o14]) rfl)
    obtain rfl : b15 = false := by
      cases b15 with
      | false => rfl
      | true => exact Bool.noConfusion (show false = true from hC 15 ra8o15 rfl rfl ⟨10, .phase⟩ (by simp [ra8o15]) rfl)
    obtain rfl : b16 = false := by
      cases b16 with
      | false => rfl
      | true => exact Bool.noConfusion (show false = true from hC 16 ra8o16 rfl rfl ⟨10, .phase⟩ (by simp [ra8o16]) rfl)
    exact ra8_s10 W0 w0 c a len cap p XR XB B zr y0 y1 y3 y4 aL cL L BO aO nO cO LO s1 s4 s5 s6 s7 s8 s9 s10 s11 s12 s13 s14 s15 s16 s17 s18 s19 s20 s21 s22 s23 s24 s25 s26 s27 s28 s29 s30 s31 s32 s33 s34 s35 s36 s37 s38 s39 s40 s41 s42 s43 s44 s45 s46 s47 s48 s49 s50 s51 s52 s53 s54 s55 s56 s57 s58 s59 s60 s61 s62 s63 s64 s65 s66 s67 s68 s69 s70 s71 b0 b1 R3 X5 x6 X7 R9 x11 X13 G CP pp w hS hp hg hbox hR hBz hst ho1 ho2 hLn hoO hR3 hX5 hx6 hX7 hR9 hx11 hX13
  · obtain rfl : ra8o11 = o := Option.some.inj ho
    obtain rfl : b11 = false := h0
    obtain rfl : b10 = true := h1 ⟨10, .data⟩ (by simp [ra8o11]) rfl
    obtain rfl : b7 = true := hC 10 ra8o10 rfl rfl ⟨7, .data⟩ (by simp [ra8o10]) rfl
    obtain rfl : b9 = true := hC 10 ra8o10 rfl rfl ⟨9, .data⟩ (by simp [ra8o10]) rfl
    obtain rfl : b3 = true := hC 9 ra8o9 rfl rfl ⟨3, .chain⟩ (by simp [ra8o9]) rfl
    obtain rfl : b8 = true := hC 9 ra8o9 rfl rfl ⟨8, .data⟩ (by simp [ra8o9]) rfl
    obtain rfl : b6 = true := hC 7 ra8o7 rfl rfl ⟨6, .data⟩ (by simp [ra8o7]) rfl
    obtain rfl : b5 = true := hC 6 ra8o6 rfl rfl ⟨5, .data⟩ (by simp [ra8o6]) rfl
    obtain rfl : b4 = true := hC 5 ra8o5 rfl rfl ⟨4, .data⟩ (by simp [ra8o5]) rfl
    obtain rfl : b2 = true := hC 3 ra8o3 rfl rfl ⟨2, .data⟩ (by simp [ra8o3]) rfl
    obtain rfl : b12 = false := by
      cases b12 with
      | false => rfl
      | true => exact Bool.noConfusion (show false = true from hC 12 ra8o12 rfl rfl ⟨11, .data⟩ (by simp [ra8o12]) rfl)
    obtain rfl : b13 = false := by
      cases b13 with
      | false => rfl
      | true => exact Bool.noConfusion (show false = true from hC 13 ra8o13 rfl rfl ⟨12, .data⟩ (by simp [ra8o13]) rfl)
    obtain rfl : b14 = false := by
      cases b14 with
      | false => rfl
      | true => exact Bool.noConfusion (show false = true from hC 14 ra8o14 rfl rfl ⟨13, .data⟩ (by simp [ra8o14]) rfl)
    obtain rfl : b15 = false := by
      cases b15 with
      | false => rfl
      | true => exact Bool.noConfusion (show false = true from hC 15 ra8o15 rfl rfl ⟨11, .phase⟩ (by simp [ra8o15]) rfl)
    obtain rfl : b16 = false := by
      cases b16 with
      | false => rfl
      | true => exact Bool.noConfusion (show false = true from hC 16 ra8o16 rfl rfl ⟨11, .phase⟩ (by simp [ra8o16]) rfl)
    exact ra8_s11 W0 w0 c a len cap p XR XB B zr y0 y1 y3 y4 aL cL L BO aO nO cO LO s1 s4 s5 s6 s7 s8 s9 s10 s11 s12 s13 s14 s15 s16 s17 s18 s19 s20 s21 s22 s23 s24 s25 s26 s27 s28 s29 s30 s31 s32 s33 s34 s35 s36 s37 s38 s39 s40 s41 s42 s43 s44 s45 s46 s47 s48 s49 s50 s51 s52 s53 s54 s55 s56 s57 s58 s59 s60 s61 s62 s63 s64 s65 s66 s67 s68 s69 s70 s71 b0 b1 R3 X5 x6 X7 R9 x11 X13 G CP pp w hS hp hg hbox hR hBz hst ho1 ho2 hLn hoO hR3 hX5 hx6 hX7 hR9 hx11 hX13
  · obtain rfl : ra8o12 = o := Option.some.inj ho
    obtain rfl : b12 = false := h0
    obtain rfl : b11 = true := h1 ⟨11, .data⟩ (by simp [ra8o12]) rfl
    obtain rfl : b10 = true := hC 11 ra8o11 rfl rfl ⟨10, .data⟩ (by simp [ra8o11]) rfl
    obtain rfl : b7 = true := hC 10 ra8o10 rfl rfl ⟨7, .data⟩ (by simp [ra8o10]) rfl
    obtain rfl : b9 = true := hC 10 ra8o10 rfl rfl ⟨9, .data⟩ (by simp [ra8o10]) rfl
    obtain rfl : b3 = true := hC 9 ra8o9 rfl rfl ⟨3, .chain⟩ (by simp [ra8o9]) rfl
    obtain rfl : b8 = true := hC 9 ra8o9 rfl rfl ⟨8, .data⟩ (by simp [ra8o9]) rfl
    obtain rfl : b6 = true := hC 7 ra8o7 rfl rfl ⟨6, .data⟩ (by simp [ra8o7]) rfl
    obtain rfl : b5 = true := hC 6 ra8o6 rfl rfl ⟨5, .data⟩ (by simp [ra8o6]) rfl
    obtain rfl : b4 = true := hC 5 ra8o5 rfl rfl ⟨4, .data⟩ (by simp [ra8o5]) rfl
    obtain rfl : b2 = true := hC 3 ra8o3 rfl rfl ⟨2, .data⟩ (by simp [ra8o3]) rfl
    obtain rfl : b13 = false := by
      cases b13 with
      | false => rfl
      | true => exact Bool.noConfusion (show false = true from hC 13 ra8o13 rfl rfl ⟨12, .data⟩ (by simp [ra8o13]) rfl)
    obtain rfl : b14 = false := by
      cases b14 with
      | false => rfl
      | true => exact Bool.noConfusion (show false = true from hC 14 ra8o14 rfl rfl ⟨13, .data⟩ (by simp [ra8o14]) rfl)
    obtain rfl : b15 = false := by
      cases b15 with
      | false => rfl
      | true => exact Bool.noConfusion (show false = true from hC 15 ra8o15 rfl rfl ⟨12, .phase⟩ (by simp [ra8o15]) rfl)
    obtain rfl : b16 = false := by
      cases b16 with
      | false => rfl
      | true => exact Bool.noConfusion (show false = true from hC 16 ra8o16 rfl rfl ⟨12, .phase⟩ (by simp [ra8o16]) rfl)
    exact ra8_s12 W0 w0 c a len cap p XR XB B zr y0 y1 y3 y4 aL cL L BO aO nO cO LO s1 s4 s5 s6 s7 s8 s9 s10 s11 s12 s13 s14 s15 s16 s17 s18 s19 s20 s21 s22 s23 s24 s25 s26 s27 s28 s29 s30 s31 s32 s33 s34 s35 s36 s37 s38 s39 s40 s41 s42 s43 s44 s45 s46 s47 s48 s49 s50 s51 s52 s53 s54 s55 s56 s57 s58 s59 s60 s61 s62 s63 s64 s65 s66 s67 s68 s69 s70 s71 b0 b1 R3 X5 x6 X7 R9 x11 X13 G CP pp w hS hp hg hbox hR hBz hst ho1 ho2 hLn hoO hR3 hX5 hx6 hX7 hR9 hx11 hX13
  · obtain rfl : ra8o13 = o := Option.some.inj ho
    obtain rfl : b13 = false := h0
    obtain rfl : b12 = true := h1 ⟨12, .data⟩ (by simp [ra8o13]) rfl
    obtain rfl : b11 = true := hC 12 ra8o12 rfl rfl ⟨11, .data⟩ (by simp [ra8o12]) rfl
    obtain rfl : b10 = true := hC 11 ra8o11 rfl rfl ⟨10, .data⟩ (by simp [ra8o11]) rfl
    obtain rfl : b7 = true := hC 10 ra8o10 rfl rfl ⟨7, .data⟩ (by simp [ra8o10]) rfl
    obtain rfl : b9 = true := hC 10 ra8o10 rfl rfl ⟨9, .data⟩ (by simp [ra8o10]) rfl
    obtain rfl : b3 = true := hC 9 ra8o9 rfl rfl ⟨3, .chain⟩ (by simp [ra8o9]) rfl
    obtain rfl : b8 = true := hC 9 ra8o9 rfl rfl ⟨8, .data⟩ (by simp [ra8o9]) rfl
    obtain rfl : b6 = true := hC 7 ra8o7 rfl rfl ⟨6, .data⟩ (by simp [ra8o7]) rfl
    obtain rfl : b5 = true := hC 6 ra8o6 rfl rfl ⟨5, .data⟩ (by simp [ra8o6]) rfl
    obtain rfl : b4 = true := hC 5 ra8o5 rfl rfl ⟨4, .data⟩ (by simp [ra8o5]) rfl
    obtain rfl : b2 = true := hC 3 ra8o3 rfl rfl ⟨2, .data⟩ (by simp [ra8o3]) rfl
    obtain rfl : b14 = false := by
      cases b14 with
      | false => rfl
      | true => exact Bool.noConfusion (show false = true from hC 14 ra8o14 rfl rfl ⟨13, .data⟩ (by simp [ra8o14]) rfl)
    obtain rfl : b15 = false := by
      cases b15 with
      | false => rfl
      | true => exact Bool.noConfusion (show false = true from hC 15 ra8o15 rfl rfl ⟨13, .phase⟩ (by simp [ra8o15]) rfl)
    obtain rfl : b16 = false := by
      cases b16 with
      | false => rfl
      | true => exact Bool.noConfusion (show false = true from hC 16 ra8o16 rfl rfl ⟨13, .phase⟩ (by simp [ra8o16]) rfl)
    exact ra8_s13 W0 w0 c a len cap p XR XB B zr y0 y1 y3 y4 aL cL L BO aO nO cO LO s1 s4 s5 s6 s7 s8 s9 s10 s11 s12 s13 s14 s15 s16 s17 s18 s19 s20 s21 s22 s23 s24 s25 s26 s27 s28 s29 s30 s31 s32 s33 s34 s35 s36 s37 s38 s39 s40 s41 s42 s43 s44 s45 s46 s47 s48 s49 s50 s51 s52 s53 s54 s55 s56 s57 s58 s59 s60 s61 s62 s63 s64 s65 s66 s67 s68 s69 s70 s71 b0 b1 R3 X5 x6 X7 R9 x11 X13 G CP pp w hS hp hg hbox hR hBz hst ho1 ho2 hLn hoO hR3 hX5 hx6 hX7 hR9 hx11 hX13
  · obtain rfl : ra8o14 = o := Option.some.inj ho
    obtain rfl : b14 = false := h0
    obtain rfl : b13 = true := h1 ⟨13, .data⟩ (by simp [ra8o14]) rfl
    obtain rfl : b9 = true := h1 ⟨9, .chain⟩ (by simp [ra8o14]) rfl
    obtain rfl : b1 = true := h1 ⟨1, .data⟩ (by simp [ra8o14]) rfl
    obtain rfl : b12 = true := hC 13 ra8o13 rfl rfl ⟨12, .data⟩ (by simp [ra8o13]) rfl
    obtain rfl : b11 = true := hC 12 ra8o12 rfl rfl ⟨11, .data⟩ (by simp [ra8o12]) rfl
    obtain rfl : b10 = true := hC 11 ra8o11 rfl rfl ⟨10, .data⟩ (by simp [ra8o11]) rfl
    obtain rfl : b7 = true := hC 10 ra8o10 rfl rfl ⟨7, .data⟩ (by simp [ra8o10]) rfl
    obtain rfl : b3 = true := hC 9 ra8o9 rfl rfl ⟨3, .chain⟩ (by simp [ra8o9]) rfl
    obtain rfl : b8 = true := hC 9 ra8o9 rfl rfl ⟨8, .data⟩ (by simp [ra8o9]) rfl
    obtain rfl : b6 = true := hC 7 ra8o7 rfl rfl ⟨6, .data⟩ (by simp [ra8o7]) rfl
    obtain rfl : b5 = true := hC 6 ra8o6 rfl rfl ⟨5, .data⟩ (by simp [ra8o6]) rfl
    obtain rfl : b4 = true := hC 5 ra8o5 rfl rfl ⟨4, .data⟩ (by simp [ra8o5]) rfl
    obtain rfl : b2 = true := hC 3 ra8o3 rfl rfl ⟨2, .data⟩ (by simp [ra8o3]) rfl
    obtain rfl : b0 = true := hC 1 ra8o1 rfl rfl ⟨0, .data⟩ (by simp [ra8o1]) rfl
    obtain rfl : b15 = false := by
      cases b15 with
      | false => rfl
      | true => exact Bool.noConfusion (show false = true from hC 15 ra8o15 rfl rfl ⟨14, .phase⟩ (by simp [ra8o15]) rfl)
    obtain rfl : b16 = false := by
      cases b16 with
      | false => rfl
      | true => exact Bool.noConfusion (show false = true from hC 16 ra8o16 rfl rfl ⟨14, .chain⟩ (by simp [ra8o16]) rfl)
    exact ra8_s14 W0 w0 c a len cap p XR XB B zr y0 y1 y3 y4 aL cL L BO aO nO cO LO s1 s4 s5 s6 s7 s8 s9 s10 s11 s12 s13 s14 s15 s16 s17 s18 s19 s20 s21 s22 s23 s24 s25 s26 s27 s28 s29 s30 s31 s32 s33 s34 s35 s36 s37 s38 s39 s40 s41 s42 s43 s44 s45 s46 s47 s48 s49 s50 s51 s52 s53 s54 s55 s56 s57 s58 s59 s60 s61 s62 s63 s64 s65 s66 s67 s68 s69 s70 s71  R3 X5 x6 X7 R9 x11 X13 G CP pp w hS hp hg hbox hR hBz hst ho1 ho2 hLn hoO hR3 hX5 hx6 hX7 hR9 hx11 hX13
  · obtain rfl : ra8o15 = o := Option.some.inj ho
    obtain rfl : b15 = false := h0
    obtain rfl : b14 = true := h1 ⟨14, .phase⟩ (by simp [ra8o15]) rfl
    obtain rfl : b13 = true := h1 ⟨13, .phase⟩ (by simp [ra8o15]) rfl
    obtain rfl : b12 = true := h1 ⟨12, .phase⟩ (by simp [ra8o15]) rfl
    obtain rfl : b11 = true := h1 ⟨11, .phase⟩ (by simp [ra8o15]) rfl
    obtain rfl : b10 = true := h1 ⟨10, .phase⟩ (by simp [ra8o15]) rfl
    obtain rfl : b9 = true := h1 ⟨9, .phase⟩ (by simp [ra8o15]) rfl
    obtain rfl : b8 = true := h1 ⟨8, .phase⟩ (by simp [ra8o15]) rfl
    obtain rfl : b7 = true := h1 ⟨7, .phase⟩ (by simp [ra8o15]) rfl
    obtain rfl : b6 = true := h1 ⟨6, .phase⟩ (by simp [ra8o15]) rfl
    obtain rfl : b5 = true := h1 ⟨5, .phase⟩ (by simp [ra8o15]) rfl
    obtain rfl : b4 = true := h1 ⟨4, .phase⟩ (by simp [ra8o15]) rfl
    obtain rfl : b3 = true := h1 ⟨3, .phase⟩ (by simp [ra8o15]) rfl
    obtain rfl : b2 = true := h1 ⟨2, .phase⟩ (by simp [ra8o15]) rfl
    obtain rfl : b1 = true := h1 ⟨1, .phase⟩ (by simp [ra8o15]) rfl
    obtain rfl : b0 = true := h1 ⟨0, .phase⟩ (by simp [ra8o15]) rfl
    obtain rfl : b16 = false := by
      cases b16 with
      | false => rfl
      | true => exact Bool.noConfusion (show false = true from hC 16 ra8o16 rfl rfl ⟨15, .data⟩ (by simp [ra8o16]) rfl)
    exact ra8_s15 W0 w0 c a len cap p XR XB B zr y0 y1 y3 y4 aL cL L BO aO nO cO LO s1 s4 s5 s6 s7 s8 s9 s10 s11 s12 s13 s14 s15 s16 s17 s18 s19 s20 s21 s22 s23 s24 s25 s26 s27 s28 s29 s30 s31 s32 s33 s34 s35 s36 s37 s38 s39 s40 s41 s42 s43 s44 s45 s46 s47 s48 s49 s50 s51 s52 s53 s54 s55 s56 s57 s58 s59 s60 s61 s62 s63 s64 s65 s66 s67 s68 s69 s70 s71  R3 X5 x6 X7 R9 x11 X13 G CP pp w hS hp hg hbox hR hBz hst ho1 ho2 hLn hoO hR3 hX5 hx6 hX7 hR9 hx11 hX13
  · obtain rfl : ra8o16 = o := Option.some.inj ho
    obtain rfl : b16 = false := h0
    obtain rfl : b15 = true := h1 ⟨15, .data⟩ (by simp [ra8o16]) rfl
    obtain rfl : b14 = true := h1 ⟨14, .chain⟩ (by simp [ra8o16]) rfl
    obtain rfl : b13 = true := h1 ⟨13, .phase⟩ (by simp [ra8o16]) rfl
    obtain rfl : b12 = true := h1 ⟨12, .phase⟩ (by simp [ra8o16]) rfl
    obtain rfl : b11 = true := h1 ⟨11, .phase⟩ (by simp [ra8o16]) rfl
    obtain rfl : b10 = true := h1 ⟨10, .phase⟩ (by simp [ra8o16]) rfl
    obtain rfl : b9 = true := h1 ⟨9, .phase⟩ (by simp [ra8o16]) rfl
    obtain rfl : b8 = true := h1 ⟨8, .phase⟩ (by simp [ra8o16]) rfl
    obtain rfl : b7 = true := h1 ⟨7, .phase⟩ (by simp [ra8o16]) rfl
    obtain rfl : b6 = true := h1 ⟨6, .phase⟩ (by simp [ra8o16]) rfl
    obtain rfl : b5 = true := h1 ⟨5, .phase⟩ (by simp [ra8o16]) rfl
    obtain rfl : b4 = true := h1 ⟨4, .phase⟩ (by simp [ra8o16]) rfl
    obtain rfl : b3 = true := h1 ⟨3, .phase⟩ (by simp [ra8o16]) rfl
    obtain rfl : b2 = true := h1 ⟨2, .phase⟩ (by simp [ra8o16]) rfl
    obtain rfl : b1 = true := h1 ⟨1, .phase⟩ (by simp [ra8o16]) rfl
    obtain rfl : b0 = true := h1 ⟨0, .phase⟩ (by simp [ra8o16]) rfl
    exact ra8_s16 W0 w0 c a len cap p XR XB B zr y0 y1 y3 y4 aL cL L BO aO nO cO LO s1 s4 s5 s6 s7 s8 s9 s10 s11 s12 s13 s14 s15 s16 s17 s18 s19 s20 s21 s22 s23 s24 s25 s26 s27 s28 s29 s30 s31 s32 s33 s34 s35 s36 s37 s38 s39 s40 s41 s42 s43 s44 s45 s46 s47 s48 s49 s50 s51 s52 s53 s54 s55 s56 s57 s58 s59 s60 s61 s62 s63 s64 s65 s66 s67 s68 s69 s70 s71  R3 X5 x6 X7 R9 x11 X13 G CP pp w hS hp hg hbox hR hBz hst ho1 ho2 hLn hoO hR3 hX5 hx6 hX7 hR9 hx11 hX13
set_option maxRecDepth 20000 in
set_option maxHeartbeats 4000000 in
theorem ra8_wp {Q : Exit → Act → World → Prop} {id : Nat} (W0 w0 : World) (c : Nat) (a : Option Addr) (len cap p XR XB B : Nat) (zr : Array Value) (y0 y1 y3 y4 : Value) (aL : Option Addr) (cL : Nat) (L : List Hp) (BO : Nat) (aO : Option Addr) (nO cO : Nat) (LO : List Hp) {s1 s4 s5 s6 s7 s8 s9 s10 s11 s12 s13 s14 s15 s16 s17 s18 s19 s20 s21 s22 s23 s24 s25 s26 s27 s28 s29 s30 s31 s32 s33 s34 s35 s36 s37 s38 s39 s40 s41 s42 s43 s44 s45 s46 s47 s48 s49 s50 s51 s52 s53 s54 s55 s56 s57 s58 s59 s60 s61 s62 s63 s64 s65 s66 s67 s68 s69 s70 s71 : Value} (w : World) (hS : Src W0 w c a len cap p) (hg : w0.grownBy w (some c)) (hbox : RowAt w XB 25 #[y0, y1, .slice aL L.length cL, y3, y4]) (hR : RowAt w XR 25 zr) (hBz : B ≤ w.heap.size) (hst : c < XB ∧ c < B ∧ w0.heap.size ≤ B ∧ XR ≠ XB ∧ w0.heap.size ≤ XB ∧ W0.heap.size ≤ c ∧ p ≤ 900000 ∧ c ≠ XR) (ho1 : OwnHp w B (.slice aL L.length cL) L) (hLn : L.length ≤ 1000) (hoO : OwnHp w BO (.slice aO nO cO) LO ∧ c < BO ∧ ((Value.slice aO nO cO).ownBlock = none ∨ (Value.slice aO nO cO).ownBlock ≠ (Value.slice aL L.length cL).ownBlock))
    (fin : ∀ (R3 : Nat) (X5 : Nat) (x6 : ByteArray) (X7 : Nat) (R9 : Nat) (x11 : ByteArray) (X13 : Nat) (G : Nat) (CP : Nat) (pp : Nat) (w' : World), (Src W0 w' c a len cap pp) → (pp ≤ p + 40 * (1 + 1)) → (w0.grownBy w' (some c)) → (RowAt w' XB 25 #[y0, y1, .slice (some ⟨G, 0, none⟩) (L.length + 1) CP, y3, y4]) → (RowAt w' XR 25 zr) → (B ≤ w'.heap.size) → (c < XB ∧ c < B ∧ w0.heap.size ≤ B ∧ XR ≠ XB ∧ w0.heap.size ≤ XB ∧ W0.heap.size ≤ c ∧ p ≤ 900000 ∧ c ≠ XR) → (OwnHp w' B (.slice (some ⟨G, 0, none⟩) (L.length + 1) CP) (L ++ [(⟨x11, ⟨#[120]⟩⟩ : Hp)])) → (L.length ≤ 1000) → (OwnHp w' BO (.slice aO nO cO) LO ∧ c < BO ∧ ((Value.slice aO nO cO).ownBlock = none ∨ (Value.slice aO nO cO).ownBlock ≠ (Value.slice aL L.length cL).ownBlock)) → (R3 < 2) → (x6.size ≤ 102) → (R9 < 3) → (x11.size ≤ 102) → Q .normal { tmps := #[.pointer (some ⟨c, 0, none⟩), s1, .pointer (some ⟨XR, 0, none⟩), .pointer (some ⟨XB, 0, none⟩), s4, s5, s6, s7, s8, s9, s10, s11, s12, s13, s14, s15, s16, s17, s18, s19, s20, s21, s22, s23, s24, s25, s26, s27, .pointer (some ⟨XB, 2, none⟩), .slice aL L.length cL, .pointer (some ⟨c, 0, none⟩), .int .i64 (R3 : Int), .int .i64 (100 + (R3 : Int)), .slice (some ⟨X5, 0, none⟩) (100 + R3) (100 + R3), .string x6, .slice (some ⟨X7, 0, none⟩) 3 3, .pointer (some ⟨c, 0, none⟩), .int .i64 (R9 : Int), .pointer (some ⟨X7, R9, none⟩), .string x11, .agg #[.string x11, .string ⟨#[120]⟩], .slice (some ⟨X13, 0, none⟩) 1 1, .slice (some ⟨G, 0, none⟩) (L.length + 1) CP, .pointer (some ⟨XB, 2, none⟩), s44, s45, s46, s47, s48, s49, s50, s51, s52, s53, s54, s55, s56, s57, s58, s59, s60, s61, s62, s63, s64, s65, s66, s67, s68, s69, s70, s71], defers := [] } w') :
    (Code.region id ra8O true).wp Tryz.prog Q { tmps := #[.pointer (some ⟨c, 0, none⟩), s1, .pointer (some ⟨XR, 0, none⟩), .pointer (some ⟨XB, 0, none⟩), s4, s5, s6, s7, s8, s9, s10, s11, s12, s13, s14, s15, s16, s17, s18, s19, s20, s21, s22, s23, s24, s25, s26, s27, s28, s29, s30, s31, s32, s33, s34, s35, s36, s37, s38, s39, s40, s41, s42, s43, s44, s45, s46, s47, s48, s49, s50, s51, s52, s53, s54, s55, s56, s57, s58, s59, s60, s61, s62, s63, s64, s65, s66, s67, s68, s69, s70, s71], defers := [] } w := by
  refine wp_region_inv (ops := ra8O) (ra8I W0 w0 c a len cap p XR XB B zr y0 y1 y3 y4 aL cL L BO aO nO cO LO s1 s4 s5 s6 s7 s8 s9 s10 s11 s12 s13 s14 s15 s16 s17 s18 s19 s20 s21 s22 s23 s24 s25 s26 s27 s28 s29 s30 s31 s32 s33 s34 s35 s36 s37 s38 s39 s40 s41 s42 s43 s44 s45 s46 s47 s48 s49 s50 s51 s52 s53 s54 s55 s56 s57 s58 s59 s60 s61 s62 s63 s64 s65 s66 s67 s68 s69 s70 s71) (by kernel_rfl) (by kernel_rfl) (fun l f v hI => ?_) (fun l f v hC hI i h0 o ho h1 => ra8_step W0 w0 c a len cap p XR XB B zr y0 y1 y3 y4 aL cL L BO aO nO cO LO s1 s4 s5 s6 s7 s8 s9 s10 s11 s12 s13 s14 s15 s16 s17 s18 s19 s20 s21 s22 s23 s24 s25 s26 s27 s28 s29 s30 s31 s32 s33 s34 s35 s36 s37 s38 s39 s40 s41 s42 s43 s44 s45 s46 s47 s48 s49 s50 s51 s52 s53 s54 s55 s56 s57 s58 s59 s60 s61 s62 s63 s64 s65 s66 s67 s68 s69 s70 s71 l f v hC hI i h0 o ho h1) (fun l f v hI hall => ?_) ?_
  · obtain ⟨_, _, _, _, _, _, _, _, _, _, _, _, _, _, _, _, _, _, _, _, _, _, _, _, _, _, _, rfl, _⟩ := hI; rfl
  · obtain ⟨b0, b1, b2, b3, b4, b5, b6, b7, b8, b9, b10, b11, b12, b13, b14, b15, b16, R3, X5, x6, X7, R9, x11, X13, G, CP, pp, rfl, rfl, hS, hp, hg, hbox, hR, hBz, hst, ho1, ho2, hLn, hoO, hR3, hX5, hx6, hX7, hR9, hx11, hX13⟩ := hI
    obtain rfl : b0 = true := hall 0 (by simp)
    obtain rfl : b1 = true := hall 1 (by simp)
    obtain rfl : b2 = true := hall 2 (by simp)
    obtain rfl : b3 = true := hall 3 (by simp)
    obtain rfl : b4 = true := hall 4 (by simp)
    obtain rfl : b5 = true := hall 5 (by simp)
    obtain rfl : b6 = true := hall 6 (by simp)
    obtain rfl : b7 = true := hall 7 (by simp)
    obtain rfl : b8 = true := hall 8 (by simp)
    obtain rfl : b9 = true := hall 9 (by simp)
    obtain rfl : b10 = true := hall 10 (by simp)
    obtain rfl : b11 = true := hall 11 (by simp)
    obtain rfl : b12 = true := hall 12 (by simp)
    obtain rfl : b13 = true := hall 13 (by simp)
    obtain rfl : b14 = true := hall 14 (by simp)
    obtain rfl : b15 = true := hall 15 (by simp)
    obtain rfl : b16 = true := hall 16 (by simp)
    exact fin R3 X5 x6 X7 R9 x11 X13 G CP pp v hS hp hg hbox hR hBz hst (ho2 rfl) hLn hoO (hR3 rfl) (hx6 rfl) (hR9 rfl) (hx11 rfl)
  · exact ⟨false, false, false, false, false, false, false, false, false, false, false, false, false, false, false, false, false, 0, 0, ⟨#[]⟩, 0, 0, ⟨#[]⟩, 0, 0, 0, p, rfl, rfl, hS.drew, by omega, grown_trans hg (grown_drewS _ _), hbox.drew, hR.drew, hBz, hst, fun _ => World.ownsRow.drew ho1, fun h => Bool.noConfusion h, hLn, ⟨World.ownsRow.drew hoO.1, hoO.2⟩, fun h => Bool.noConfusion h, fun h => Bool.noConfusion h, fun h => Bool.noConfusion h, fun h => Bool.noConfusion h, fun h => Bool.noConfusion h, fun h => Bool.noConfusion h, fun h => Bool.noConfusion h⟩
end Go.Proofs.YtgoplcjjoiiagaaGreatDoor
