import Derived.Test.YtgoplcjjoiiagaaGreatDoorD2
import Derived.Deep.RegionHeld3
import Derived.Deep.RegionWith
import Derived.WalkLawsBesides
import Derived.Deep.CutRange
namespace Go.Proofs.YtgoplcjjoiiagaaGreatDoor
open Go.RowKit
set_option linter.unusedVariables false
theorem rq9_tab9   (k : Nat) (hk : k < 3) : ∃ t : ByteArray, (#[.string ⟨#[]⟩, .string ⟨#[32, 120]⟩, .string ⟨#[58, 32, 121]⟩] : Array Value)[k]? = some (.string t) ∧ t.size ≤ 3 := by
  rcases (by omega : k = 0 ∨ k = 1 ∨ k = 2) with rfl | rfl | rfl
  all_goals exact ⟨_, rfl, by first | decide | assumption⟩
def rq9o0 : Oper := { dst := some 48, op := Op.fieldAddr 25 (Operand.tmp 3) 3, type := 0, pos := "l10_request.go:383", after := #[], guard := none }
def rq9o1 : Oper := { dst := some 49, op := Op.load 23 (Operand.tmp 48), type := 23, pos := "l10_request.go:383", after := #[{ on := 0, ground := Ground.data }], guard := none }
def rq9o2 : Oper := { dst := some 50, op := Op.move (Operand.tmp 0), type := 43, pos := "l10_request.go:383", after := #[], guard := none }
def rq9o3 : Oper := { dst := some 51, op := Op.call { callee := Callee.value (Operand.func 81), args := #[Operand.tmp 50], argTypes := #[43] }, type := 9, pos := "l10_request.go:383", after := #[{ on := 2, ground := Ground.data }], guard := none }
def rq9o4 : Oper := { dst := some 52, op := Op.move (Operand.tmp 5), type := 2, pos := "l10_request.go:383", after := #[], guard := none }
def rq9o5 : Oper := { dst := some 53, op := Op.call { callee := Callee.value (Operand.func 47), args := #[Operand.tmp 52], argTypes := #[2] }, type := 9, pos := "l10_request.go:383", after := #[{ on := 4, ground := Ground.data }, { on := 3, ground := Ground.chain }], guard := none }
def rq9o6 : Oper := { dst := some 54, op := Op.binOp BinOp.add 9 (Operand.tmp 51) (Operand.tmp 53) 9, type := 9, pos := "l10_request.go:383", after := #[{ on := 3, ground := Ground.data }, { on := 5, ground := Ground.data }], guard := none }
def rq9o7 : Oper := { dst := some 55, op := Op.move (Operand.tmp 0), type := 43, pos := "l10_request.go:383", after := #[], guard := none }
def rq9o8 : Oper := { dst := some 56, op := Op.call { callee := Callee.value (Operand.func 81), args := #[Operand.tmp 55], argTypes := #[43] }, type := 9, pos := "l10_request.go:383", after := #[{ on := 7, ground := Ground.data }, { on := 5, ground := Ground.chain }], guard := none }
def rq9o9 : Oper := { dst := some 57, op := Op.buildSlice 86 3 #[(0, Operand.const (Value.string { data := #[] })), (1, Operand.const (Value.string { data := #[32, 120] })), (2, Operand.const (Value.string { data := #[58, 32, 121] }))], type := 86, pos := "l10_request.go:383", after := #[], guard := none }
def rq9o10 : Oper := { dst := some 58, op := Op.move (Operand.tmp 0), type := 43, pos := "l10_request.go:383", after := #[], guard := none }
def rq9o11 : Oper := { dst := some 59, op := Op.call { callee := Callee.value (Operand.func 52), args := #[Operand.tmp 58, Operand.const (Value.int IntKind.i64 3)], argTypes := #[43, 2] }, type := 2, pos := "l10_request.go:383", after := #[{ on := 10, ground := Ground.data }, { on := 8, ground := Ground.chain }], guard := none }
def rq9o12 : Oper := { dst := some 60, op := Op.indexAddr 86 (Operand.tmp 57) (Operand.tmp 59), type := 0, pos := "l10_request.go:383", after := #[{ on := 9, ground := Ground.data }, { on := 11, ground := Ground.data }], guard := none }
def rq9o13 : Oper := { dst := some 61, op := Op.load 9 (Operand.tmp 60), type := 9, pos := "l10_request.go:383", after := #[{ on := 12, ground := Ground.data }], guard := none }
def rq9o14 : Oper := { dst := some 62, op := Op.binOp BinOp.add 9 (Operand.tmp 56) (Operand.tmp 61) 9, type := 9, pos := "l10_request.go:383", after := #[{ on := 8, ground := Ground.data }, { on := 13, ground := Ground.data }], guard := none }
def rq9o15 : Oper := { dst := some 63, op := Op.build 54 #[(0, Operand.tmp 54), (1, Operand.tmp 62)], type := 54, pos := "l10_request.go:383", after := #[{ on := 6, ground := Ground.data }, { on := 14, ground := Ground.data }], guard := none }
def rq9o16 : Oper := { dst := some 64, op := Op.buildSlice 23 1 #[(0, Operand.tmp 63)], type := 23, pos := "l10_request.go:383", after := #[{ on := 15, ground := Ground.data }], guard := none }
def rq9o17 : Oper := { dst := some 65, op := Op.call { callee := Callee.builtin Builtin.append, args := #[Operand.tmp 49, Operand.tmp 64], argTypes := #[23, 23] }, type := 23, pos := "l10_request.go:383", after := #[{ on := 1, ground := Ground.data }, { on := 16, ground := Ground.data }, { on := 11, ground := Ground.chain }], guard := none }
def rq9o18 : Oper := { dst := some 66, op := Op.fieldAddr 25 (Operand.tmp 3) 3, type := 0, pos := "l10_request.go:383", after := #[{ on := 0, ground := Ground.phase }, { on := 1, ground := Ground.phase }, { on := 2, ground := Ground.phase }, { on := 3, ground := Ground.phase }, { on := 4, ground := Ground.phase }, { on := 5, ground := Ground.phase }, { on := 6, ground := Ground.phase }, { on := 7, ground := Ground.phase }, { on := 8, ground := Ground.phase }, { on := 9, ground := Ground.phase }, { on := 10, ground := Ground.phase }, { on := 11, ground := Ground.phase }, { on := 12, ground := Ground.phase }, { on := 13, ground := Ground.phase }, { on := 14, ground := Ground.phase }, { on := 15, ground := Ground.phase }, { on := 16, ground := Ground.phase }, { on := 17, ground := Ground.phase }], guard := none }
def rq9o19 : Oper := { dst := none, op := Op.store 23 (Operand.tmp 66) (Operand.tmp 65), type := 0, pos := "l10_request.go:383", after := #[{ on := 18, ground := Ground.data }, { on := 17, ground := Ground.data }, { on := 17, ground := Ground.chain }, { on := 0, ground := Ground.phase }, { on := 1, ground := Ground.phase }, { on := 2, ground := Ground.phase }, { on := 3, ground := Ground.phase }, { on := 4, ground := Ground.phase }, { on := 5, ground := Ground.phase }, { on := 6, ground := Ground.phase }, { on := 7, ground := Ground.phase }, { on := 8, ground := Ground.phase }, { on := 9, ground := Ground.phase }, { on := 10, ground := Ground.phase }, { on := 11, ground := Ground.phase }, { on := 12, ground := Ground.phase }, { on := 13, ground := Ground.phase }, { on := 14, ground := Ground.phase }, { on := 15, ground := Ground.phase }, { on := 16, ground := Ground.phase }, { on := 17, ground := Ground.phase }], guard := none }
def rq9O : Array Oper := #[rq9o0, rq9o1, rq9o2, rq9o3, rq9o4, rq9o5, rq9o6, rq9o7, rq9o8, rq9o9, rq9o10, rq9o11, rq9o12, rq9o13, rq9o14, rq9o15, rq9o16, rq9o17, rq9o18, rq9o19]
def rq9I (W0 w0 : World) (c : Nat) (a : Option Addr) (len cap p XR XB B : Nat) (zr : Array Value) (y0 y1 y2 y4 : Value) (aL : Option Addr) (cL : Nat) (L : List Hp) (BO : Nat) (aO : Option Addr) (nO cO : Nat) (LO : List Hp) (kk : Nat) (s1 s4 s6 s7 s8 s9 s10 s11 s12 s13 s14 s15 s16 s17 s18 s19 s20 s21 s22 s23 s24 s25 s26 s27 s28 s29 s30 s31 s32 s33 s34 s35 s36 s37 s38 s39 s40 s41 s42 s43 s44 s45 s46 s47 s48 s49 s50 s51 s52 s53 s54 s55 s56 s57 s58 s59 s60 s61 s62 s63 s64 s65 s66 s67 s68 s69 s70 s71 s72 : Value) (l : Array Bool) (f : Act) (w : World) : Prop :=
  ∃ (b0 b1 b2 b3 b4 b5 b6 b7 b8 b9 b10 b11 b12 b13 b14 b15 b16 b17 b18 b19 : Bool) (x3 : ByteArray) (x5 : ByteArray) (x8 : ByteArray) (X9 : Nat) (R11 : Nat) (x13 : ByteArray) (X16 : Nat) (G : Nat) (CP : Nat) (pp : Nat), l = #[b0, b1, b2, b3, b4, b5, b6, b7, b8, b9, b10, b11, b12, b13, b14, b15, b16, b17, b18, b19] ∧ f = { tmps := #[.pointer (some ⟨c, 0, none⟩), s1, .pointer (some ⟨XR, 0, none⟩), .pointer (some ⟨XB, 0, none⟩), s4, .int .i64 (kk : Int), s6, s7, s8, s9, s10, s11, s12, s13, s14, s15, s16, s17, s18, s19, s20, s21, s22, s23, s24, s25, s26, s27, s28, s29, s30, s31, s32, s33, s34, s35, s36, s37, s38, s39, s40, s41, s42, s43, s44, s45, s46, s47, sel b0 (.pointer (some ⟨XB, 3, none⟩)) (s48), sel b1 (.slice aL L.length cL) (s49), sel b2 (.pointer (some ⟨c, 0, none⟩)) (s50), sel b3 (.string x3) (s51), sel b4 (.int .i64 (kk : Int)) (s52), sel b5 (.string x5) (s53), sel b6 (.string (x3 ++ x5)) (s54), sel b7 (.pointer (some ⟨c, 0, none⟩)) (s55), sel b8 (.string x8) (s56), sel b9 (.slice (some ⟨X9, 0, none⟩) 3 3) (s57), sel b10 (.pointer (some ⟨c, 0, none⟩)) (s58), sel b11 (.int .i64 (R11 : Int)) (s59), sel b12 (.pointer (some ⟨X9, R11, none⟩)) (s60), sel b13 (.string x13) (s61), sel b14 (.string (x8 ++ x13)) (s62), sel b15 (.agg #[.string (x3 ++ x5), .string (x8 ++ x13)]) (s63), sel b16 (.slice (some ⟨X16, 0, none⟩) 1 1) (s64), sel b17 (.slice (some ⟨G, 0, none⟩) (L.length + 1) CP) (s65), sel b18 (.pointer (some ⟨XB, 3, none⟩)) (s66), s67, s68, s69, s70, s71, s72], defers := [] } ∧ (Src W0 w c a len cap pp) ∧ (pp ≤ p + 40 * (b3.toNat + b8.toNat + b11.toNat)) ∧ (w0.grownBy w (some c)) ∧ (RowAt w XB 25 (cond b19 #[y0, y1, y2, .slice (some ⟨G, 0, none⟩) (L.length + 1) CP, y4] #[y0, y1, y2, .slice aL L.length cL, y4])) ∧ (RowAt w XR 25 zr) ∧ (B ≤ w.heap.size) ∧ (c < XB ∧ c < B ∧ w0.heap.size ≤ B ∧ XR ≠ XB ∧ w0.heap.size ≤ XB ∧ W0.heap.size ≤ c ∧ p ≤ 900000 ∧ c ≠ XR) ∧ (b17 = false → OwnHp w B (.slice aL L.length cL) L) ∧ (b17 = true → OwnHp w B (.slice (some ⟨G, 0, none⟩) (L.length + 1) CP) (L ++ [(⟨(x3 ++ x5), (x8 ++ x13)⟩ : Hp)])) ∧ (L.length ≤ 1000) ∧ (OwnHp w BO (.slice aO nO cO) LO ∧ c < BO ∧ ((Value.slice aO nO cO).ownBlock = none ∨ (Value.slice aO nO cO).ownBlock ≠ (Value.slice aL L.length cL).ownBlock)) ∧ (kk < 50) ∧ (b3 = true → x3.size ≤ 6) ∧ (b5 = true → x5.size ≤ 2) ∧ (b8 = true → x8.size ≤ 6) ∧ (b9 = true → b17 = false → RowAt w X9 9 #[.string ⟨#[]⟩, .string ⟨#[32, 120]⟩, .string ⟨#[58, 32, 121]⟩] ∧ B ≤ X9) ∧ (b11 = true → R11 < 3) ∧ (b13 = true → x13.size ≤ 3) ∧ (b16 = true → b17 = false → RowAt w X16 54 #[.string (x3 ++ x5), .string (x8 ++ x13)] ∧ B ≤ X16)
set_option maxRecDepth 20000 in
set_option maxHeartbeats 1000000 in
theorem rq9_s0 {Q : Exit → Act → World → Prop} (W0 w0 : World) (c : Nat) (a : Option Addr) (len cap p XR XB B : Nat) (zr : Array Value) (y0 y1 y2 y4 : Value) (aL : Option Addr) (cL : Nat) (L : List Hp) (BO : Nat) (aO : Option Addr) (nO cO : Nat) (LO : List Hp) (kk : Nat) (s1 s4 s6 s7 s8 s9 s10 s11 s12 s13 s14 s15 s16 s17 s18 s19 s20 s21 s22 s23 s24 s25 s26 s27 s28 s29 s30 s31 s32 s33 s34 s35 s36 s37 s38 s39 s40 s41 s42 s43 s44 s45 s46 s47 s48 s49 s50 s51 s52 s53 s54 s55 s56 s57 s58 s59 s60 s61 s62 s63 s64 s65 s66 s67 s68 s69 s70 s71 s72 : Value) (b2 b3 b4 b5 b6 b7 b8 b9 b10 b11 b12 b13 b14 b15 b16 : Bool) (x3 : ByteArray) (x5 : ByteArray) (x8 : ByteArray) (X9 : Nat) (R11 : Nat) (x13 : ByteArray) (X16 : Nat) (G : Nat) (CP : Nat) (pp : Nat) (w : World) (hS : Src W0 w c a len cap pp) (hp : pp ≤ p + 40 * (b3.toNat + b8.toNat + b11.toNat)) (hg : w0.grownBy w (some c)) (hbox : RowAt w XB 25 (cond false #[y0, y1, y2, .slice (some ⟨G, 0, none⟩) (L.length + 1) CP, y4] #[y0, y1, y2, .slice aL L.length cL, y4])) (hR : RowAt w XR 25 zr) (hBz : B ≤ w.heap.size) (hst : c < XB ∧ c < B ∧ w0.heap.size ≤ B ∧ XR ≠ XB ∧ w0.heap.size ≤ XB ∧ W0.heap.size ≤ c ∧ p ≤ 900000 ∧ c ≠ XR) (ho1 : false = false → OwnHp w B (.slice aL L.length cL) L) (ho2 : false = true → OwnHp w B (.slice (some ⟨G, 0, none⟩) (L.length + 1) CP) (L ++ [(⟨(x3 ++ x5), (x8 ++ x13)⟩ : Hp)])) (hLn : L.length ≤ 1000) (hoO : OwnHp w BO (.slice aO nO cO) LO ∧ c < BO ∧ ((Value.slice aO nO cO).ownBlock = none ∨ (Value.slice aO nO cO).ownBlock ≠ (Value.slice aL L.length cL).ownBlock)) (hex : kk < 50) (hx3 : b3 = true → x3.size ≤ 6) (hx5 : b5 = true → x5.size ≤ 2) (hx8 : b8 = true → x8.size ≤ 6) (hX9 : b9 = true → false = false → RowAt w X9 9 #[.string ⟨#[]⟩, .string ⟨#[32, 120]⟩, .string ⟨#[58, 32, 121]⟩] ∧ B ≤ X9) (hR11 : b11 = true → R11 < 3) (hx13 : b13 = true → x13.size ≤ 3) (hX16 : b16 = true → false = false → RowAt w X16 54 #[.string (x3 ++ x5), .string (x8 ++ x13)] ∧ B ≤ X16) :
    wpOp Tryz.prog rq9O Q 0 (rq9I W0 w0 c a len cap p XR XB B zr y0 y1 y2 y4 aL cL L BO aO nO cO LO kk s1 s4 s6 s7 s8 s9 s10 s11 s12 s13 s14 s15 s16 s17 s18 s19 s20 s21 s22 s23 s24 s25 s26 s27 s28 s29 s30 s31 s32 s33 s34 s35 s36 s37 s38 s39 s40 s41 s42 s43 s44 s45 s46 s47 s48 s49 s50 s51 s52 s53 s54 s55 s56 s57 s58 s59 s60 s61 s62 s63 s64 s65 s66 s67 s68 s69 s70 s71 s72 #[true, false, b2, b3, b4, b5, b6, b7, b8, b9, b10, b11, b12, b13, b14, b15, b16, false, false, false]) { tmps := #[.pointer (some ⟨c, 0, none⟩), s1, .pointer (some ⟨XR, 0, none⟩), .pointer (some ⟨XB, 0, none⟩), s4, .int .i64 (kk : Int), s6, s7, s8, s9, s10, s11, s12, s13, s14, s15, s16, s17, s18, s19, s20, s21, s22, s23, s24, s25, s26, s27, s28, s29, s30, s31, s32, s33, s34, s35, s36, s37, s38, s39, s40, s41, s42, s43, s44, s45, s46, s47, s48, s49, sel b2 (.pointer (some ⟨c, 0, none⟩)) (s50), sel b3 (.string x3) (s51), sel b4 (.int .i64 (kk : Int)) (s52), sel b5 (.string x5) (s53), sel b6 (.string (x3 ++ x5)) (s54), sel b7 (.pointer (some ⟨c, 0, none⟩)) (s55), sel b8 (.string x8) (s56), sel b9 (.slice (some ⟨X9, 0, none⟩) 3 3) (s57), sel b10 (.pointer (some ⟨c, 0, none⟩)) (s58), sel b11 (.int .i64 (R11 : Int)) (s59), sel b12 (.pointer (some ⟨X9, R11, none⟩)) (s60), sel b13 (.string x13) (s61), sel b14 (.string (x8 ++ x13)) (s62), sel b15 (.agg #[.string (x3 ++ x5), .string (x8 ++ x13)]) (s63), sel b16 (.slice (some ⟨X16, 0, none⟩) 1 1) (s64), s65, s66, s67, s68, s69, s70, s71, s72], defers := [] } w := by
  refine wpOp_step (o := { dst := some 48, op := Op.fieldAddr 25 (Operand.tmp 3) 3, type := 0, pos := "l10_request.go:383", after := #[], guard := none }) rfl (fun K hK => ?_)
  replace hK := hid hK
  go_simp
  exact hK.out _ _ ⟨true, false, b2, b3, b4, b5, b6, b7, b8, b9, b10, b11, b12, b13, b14, b15, b16, false, false, false, x3, x5, x8, X9, R11, x13, X16, G, CP, pp, rfl, rfl, hS, hp, hg, hbox, hR, hBz, hst, ho1, ho2, hLn, hoO, hex, hx3, hx5, hx8, hX9, hR11, hx13, hX16⟩
set_option maxRecDepth 20000 in
set_option maxHeartbeats 1000000 in
theorem rq9_s1 {Q : Exit → Act → World → Prop} (W0 w0 : World) (c : Nat) (a : Option Addr) (len cap p XR XB B : Nat) (zr : Array Value) (y0 y1 y2 y4 : Value) (aL : Option Addr) (cL : Nat) (L : List Hp) (BO : Nat) (aO : Option Addr) (nO cO : Nat) (LO : List Hp) (kk : Nat) (s1 s4 s6 s7 s8 s9 s10 s11 s12 s13 s14 s15 s16 s17 s18 s19 s20 s21 s22 s23 s24 s25 s26 s27 s28 s29 s30 s31 s32 s33 s34 s35 s36 s37 s38 s39 s40 s41 s42 s43 s44 s45 s46 s47 s48 s49 s50 s51 s52 s53 s54 s55 s56 s57 s58 s59 s60 s61 s62 s63 s64 s65 s66 s67 s68 s69 s70 s71 s72 : Value) (b2 b3 b4 b5 b6 b7 b8 b9 b10 b11 b12 b13 b14 b15 b16 : Bool) (x3 : ByteArray) (x5 : ByteArray) (x8 : ByteArray) (X9 : Nat) (R11 : Nat) (x13 : ByteArray) (X16 : Nat) (G : Nat) (CP : Nat) (pp : Nat) (w : World) (hS : Src W0 w c a len cap pp) (hp : pp ≤ p + 40 * (b3.toNat + b8.toNat + b11.toNat)) (hg : w0.grownBy w (some c)) (hbox : RowAt w XB 25 (cond false #[y0, y1, y2, .slice (some ⟨G, 0, none⟩) (L.length + 1) CP, y4] #[y0, y1, y2, .slice aL L.length cL, y4])) (hR : RowAt w XR 25 zr) (hBz : B ≤ w.heap.size) (hst : c < XB ∧ c < B ∧ w0.heap.size ≤ B ∧ XR ≠ XB ∧ w0.heap.size ≤ XB ∧ W0.heap.size ≤ c ∧ p ≤ 900000 ∧ c ≠ XR) (ho1 : false = false → OwnHp w B (.slice aL L.length cL) L) (ho2 : false = true → OwnHp w B (.slice (some ⟨G, 0, none⟩) (L.length + 1) CP) (L ++ [(⟨(x3 ++ x5), (x8 ++ x13)⟩ : Hp)])) (hLn : L.length ≤ 1000) (hoO : OwnHp w BO (.slice aO nO cO) LO ∧ c < BO ∧ ((Value.slice aO nO cO).ownBlock = none ∨ (Value.slice aO nO cO).ownBlock ≠ (Value.slice aL L.length cL).ownBlock)) (hex : kk < 50) (hx3 : b3 = true → x3.size ≤ 6) (hx5 : b5 = true → x5.size ≤ 2) (hx8 : b8 = true → x8.size ≤ 6) (hX9 : b9 = true → false = false → RowAt w X9 9 #[.string ⟨#[]⟩, .string ⟨#[32, 120]⟩, .string ⟨#[58, 32, 121]⟩] ∧ B ≤ X9) (hR11 : b11 = true → R11 < 3) (hx13 : b13 = true → x13.size ≤ 3) (hX16 : b16 = true → false = false → RowAt w X16 54 #[.string (x3 ++ x5), .string (x8 ++ x13)] ∧ B ≤ X16) :
    wpOp Tryz.prog rq9O Q 1 (rq9I W0 w0 c a len cap p XR XB B zr y0 y1 y2 y4 aL cL L BO aO nO cO LO kk s1 s4 s6 s7 s8 s9 s10 s11 s12 s13 s14 s15 s16 s17 s18 s19 s20 s21 s22 s23 s24 s25 s26 s27 s28 s29 s30 s31 s32 s33 s34 s35 s36 s37 s38 s39 s40 s41 s42 s43 s44 s45 s46 s47 s48 s49 s50 s51 s52 s53 s54 s55 s56 s57 s58 s59 s60 s61 s62 s63 s64 s65 s66 s67 s68 s69 s70 s71 s72 #[true, true, b2, b3, b4, b5, b6, b7, b8, b9, b10, b11, b12, b13, b14, b15, b16, false, false, false]) { tmps := #[.pointer (some ⟨c, 0, none⟩), s1, .pointer (some ⟨XR, 0, none⟩), .pointer (some ⟨XB, 0, none⟩), s4, .int .i64 (kk : Int), s6, s7, s8, s9, s10, s11, s12, s13, s14, s15, s16, s17, s18, s19, s20, s21, s22, s23, s24, s25, s26, s27, s28, s29, s30, s31, s32, s33, s34, s35, s36, s37, s38, s39, s40, s41, s42, s43, s44, s45, s46, s47, .pointer (some ⟨XB, 3, none⟩), s49, sel b2 (.pointer (some ⟨c, 0, none⟩)) (s50), sel b3 (.string x3) (s51), sel b4 (.int .i64 (kk : Int)) (s52), sel b5 (.string x5) (s53), sel b6 (.string (x3 ++ x5)) (s54), sel b7 (.pointer (some ⟨c, 0, none⟩)) (s55), sel b8 (.string x8) (s56), sel b9 (.slice (some ⟨X9, 0, none⟩) 3 3) (s57), sel b10 (.pointer (some ⟨c, 0, none⟩)) (s58), sel b11 (.int .i64 (R11 : Int)) (s59), sel b12 (.pointer (some ⟨X9, R11, none⟩)) (s60), sel b13 (.string x13) (s61), sel b14 (.string (x8 ++ x13)) (s62), sel b15 (.agg #[.string (x3 ++ x5), .string (x8 ++ x13)]) (s63), sel b16 (.slice (some ⟨X16, 0, none⟩) 1 1) (s64), s65, s66, s67, s68, s69, s70, s71, s72], defers := [] } w := by
  have q := hbox.cell 3
  refine wpOp_step (o := { dst := some 49, op := Op.load 23 (Operand.tmp 48), type := 23, pos := "l10_request.go:383", after := #[{ on := 0, ground := Ground.data }], guard := none }) rfl (fun K hK => ?_)
  replace hK := hid hK
  go_simp
  exact hK.out _ _ ⟨true, true, b2, b3, b4, b5, b6, b7, b8, b9, b10, b11, b12, b13, b14, b15, b16, false, false, false, x3, x5, x8, X9, R11, x13, X16, G, CP, pp, rfl, rfl, hS, hp, hg, hbox, hR, hBz, hst, ho1, ho2, hLn, hoO, hex, hx3, hx5, hx8, hX9, hR11, hx13, hX16⟩
set_option maxRecDepth 20000 in
set_option maxHeartbeats 1000000 in
theorem rq9_s2 {Q : Exit → Act → World → Prop} (W0 w0 : World) (c : Nat) (a : Option Addr) (len cap p XR XB B : Nat) (zr : Array Value) (y0 y1 y2 y4 : Value) (aL : Option Addr) (cL : Nat) (L : List Hp) (BO : Nat) (aO : Option Addr) (nO cO : Nat) (LO : List Hp) (kk : Nat) (s1 s4 s6 s7 s8 s9 s10 s11 s12 s13 s14 s15 s16 s17 s18 s19 s20 s21 s22 s23 s24 s25 s26 s27 s28 s29 s30 s31 s32 s33 s34 s35 s36 s37 s38 s39 s40 s41 s42 s43 s44 s45 s46 s47 s48 s49 s50 s51 s52 s53 s54 s55 s56 s57 s58 s59 s60 s61 s62 s63 s64 s65 s66 s67 s68 s69 s70 s71 s72 : Value) (b0 b1 b4 b7 b9 b10 : Bool) (x3 : ByteArray) (x5 : ByteArray) (x8 : ByteArray) (X9 : Nat) (R11 : Nat) (x13 : ByteArray) (X16 : Nat) (G : Nat) (CP : Nat) (pp : Nat) (w : World) (hS : Src W0 w c a len cap pp) (hp : pp ≤ p + 40 * (0 + 0 + 0)) (hg : w0.grownBy w (some c)) (hbox : RowAt w XB 25 (cond false #[y0, y1, y2, .slice (some ⟨G, 0, none⟩) (L.length + 1) CP, y4] #[y0, y1, y2, .slice aL L.length cL, y4])) (hR : RowAt w XR 25 zr) (hBz : B ≤ w.heap.size) (hst : c < XB ∧ c < B ∧ w0.heap.size ≤ B ∧ XR ≠ XB ∧ w0.heap.size ≤ XB ∧ W0.heap.size ≤ c ∧ p ≤ 900000 ∧ c ≠ XR) (ho1 : false = false → OwnHp w B (.slice aL L.length cL) L) (ho2 : false = true → OwnHp w B (.slice (some ⟨G, 0, none⟩) (L.length + 1) CP) (L ++ [(⟨(x3 ++ x5), (x8 ++ x13)⟩ : Hp)])) (hLn : L.length ≤ 1000) (hoO : OwnHp w BO (.slice aO nO cO) LO ∧ c < BO ∧ ((Value.slice aO nO cO).ownBlock = none ∨ (Value.slice aO nO cO).ownBlock ≠ (Value.slice aL L.length cL).ownBlock)) (hex : kk < 50) (hx3 : false = true → x3.size ≤ 6) (hx5 : false = true → x5.size ≤ 2) (hx8 : false = true → x8.size ≤ 6) (hX9 : b9 = true → false = false → RowAt w X9 9 #[.string ⟨#[]⟩, .string ⟨#[32, 120]⟩, .string ⟨#[58, 32, 121]⟩] ∧ B ≤ X9) (hR11 : false = true → R11 < 3) (hx13 : false = true → x13.size ≤ 3) (hX16 : false = true → false = false → RowAt w X16 54 #[.string (x3 ++ x5), .string (x8 ++ x13)] ∧ B ≤ X16) :
    wpOp Tryz.prog rq9O Q 2 (rq9I W0 w0 c a len cap p XR XB B zr y0 y1 y2 y4 aL cL L BO aO nO cO LO kk s1 s4 s6 s7 s8 s9 s10 s11 s12 s13 s14 s15 s16 s17 s18 s19 s20 s21 s22 s23 s24 s25 s26 s27 s28 s29 s30 s31 s32 s33 s34 s35 s36 s37 s38 s39 s40 s41 s42 s43 s44 s45 s46 s47 s48 s49 s50 s51 s52 s53 s54 s55 s56 s57 s58 s59 s60 s61 s62 s63 s64 s65 s66 s67 s68 s69 s70 s71 s72 #[b0, b1, true, false, b4, false, false, b7, false, b9, b10, false, false, false, false, false, false, false, false, false]) { tmps := #[.pointer (some ⟨c, 0, none⟩), s1, .pointer (some ⟨XR, 0, none⟩), .pointer (some ⟨XB, 0, none⟩), s4, .int .i64 (kk : Int), s6, s7, s8, s9, s10, s11, s12, s13, s14, s15, s16, s17, s18, s19, s20, s21, s22, s23, s24, s25, s26, s27, s28, s29, s30, s31, s32, s33, s34, s35, s36, s37, s38, s39, s40, s41, s42, s43, s44, s45, s46, s47, sel b0 (.pointer (some ⟨XB, 3, none⟩)) (s48), sel b1 (.slice aL L.length cL) (s49), s50, s51, sel b4 (.int .i64 (kk : Int)) (s52), s53, s54, sel b7 (.pointer (some ⟨c, 0, none⟩)) (s55), s56, sel b9 (.slice (some ⟨X9, 0, none⟩) 3 3) (s57), sel b10 (.pointer (some ⟨c, 0, none⟩)) (s58), s59, s60, s61, s62, s63, s64, s65, s66, s67, s68, s69, s70, s71, s72], defers := [] } w := by
  refine wpOp_step (o := { dst := some 50, op := Op.move (Operand.tmp 0), type := 43, pos := "l10_request.go:383", after := #[], guard := none }) rfl (fun K hK => ?_)
  replace hK := hid hK
  go_simp
  exact hK.out _ _ ⟨b0, b1, true, false, b4, false, false, b7, false, b9, b10, false, false, false, false, false, false, false, false, false, x3, x5, x8, X9, R11, x13, X16, G, CP, pp, rfl, rfl, hS, hp, hg, hbox, hR, hBz, hst, ho1, ho2, hLn, hoO, hex, hx3, hx5, hx8, hX9, hR11, hx13, hX16⟩
set_option maxRecDepth 20000 in
set_option maxHeartbeats 1000000 in
theorem rq9_s3 {Q : Exit → Act → World → Prop} (W0 w0 : World) (c : Nat) (a : Option Addr) (len cap p XR XB B : Nat) (zr : Array Value) (y0 y1 y2 y4 : Value) (aL : Option Addr) (cL : Nat) (L : List Hp) (BO : Nat) (aO : Option Addr) (nO cO : Nat) (LO : List Hp) (kk : Nat) (s1 s4 s6 s7 s8 s9 s10 s11 s12 s13 s14 s15 s16 s17 s18 s19 s20 s21 s22 s23 s24 s25 s26 s27 s28 s29 s30 s31 s32 s33 s34 s35 s36 s37 s38 s39 s40 s41 s42 s43 s44 s45 s46 s47 s48 s49 s50 s51 s52 s53 s54 s55 s56 s57 s58 s59 s60 s61 s62 s63 s64 s65 s66 s67 s68 s69 s70 s71 s72 : Value) (b0 b1 b4 b7 b9 b10 : Bool) (x3 : ByteArray) (x5 : ByteArray) (x8 : ByteArray) (X9 : Nat) (R11 : Nat) (x13 : ByteArray) (X16 : Nat) (G : Nat) (CP : Nat) (pp : Nat) (w : World) (hS : Src W0 w c a len cap pp) (hp : pp ≤ p + 40 * (0 + 0 + 0)) (hg : w0.grownBy w (some c)) (hbox : RowAt w XB 25 (cond false #[y0, y1, y2, .slice (some ⟨G, 0, none⟩) (L.length + 1) CP, y4] #[y0, y1, y2, .slice aL L.length cL, y4])) (hR : RowAt w XR 25 zr) (hBz : B ≤ w.heap.size) (hst : c < XB ∧ c < B ∧ w0.heap.size ≤ B ∧ XR ≠ XB ∧ w0.heap.size ≤ XB ∧ W0.heap.size ≤ c ∧ p ≤ 900000 ∧ c ≠ XR) (ho1 : false = false → OwnHp w B (.slice aL L.length cL) L) (ho2 : false = true → OwnHp w B (.slice (some ⟨G, 0, none⟩) (L.length + 1) CP) (L ++ [(⟨(x3 ++ x5), (x8 ++ x13)⟩ : Hp)])) (hLn : L.length ≤ 1000) (hoO : OwnHp w BO (.slice aO nO cO) LO ∧ c < BO ∧ ((Value.slice aO nO cO).ownBlock = none ∨ (Value.slice aO nO cO).ownBlock ≠ (Value.slice aL L.length cL).ownBlock)) (hex : kk < 50) (hx3 : false = true → x3.size ≤ 6) (hx5 : false = true → x5.size ≤ 2) (hx8 : false = true → x8.size ≤ 6) (hX9 : b9 = true → false = false → RowAt w X9 9 #[.string ⟨#[]⟩, .string ⟨#[32, 120]⟩, .string ⟨#[58, 32, 121]⟩] ∧ B ≤ X9) (hR11 : false = true → R11 < 3) (hx13 : false = true → x13.size ≤ 3) (hX16 : false = true → false = false → RowAt w X16 54 #[.string (x3 ++ x5), .string (x8 ++ x13)] ∧ B ≤ X16) :
    wpOp Tryz.prog rq9O Q 3 (rq9I W0 w0 c a len cap p XR XB B zr y0 y1 y2 y4 aL cL L BO aO nO cO LO kk s1 s4 s6 s7 s8 s9 s10 s11 s12 s13 s14 s15 s16 s17 s18 s19 s20 s21 s22 s23 s24 s25 s26 s27 s28 s29 s30 s31 s32 s33 s34 s35 s36 s37 s38 s39 s40 s41 s42 s43 s44 s45 s46 s47 s48 s49 s50 s51 s52 s53 s54 s55 s56 s57 s58 s59 s60 s61 s62 s63 s64 s65 s66 s67 s68 s69 s70 s71 s72 #[b0, b1, true, true, b4, false, false, b7, false, b9, b10, false, false, false, false, false, false, false, false, false]) { tmps := #[.pointer (some ⟨c, 0, none⟩), s1, .pointer (some ⟨XR, 0, none⟩), .pointer (some ⟨XB, 0, none⟩), s4, .int .i64 (kk : Int), s6, s7, s8, s9, s10, s11, s12, s13, s14, s15, s16, s17, s18, s19, s20, s21, s22, s23, s24, s25, s26, s27, s28, s29, s30, s31, s32, s33, s34, s35, s36, s37, s38, s39, s40, s41, s42, s43, s44, s45, s46, s47, sel b0 (.pointer (some ⟨XB, 3, none⟩)) (s48), sel b1 (.slice aL L.length cL) (s49), .pointer (some ⟨c, 0, none⟩), s51, sel b4 (.int .i64 (kk : Int)) (s52), s53, s54, sel b7 (.pointer (some ⟨c, 0, none⟩)) (s55), s56, sel b9 (.slice (some ⟨X9, 0, none⟩) 3 3) (s57), sel b10 (.pointer (some ⟨c, 0, none⟩)) (s58), s59, s60, s61, s62, s63, s64, s65, s66, s67, s68, s69, s70, s71, s72], defers := [] } w := by
  have hcB : c < B := by omega
  refine wpOp_step (o := { dst := some 51, op := Op.call { callee := Callee.value (Operand.func 81), args := #[Operand.tmp 50], argTypes := #[43] }, type := 9, pos := "l10_request.go:383", after := #[{ on := 2, ground := Ground.data }], guard := none }) rfl (fun K hK => ?_)
  replace hK := hid hK
  go_simp
  refine (word_all W0 _ c a len cap pp hS (by omega)).mono ?_
  rintro e w2 ⟨⟨t2, rfl, ht2⟩, ⟨p3, hs2, hp3⟩, hg2⟩
  dsimp only
  exact hK.out _ _ ⟨b0, b1, true, true, b4, false, false, b7, false, b9, b10, false, false, false, false, false, false, false, false, false, t2, x5, x8, X9, R11, x13, X16, G, CP, p3, rfl, rfl, hs2, by show p3 ≤ p + 40 * (1 + 0 + 0); omega, grown_trans hg hg2, rowF hbox hg2 hst.1, rowF2 hR hg2 hst.2.2.2.2.2.2.2, Nat.le_trans hBz hg2.size, hst, fun h => OwnHp.keptC (ho1 h) hg2 (by omega), fun h => Bool.noConfusion h, hLn, ⟨OwnHp.keptC hoO.1 hg2 hoO.2.1, hoO.2⟩, hex, fun _ => ht2, hx5, hx8, fun h e => ⟨rowF (hX9 h e).1 hg2 (by have := (hX9 h e).2; omega), (hX9 h e).2⟩, hR11, hx13, fun h => Bool.noConfusion h⟩
set_option maxRecDepth 20000 in
set_option maxHeartbeats 1000000 in
theorem rq9_s4 {Q : Exit → Act → World → Prop} (W0 w0 : World) (c : Nat) (a : Option Addr) (len cap p XR XB B : Nat) (zr : Array Value) (y0 y1 y2 y4 : Value) (aL : Option Addr) (cL : Nat) (L : List Hp) (BO : Nat) (aO : Option Addr) (nO cO : Nat) (LO : List Hp) (kk : Nat) (s1 s4 s6 s7 s8 s9 s10 s11 s12 s13 s14 s15 s16 s17 s18 s19 s20 s21 s22 s23 s24 s25 s26 s27 s28 s29 s30 s31 s32 s33 s34 s35 s36 s37 s38 s39 s40 s41 s42 s43 s44 s45 s46 s47 s48 s49 s50 s51 s52 s53 s54 s55 s56 s57 s58 s59 s60 s61 s62 s63 s64 s65 s66 s67 s68 s69 s70 s71 s72 : Value) (b0 b1 b2 b3 b7 b9 b10 : Bool) (x3 : ByteArray) (x5 : ByteArray) (x8 : ByteArray) (X9 : Nat) (R11 : Nat) (x13 : ByteArray) (X16 : Nat) (G : Nat) (CP : Nat) (pp : Nat) (w : World) (hS : Src W0 w c a len cap pp) (hp : pp ≤ p + 40 * (b3.toNat + 0 + 0)) (hg : w0.grownBy w (some c)) (hbox : RowAt w XB 25 (cond false #[y0, y1, y2, .slice (some ⟨G, 0, none⟩) (L.length + 1) CP, y4] #[y0, y1, y2, .slice aL L.length cL, y4])) (hR : RowAt w XR 25 zr) (hBz : B ≤ w.heap.size) (hst : c < XB ∧ c < B ∧ w0.heap.size ≤ B ∧ XR ≠ XB ∧ w0.heap.size ≤ XB ∧ W0.heap.size ≤ c ∧ p ≤ 900000 ∧ c ≠ XR) (ho1 : false = false → OwnHp w B (.slice aL L.length cL) L) (ho2 : false = true → OwnHp w B (.slice (some ⟨G, 0, none⟩) (L.length + 1) CP) (L ++ [(⟨(x3 ++ x5), (x8 ++ x13)⟩ : Hp)])) (hLn : L.length ≤ 1000) (hoO : OwnHp w BO (.slice aO nO cO) LO ∧ c < BO ∧ ((Value.slice aO nO cO).ownBlock = none ∨ (Value.slice aO nO cO).ownBlock ≠ (Value.slice aL L.length cL).ownBlock)) (hex : kk < 50) (hx3 : b3 = true → x3.size ≤ 6) (hx5 : false = true → x5.size ≤ 2) (hx8 : false = true → x8.size ≤ 6) (hX9 : b9 = true → false = false → RowAt w X9 9 #[.string ⟨#[]⟩, .string ⟨#[32, 120]⟩, .string ⟨#[58, 32, 121]⟩] ∧ B ≤ X9) (hR11 : false = true → R11 < 3) (hx13 : false = true → x13.size ≤ 3) (hX16 : false = true → false = false → RowAt w X16 54 #[.string (x3 ++ x5), .string (x8 ++ x13)] ∧ B ≤ X16) :
    wpOp Tryz.prog rq9O Q 4 (rq9I W0 w0 c a len cap p XR XB B zr y0 y1 y2 y4 aL cL L BO aO nO cO LO kk s1 s4 s6 s7 s8 s9 s10 s11 s12 s13 s14 s15 s16 s17 s18 s19 s20 s21 s22 s23 s24 s25 s26 s27 s28 s29 s30 s31 s32 s33 s34 s35 s36 s37 s38 s39 s40 s41 s42 s43 s44 s45 s46 s47 s48 s49 s50 s51 s52 s53 s54 s55 s56 s57 s58 s59 s60 s61 s62 s63 s64 s65 s66 s67 s68 s69 s70 s71 s72 #[b0, b1, b2, b3, true, false, false, b7, false, b9, b10, false, false, false, false, false, false, false, false, false]) { tmps := #[.pointer (some ⟨c, 0, none⟩), s1, .pointer (some ⟨XR, 0, none⟩), .pointer (some ⟨XB, 0, none⟩), s4, .int .i64 (kk : Int), s6, s7, s8, s9, s10, s11, s12, s13, s14, s15, s16, s17, s18, s19, s20, s21, s22, s23, s24, s25, s26, s27, s28, s29, s30, s31, s32, s33, s34, s35, s36, s37, s38, s39, s40, s41, s42, s43, s44, s45, s46, s47, sel b0 (.pointer (some ⟨XB, 3, none⟩)) (s48), sel b1 (.slice aL L.length cL) (s49), sel b2 (.pointer (some ⟨c, 0, none⟩)) (s50), sel b3 (.string x3) (s51), s52, s53, s54, sel b7 (.pointer (some ⟨c, 0, none⟩)) (s55), s56, sel b9 (.slice (some ⟨X9, 0, none⟩) 3 3) (s57), sel b10 (.pointer (some ⟨c, 0, none⟩)) (s58), s59, s60, s61, s62, s63, s64, s65, s66, s67, s68, s69, s70, s71, s72], defers := [] } w := by
  refine wpOp_step (o := { dst := some 52, op := Op.move (Operand.tmp 5), type := 2, pos := "l10_request.go:383", after := #[], guard := none }) rfl (fun K hK => ?_)
  replace hK := hid hK
  go_simp
  exact hK.out _ _ ⟨b0, b1, b2, b3, true, false, false, b7, false, b9, b10, false, false, false, false, false, false, false, false, false, x3, x5, x8, X9, R11, x13, X16, G, CP, pp, rfl, rfl, hS, hp, hg, hbox, hR, hBz, hst, ho1, ho2, hLn, hoO, hex, hx3, hx5, hx8, hX9, hR11, hx13, hX16⟩
set_option maxRecDepth 20000 in
set_option maxHeartbeats 1000000 in
theorem rq9_s5 {Q : Exit → Act → World → Prop} (W0 w0 : World) (c : Nat) (a : Option Addr) (len cap p XR XB B : Nat) (zr : Array Value) (y0 y1 y2 y4 : Value) (aL : Option Addr) (cL : Nat) (L : List Hp) (BO : Nat) (aO : Option Addr) (nO cO : Nat) (LO : List Hp) (kk : Nat) (s1 s4 s6 s7 s8 s9 s10 s11 s12 s13 s14 s15 s16 s17 s18 s19 s20 s21 s22 s23 s24 s25 s26 s27 s28 s29 s30 s31 s32 s33 s34 s35 s36 s37 s38 s39 s40 s41 s42 s43 s44 s45 s46 s47 s48 s49 s50 s51 s52 s53 s54 s55 s56 s57 s58 s59 s60 s61 s62 s63 s64 s65 s66 s67 s68 s69 s70 s71 s72 : Value) (b0 b1 b7 b9 b10 : Bool) (x3 : ByteArray) (x5 : ByteArray) (x8 : ByteArray) (X9 : Nat) (R11 : Nat) (x13 : ByteArray) (X16 : Nat) (G : Nat) (CP : Nat) (pp : Nat) (w : World) (hS : Src W0 w c a len cap pp) (hp : pp ≤ p + 40 * (1 + 0 + 0)) (hg : w0.grownBy w (some c)) (hbox : RowAt w XB 25 (cond false #[y0, y1, y2, .slice (some ⟨G, 0, none⟩) (L.length + 1) CP, y4] #[y0, y1, y2, .slice aL L.length cL, y4])) (hR : RowAt w XR 25 zr) (hBz : B ≤ w.heap.size) (hst : c < XB ∧ c < B ∧ w0.heap.size ≤ B ∧ XR ≠ XB ∧ w0.heap.size ≤ XB ∧ W0.heap.size ≤ c ∧ p ≤ 900000 ∧ c ≠ XR) (ho1 : false = false → OwnHp w B (.slice aL L.length cL) L) (ho2 : false = true → OwnHp w B (.slice (some ⟨G, 0, none⟩) (L.length + 1) CP) (L ++ [(⟨(x3 ++ x5), (x8 ++ x13)⟩ : Hp)])) (hLn : L.length ≤ 1000) (hoO : OwnHp w BO (.slice aO nO cO) LO ∧ c < BO ∧ ((Value.slice aO nO cO).ownBlock = none ∨ (Value.slice aO nO cO).ownBlock ≠ (Value.slice aL L.length cL).ownBlock)) (hex : kk < 50) (hx3 : true = true → x3.size ≤ 6) (hx5 : false = true → x5.size ≤ 2) (hx8 : false = true → x8.size ≤ 6) (hX9 : b9 = true → false = false → RowAt w X9 9 #[.string ⟨#[]⟩, .string ⟨#[32, 120]⟩, .string ⟨#[58, 32, 121]⟩] ∧ B ≤ X9) (hR11 : false = true → R11 < 3) (hx13 : false = true → x13.size ≤ 3) (hX16 : false = true → false = false → RowAt w X16 54 #[.string (x3 ++ x5), .string (x8 ++ x13)] ∧ B ≤ X16) :
    wpOp Tryz.prog rq9O Q 5 (rq9I W0 w0 c a len cap p XR XB B zr y0 y1 y2 y4 aL cL L BO aO nO cO LO kk s1 s4 s6 s7 s8 s9 s10 s11 s12 s13 s14 s15 s16 s17 s18 s19 s20 s21 s22 s23 s24 s25 s26 s27 s28 s29 s30 s31 s32 s33 s34 s35 s36 s37 s38 s39 s40 s41 s42 s43 s44 s45 s46 s47 s48 s49 s50 s51 s52 s53 s54 s55 s56 s57 s58 s59 s60 s61 s62 s63 s64 s65 s66 s67 s68 s69 s70 s71 s72 #[b0, b1, true, true, true, true, false, b7, false, b9, b10, false, false, false, false, false, false, false, false, false]) { tmps := #[.pointer (some ⟨c, 0, none⟩), s1, .pointer (some ⟨XR, 0, none⟩), .pointer (some ⟨XB, 0, none⟩), s4, .int .i64 (kk : Int), s6, s7, s8, s9, s10, s11, s12, s13, s14, s15, s16, s17, s18, s19, s20, s21, s22, s23, s24, s25, s26, s27, s28, s29, s30, s31, s32, s33, s34, s35, s36, s37, s38, s39, s40, s41, s42, s43, s44, s45, s46, s47, sel b0 (.pointer (some ⟨XB, 3, none⟩)) (s48), sel b1 (.slice aL L.length cL) (s49), .pointer (some ⟨c, 0, none⟩), .string x3, .int .i64 (kk : Int), s53, s54, sel b7 (.pointer (some ⟨c, 0, none⟩)) (s55), s56, sel b9 (.slice (some ⟨X9, 0, none⟩) 3 3) (s57), sel b10 (.pointer (some ⟨c, 0, none⟩)) (s58), s59, s60, s61, s62, s63, s64, s65, s66, s67, s68, s69, s70, s71, s72], defers := [] } w := by
  refine wpOp_step (o := { dst := some 53, op := Op.call { callee := Callee.value (Operand.func 47), args := #[Operand.tmp 52], argTypes := #[2] }, type := 9, pos := "l10_request.go:383", after := #[{ on := 4, ground := Ground.data }, { on := 3, ground := Ground.chain }], guard := none }) rfl (fun K hK => ?_)
  replace hK := hid hK
  go_simp
  refine (dec_all kk (by omega) _).mono ?_
  rintro e w2 ⟨⟨t2, rfl, ht2⟩, hb2⟩
  dsimp only
  exact hK.out _ _ ⟨b0, b1, true, true, true, true, false, b7, false, b9, b10, false, false, false, false, false, false, false, false, false, x3, t2, x8, X9, R11, x13, X16, G, CP, pp, rfl, rfl, Src.belowD hS hb2, hp, grown_trans hg (below_grown hb2 _), RowAt.nxD hb2 hbox, RowAt.nxD hb2 hR, Nat.le_trans hBz hb2.size, hst, fun h => OwnHp.next hb2 (ho1 h), fun h => Bool.noConfusion h, hLn, ⟨OwnHp.next hb2 hoO.1, hoO.2⟩, hex, hx3, fun _ => ht2, hx8, fun h e => ⟨RowAt.nxD hb2 (hX9 h e).1, (hX9 h e).2⟩, hR11, hx13, fun h => Bool.noConfusion h⟩
set_option maxRecDepth 20000 in
set_option maxHeartbeats 1000000 in
theorem rq9_s6 {Q : Exit → Act → World → Prop} (W0 w0 : World) (c : Nat) (a : Option Addr) (len cap p XR XB B : Nat) (zr : Array Value) (y0 y1 y2 y4 : Value) (aL : Option Addr) (cL : Nat) (L : List Hp) (BO : Nat) (aO : Option Addr) (nO cO : Nat) (LO : List Hp) (kk : Nat) (s1 s4 s6 s7 s8 s9 s10 s11 s12 s13 s14 s15 s16 s17 s18 s19 s20 s21 s22 s23 s24 s25 s26 s27 s28 s29 s30 s31 s32 s33 s34 s35 s36 s37 s38 s39 s40 s41 s42 s43 s44 s45 s46 s47 s48 s49 s50 s51 s52 s53 s54 s55 s56 s57 s58 s59 s60 s61 s62 s63 s64 s65 s66 s67 s68 s69 s70 s71 s72 : Value) (b0 b1 b7 b8 b9 b10 b11 b12 b13 b14 : Bool) (x3 : ByteArray) (x5 : ByteArray) (x8 : ByteArray) (X9 : Nat) (R11 : Nat) (x13 : ByteArray) (X16 : Nat) (G : Nat) (CP : Nat) (pp : Nat) (w : World) (hS : Src W0 w c a len cap pp) (hp : pp ≤ p + 40 * (1 + b8.toNat + b11.toNat)) (hg : w0.grownBy w (some c)) (hbox : RowAt w XB 25 (cond false #[y0, y1, y2, .slice (some ⟨G, 0, none⟩) (L.length + 1) CP, y4] #[y0, y1, y2, .slice aL L.length cL, y4])) (hR : RowAt w XR 25 zr) (hBz : B ≤ w.heap.size) (hst : c < XB ∧ c < B ∧ w0.heap.size ≤ B ∧ XR ≠ XB ∧ w0.heap.size ≤ XB ∧ W0.heap.size ≤ c ∧ p ≤ 900000 ∧ c ≠ XR) (ho1 : false = false → OwnHp w B (.slice aL L.length cL) L) (ho2 : false = true → OwnHp w B (.slice (some ⟨G, 0, none⟩) (L.length + 1) CP) (L ++ [(⟨(x3 ++ x5), (x8 ++ x13)⟩ : Hp)])) (hLn : L.length ≤ 1000) (hoO : OwnHp w BO (.slice aO nO cO) LO ∧ c < BO ∧ ((Value.slice aO nO cO).ownBlock = none ∨ (Value.slice aO nO cO).ownBlock ≠ (Value.slice aL L.length cL).ownBlock)) (hex : kk < 50) (hx3 : true = true → x3.size ≤ 6) (hx5 : true = true → x5.size ≤ 2) (hx8 : b8 = true → x8.size ≤ 6) (hX9 : b9 = true → false = false → RowAt w X9 9 #[.string ⟨#[]⟩, .string ⟨#[32, 120]⟩, .string ⟨#[58, 32, 121]⟩] ∧ B ≤ X9) (hR11 : b11 = true → R11 < 3) (hx13 : b13 = true → x13.size ≤ 3) (hX16 : false = true → false = false → RowAt w X16 54 #[.string (x3 ++ x5), .string (x8 ++ x13)] ∧ B ≤ X16) :
    wpOp Tryz.prog rq9O Q 6 (rq9I W0 w0 c a len cap p XR XB B zr y0 y1 y2 y4 aL cL L BO aO nO cO LO kk s1 s4 s6 s7 s8 s9 s10 s11 s12 s13 s14 s15 s16 s17 s18 s19 s20 s21 s22 s23 s24 s25 s26 s27 s28 s29 s30 s31 s32 s33 s34 s35 s36 s37 s38 s39 s40 s41 s42 s43 s44 s45 s46 s47 s48 s49 s50 s51 s52 s53 s54 s55 s56 s57 s58 s59 s60 s61 s62 s63 s64 s65 s66 s67 s68 s69 s70 s71 s72 #[b0, b1, true, true, true, true, true, b7, b8, b9, b10, b11, b12, b13, b14, false, false, false, false, false]) { tmps := #[.pointer (some ⟨c, 0, none⟩), s1, .pointer (some ⟨XR, 0, none⟩), .pointer (some ⟨XB, 0, none⟩), s4, .int .i64 (kk : Int), s6, s7, s8, s9, s10, s11, s12, s13, s14, s15, s16, s17, s18, s19, s20, s21, s22, s23, s24, s25, s26, s27, s28, s29, s30, s31, s32, s33, s34, s35, s36, s37, s38, s39, s40, s41, s42, s43, s44, s45, s46, s47, sel b0 (.pointer (some ⟨XB, 3, none⟩)) (s48), sel b1 (.slice aL L.length cL) (s49), .pointer (some ⟨c, 0, none⟩), .string x3, .int .i64 (kk : Int), .string x5, s54, sel b7 (.pointer (some ⟨c, 0, none⟩)) (s55), sel b8 (.string x8) (s56), sel b9 (.slice (some ⟨X9, 0, none⟩) 3 3) (s57), sel b10 (.pointer (some ⟨c, 0, none⟩)) (s58), sel b11 (.int .i64 (R11 : Int)) (s59), sel b12 (.pointer (some ⟨X9, R11, none⟩)) (s60), sel b13 (.string x13) (s61), sel b14 (.string (x8 ++ x13)) (s62), s63, s64, s65, s66, s67, s68, s69, s70, s71, s72], defers := [] } w := by
  have za := hx3 rfl
  have zb := hx5 rfl
  have z1 : ¬ 9223372036854775807 < x3.size + x5.size := by omega
  refine wpOp_step (o := { dst := some 54, op := Op.binOp BinOp.add 9 (Operand.tmp 51) (Operand.tmp 53) 9, type := 9, pos := "l10_request.go:383", after := #[{ on := 3, ground := Ground.data }, { on := 5, ground := Ground.data }], guard := none }) rfl (fun K hK => ?_)
  replace hK := hid hK
  go_simp
  exact hK.out _ _ ⟨b0, b1, true, true, true, true, true, b7, b8, b9, b10, b11, b12, b13, b14, false, false, false, false, false, x3, x5, x8, X9, R11, x13, X16, G, CP, pp, rfl, rfl, hS, hp, hg, hbox, hR, hBz, hst, ho1, ho2, hLn, hoO, hex, hx3, hx5, hx8, hX9, hR11, hx13, hX16⟩
set_option maxRecDepth 20000 in
set_option maxHeartbeats 1000000 in
theorem rq9_s7 {Q : Exit → Act → World → Prop} (W0 w0 : World) (c : Nat) (a : Option Addr) (len cap p XR XB B : Nat) (zr : Array Value) (y0 y1 y2 y4 : Value) (aL : Option Addr) (cL : Nat) (L : List Hp) (BO : Nat) (aO : Option Addr) (nO cO : Nat) (LO : List Hp) (kk : Nat) (s1 s4 s6 s7 s8 s9 s10 s11 s12 s13 s14 s15 s16 s17 s18 s19 s20 s21 s22 s23 s24 s25 s26 s27 s28 s29 s30 s31 s32 s33 s34 s35 s36 s37 s38 s39 s40 s41 s42 s43 s44 s45 s46 s47 s48 s49 s50 s51 s52 s53 s54 s55 s56 s57 s58 s59 s60 s61 s62 s63 s64 s65 s66 s67 s68 s69 s70 s71 s72 : Value) (b0 b1 b2 b3 b4 b5 b6 b9 b10 : Bool) (x3 : ByteArray) (x5 : ByteArray) (x8 : ByteArray) (X9 : Nat) (R11 : Nat) (x13 : ByteArray) (X16 : Nat) (G : Nat) (CP : Nat) (pp : Nat) (w : World) (hS : Src W0 w c a len cap pp) (hp : pp ≤ p + 40 * (b3.toNat + 0 + 0)) (hg : w0.grownBy w (some c)) (hbox : RowAt w XB 25 (cond false #[y0, y1, y2, .slice (some ⟨G, 0, none⟩) (L.length + 1) CP, y4] #[y0, y1, y2, .slice aL L.length cL, y4])) (hR : RowAt w XR 25 zr) (hBz : B ≤ w.heap.size) (hst : c < XB ∧ c < B ∧ w0.heap.size ≤ B ∧ XR ≠ XB ∧ w0.heap.size ≤ XB ∧ W0.heap.size ≤ c ∧ p ≤ 900000 ∧ c ≠ XR) (ho1 : false = false → OwnHp w B (.slice aL L.length cL) L) (ho2 : false = true → OwnHp w B (.slice (some ⟨G, 0, none⟩) (L.length + 1) CP) (L ++ [(⟨(x3 ++ x5), (x8 ++ x13)⟩ : Hp)])) (hLn : L.length ≤ 1000) (hoO : OwnHp w BO (.slice aO nO cO) LO ∧ c < BO ∧ ((Value.slice aO nO cO).ownBlock = none ∨ (Value.slice aO nO cO).ownBlock ≠ (Value.slice aL L.length cL).ownBlock)) (hex : kk < 50) (hx3 : b3 = true → x3.size ≤ 6) (hx5 : b5 = true → x5.size ≤ 2) (hx8 : false = true → x8.size ≤ 6) (hX9 : b9 = true → false = false → RowAt w X9 9 #[.string ⟨#[]⟩, .string ⟨#[32, 120]⟩, .string ⟨#[58, 32, 121]⟩] ∧ B ≤ X9) (hR11 : false = true → R11 < 3) (hx13 : false = true → x13.size ≤ 3) (hX16 : false = true → false = false → RowAt w X16 54 #[.string (x3 ++ x5), .string (x8 ++ x13)] ∧ B ≤ X16) :
    wpOp Tryz.prog rq9O Q 7 (rq9I W0 w0 c a len cap p XR XB B zr y0 y1 y2 y4 aL cL L BO aO nO cO LO kk s1 s4 s6 s7 s8 s9 s10 s11 s12 s13 s14 s15 s16 s17 s18 s19 s20 s21 s22 s23 s24 s25 s26 s27 s28 s29 s30 s31 s32 s33 s34 s35 s36 s37 s38 s39 s40 s41 s42 s43 s44 s45 s46 s47 s48 s49 s50 s51 s52 s53 s54 s55 s56 s57 s58 s59 s60 s61 s62 s63 s64 s65 s66 s67 s68 s69 s70 s71 s72 #[b0, b1, b2, b3, b4, b5, b6, true, false, b9, b10, false, false, false, false, false, false, false, false, false]) { tmps := #[.pointer (some ⟨c, 0, none⟩), s1, .pointer (some ⟨XR, 0, none⟩), .pointer (some ⟨XB, 0, none⟩), s4, .int .i64 (kk : Int), s6, s7, s8, s9, s10, s11, s12, s13, s14, s15, s16, s17, s18, s19, s20, s21, s22, s23, s24, s25, s26, s27, s28, s29, s30, s31, s32, s33, s34, s35, s36, s37, s38, s39, s40, s41, s42, s43, s44, s45, s46, s47, sel b0 (.pointer (some ⟨XB, 3, none⟩)) (s48), sel b1 (.slice aL L.length cL) (s49), sel b2 (.pointer (some ⟨c, 0, none⟩)) (s50), sel b3 (.string x3) (s51), sel b4 (.int .i64 (kk : Int)) (s52), sel b5 (.string x5) (s53), sel b6 (.string (x3 ++ x5)) (s54), s55, s56, sel b9 (.slice (some ⟨X9, 0, none⟩) 3 3) (s57), sel b10 (.pointer (some ⟨c, 0, none⟩)) (s58), s59, s60, s61, s62, s63, s64, s65, s66, s67, s68, s69, s70, s71, s72], defers := [] } w := by
  refine wpOp_step (o := { dst := some 55, op := Op.move (Operand.tmp 0), type := 43, pos := "l10_request.go:383", after := #[], guard := none }) rfl (fun K hK => ?_)
  replace hK := hid hK
  go_simp
  exact hK.out _ _ ⟨b0, b1, b2, b3, b4, b5, b6, true, false, b9, b10, false, false, false, false, false, false, false, false, false, x3, x5, x8, X9, R11, x13, X16, G, CP, pp, rfl, rfl, hS, hp, hg, hbox, hR, hBz, hst, ho1, ho2, hLn, hoO, hex, hx3, hx5, hx8, hX9, hR11, hx13, hX16⟩
set_option maxRecDepth 20000 in
set_option maxHeartbeats 1000000 in
theorem rq9_s8 {Q : Exit → Act → World → Prop} (W0 w0 : World) (c : Nat) (a : Option Addr) (len cap p XR XB B : Nat) (zr : Array Value) (y0 y1 y2 y4 : Value) (aL : Option Addr) (cL : Nat) (L : List Hp) (BO : Nat) (aO : Option Addr) (nO cO : Nat) (LO : List Hp) (kk : Nat) (s1 s4 s6 s7 s8 s9 s10 s11 s12 s13 s14 s15 s16 s17 s18 s19 s20 s21 s22 s23 s24 s25 s26 s27 s28 s29 s30 s31 s32 s33 s34 s35 s36 s37 s38 s39 s40 s41 s42 s43 s44 s45 s46 s47 s48 s49 s50 s51 s52 s53 s54 s55 s56 s57 s58 s59 s60 s61 s62 s63 s64 s65 s66 s67 s68 s69 s70 s71 s72 : Value) (b0 b1 b6 b9 b10 : Bool) (x3 : ByteArray) (x5 : ByteArray) (x8 : ByteArray) (X9 : Nat) (R11 : Nat) (x13 : ByteArray) (X16 : Nat) (G : Nat) (CP : Nat) (pp : Nat) (w : World) (hS : Src W0 w c a len cap pp) (hp : pp ≤ p + 40 * (1 + 0 + 0)) (hg : w0.grownBy w (some c)) (hbox : RowAt w XB 25 (cond false #[y0, y1, y2, .slice (some ⟨G, 0, none⟩) (L.length + 1) CP, y4] #[y0, y1, y2, .slice aL L.length cL, y4])) (hR : RowAt w XR 25 zr) (hBz : B ≤ w.heap.size) (hst : c < XB ∧ c < B ∧ w0.heap.size ≤ B ∧ XR ≠ XB ∧ w0.heap.size ≤ XB ∧ W0.heap.size ≤ c ∧ p ≤ 900000 ∧ c ≠ XR) (ho1 : false = false → OwnHp w B (.slice aL L.length cL) L) (ho2 : false = true → OwnHp w B (.slice (some ⟨G, 0, none⟩) (L.length + 1) CP) (L ++ [(⟨(x3 ++ x5), (x8 ++ x13)⟩ : Hp)])) (hLn : L.length ≤ 1000) (hoO : OwnHp w BO (.slice aO nO cO) LO ∧ c < BO ∧ ((Value.slice aO nO cO).ownBlock = none ∨ (Value.slice aO nO cO).ownBlock ≠ (Value.slice aL L.length cL).ownBlock)) (hex : kk < 50) (hx3 : true = true → x3.size ≤ 6) (hx5 : true = true → x5.size ≤ 2) (hx8 : false = true → x8.size ≤ 6) (hX9 : b9 = true → false = false → RowAt w X9 9 #[.string ⟨#[]⟩, .string ⟨#[32, 120]⟩, .string ⟨#[58, 32, 121]⟩] ∧ B ≤ X9) (hR11 : false = true → R11 < 3) (hx13 : false = true → x13.size ≤ 3) (hX16 : false = true → false = false → RowAt w X16 54 #[.string (x3 ++ x5), .string (x8 ++ x13)] ∧ B ≤ X16) :
    wpOp Tryz.prog rq9O Q 8 (rq9I W0 w0 c a len cap p XR XB B zr y0 y1 y2 y4 aL cL L BO aO nO cO LO kk s1 s4 s6 s7 s8 s9 s10 s11 s12 s13 s14 s15 s16 s17 s18 s19 s20 s21 s22 s23 s24 s25 s26 s27 s28 s29 s30 s31 s32 s33 s34 s35 s36 s37 s38 s39 s40 s41 s42 s43 s44 s45 s46 s47 s48 s49 s50 s51 s52 s53 s54 s55 s56 s57 s58 s59 s60 s61 s62 s63 s64 s65 s66 s67 s68 s69 s70 s71 s72 #[b0, b1, true, true, true, true, b6, true, true, b9, b10, false, false, false, false, false, false, false, false, false]) { tmps := #[.pointer (some ⟨c, 0, none⟩), s1, .pointer (some ⟨XR, 0, none⟩), .pointer (some ⟨XB, 0, none⟩), s4, .int .i64 (kk : Int), s6, s7, s8, s9, s10, s11, s12, s13, s14, s15, s16, s17, s18, s19, s20, s21, s22, s23, s24, s25, s26, s27, s28, s29, s30, s31, s32, s33, s34, s35, s36, s37, s38, s39, s40, s41, s42, s43, s44, s45, s46, s47, sel b0 (.pointer (some ⟨XB, 3, none⟩)) (s48), sel b1 (.slice aL L.length cL) (s49), .pointer (some ⟨c, 0, none⟩), .string x3, .int .i64 (kk : Int), .string x5, sel b6 (.string (x3 ++ x5)) (s54), .pointer (some ⟨c, 0, none⟩), s56, sel b9 (.slice (some ⟨X9, 0, none⟩) 3 3) (s57), sel b10 (.pointer (some ⟨c, 0, none⟩)) (s58), s59, s60, s61, s62, s63, s64, s65, s66, s67, s68, s69, s70, s71, s72], defers := [] } w := by
  have hcB : c < B := by omega
  refine wpOp_step (o := { dst := some 56, op := Op.call { callee := Callee.value (Operand.func 81), args := #[Operand.tmp 55], argTypes := #[43] }, type := 9, pos := "l10_request.go:383", after := #[{ on := 7, ground := Ground.data }, { on := 5, ground := Ground.chain }], guard := none }) rfl (fun K hK => ?_)
  replace hK := hid hK
  go_simp
  refine (word_all W0 _ c a len cap pp hS (by omega)).mono ?_
  rintro e w2 ⟨⟨t2, rfl, ht2⟩, ⟨p3, hs2, hp3⟩, hg2⟩
  dsimp only
  exact hK.out _ _ ⟨b0, b1, true, true, true, true, b6, true, true, b9, b10, false, false, false, false, false, false, false, false, false, x3, x5, t2, X9, R11, x13, X16, G, CP, p3, rfl, rfl, hs2, by show p3 ≤ p + 40 * (1 + 1 + 0); omega, grown_trans hg hg2, rowF hbox hg2 hst.1, rowF2 hR hg2 hst.2.2.2.2.2.2.2, Nat.le_trans hBz hg2.size, hst, fun h => OwnHp.keptC (ho1 h) hg2 (by omega), fun h => Bool.noConfusion h, hLn, ⟨OwnHp.keptC hoO.1 hg2 hoO.2.1, hoO.2⟩, hex, hx3, hx5, fun _ => ht2, fun h e => ⟨rowF (hX9 h e).1 hg2 (by have := (hX9 h e).2; omega), (hX9 h e).2⟩, hR11, hx13, fun h => Bool.noConfusion h⟩
set_option maxRecDepth 20000 in
set_option maxHeartbeats 1000000 in
theorem rq9_s9 {Q : Exit → Act → World → Prop} (W0 w0 : World) (c : Nat) (a : Option Addr) (len cap p XR XB B : Nat) (zr : Array Value) (y0 y1 y2 y4 : Value) (aL : Option Addr) (cL : Nat) (L : List Hp) (BO : Nat) (aO : Option Addr) (nO cO : Nat) (LO : List Hp) (kk : Nat) (s1 s4 s6 s7 s8 s9 s10 s11 s12 s13 s14 s15 s16 s17 s18 s19 s20 s21 s22 s23 s24 s25 s26 s27 s28 s29 s30 s31 s32 s33 s34 s35 s36 s37 s38 s39 s40 s41 s42 s43 s44 s45 s46 s47 s48 s49 s50 s51 s52 s53 s54 s55 s56 s57 s58 s59 s60 s61 s62 s63 s64 s65 s66 s67 s68 s69 s70 s71 s72 : Value) (b0 b1 b2 b3 b4 b5 b6 b7 b8 b10 b11 : Bool) (x3 : ByteArray) (x5 : ByteArray) (x8 : ByteArray) (X9 : Nat) (R11 : Nat) (x13 : ByteArray) (X16 : Nat) (G : Nat) (CP : Nat) (pp : Nat) (w : World) (hS : Src W0 w c a len cap pp) (hp : pp ≤ p + 40 * (b3.toNat + b8.toNat + b11.toNat)) (hg : w0.grownBy w (some c)) (hbox : RowAt w XB 25 (cond false #[y0, y1, y2, .slice (some ⟨G, 0, none⟩) (L.length + 1) CP, y4] #[y0, y1, y2, .slice aL L.length cL, y4])) (hR : RowAt w XR 25 zr) (hBz : B ≤ w.heap.size) (hst : c < XB ∧ c < B ∧ w0.heap.size ≤ B ∧ XR ≠ XB ∧ w0.heap.size ≤ XB ∧ W0.heap.size ≤ c ∧ p ≤ 900000 ∧ c ≠ XR) (ho1 : false = false → OwnHp w B (.slice aL L.length cL) L) (ho2 : false = true → OwnHp w B (.slice (some ⟨G, 0, none⟩) (L.length + 1) CP) (L ++ [(⟨(x3 ++ x5), (x8 ++ x13)⟩ : Hp)])) (hLn : L.length ≤ 1000) (hoO : OwnHp w BO (.slice aO nO cO) LO ∧ c < BO ∧ ((Value.slice aO nO cO).ownBlock = none ∨ (Value.slice aO nO cO).ownBlock ≠ (Value.slice aL L.length cL).ownBlock)) (hex : kk < 50) (hx3 : b3 = true → x3.size ≤ 6) (hx5 : b5 = true → x5.size ≤ 2) (hx8 : b8 = true → x8.size ≤ 6) (hX9 : false = true → false = false → RowAt w X9 9 #[.string ⟨#[]⟩, .string ⟨#[32, 120]⟩, .string ⟨#[58, 32, 121]⟩] ∧ B ≤ X9) (hR11 : b11 = true → R11 < 3) (hx13 : false = true → x13.size ≤ 3) (hX16 : false = true → false = false → RowAt w X16 54 #[.string (x3 ++ x5), .string (x8 ++ x13)] ∧ B ≤ X16) :
    wpOp Tryz.prog rq9O Q 9 (rq9I W0 w0 c a len cap p XR XB B zr y0 y1 y2 y4 aL cL L BO aO nO cO LO kk s1 s4 s6 s7 s8 s9 s10 s11 s12 s13 s14 s15 s16 s17 s18 s19 s20 s21 s22 s23 s24 s25 s26 s27 s28 s29 s30 s31 s32 s33 s34 s35 s36 s37 s38 s39 s40 s41 s42 s43 s44 s45 s46 s47 s48 s49 s50 s51 s52 s53 s54 s55 s56 s57 s58 s59 s60 s61 s62 s63 s64 s65 s66 s67 s68 s69 s70 s71 s72 #[b0, b1, b2, b3, b4, b5, b6, b7, b8, true, b10, b11, false, false, false, false, false, false, false, false]) { tmps := #[.pointer (some ⟨c, 0, none⟩), s1, .pointer (some ⟨XR, 0, none⟩), .pointer (some ⟨XB, 0, none⟩), s4, .int .i64 (kk : Int), s6, s7, s8, s9, s10, s11, s12, s13, s14, s15, s16, s17, s18, s19, s20, s21, s22, s23, s24, s25, s26, s27, s28, s29, s30, s31, s32, s33, s34, s35, s36, s37, s38, s39, s40, s41, s42, s43, s44, s45, s46, s47, sel b0 (.pointer (some ⟨XB, 3, none⟩)) (s48), sel b1 (.slice aL L.length cL) (s49), sel b2 (.pointer (some ⟨c, 0, none⟩)) (s50), sel b3 (.string x3) (s51), sel b4 (.int .i64 (kk : Int)) (s52), sel b5 (.string x5) (s53), sel b6 (.string (x3 ++ x5)) (s54), sel b7 (.pointer (some ⟨c, 0, none⟩)) (s55), sel b8 (.string x8) (s56), s57, sel b10 (.pointer (some ⟨c, 0, none⟩)) (s58), sel b11 (.int .i64 (R11 : Int)) (s59), s60, s61, s62, s63, s64, s65, s66, s67, s68, s69, s70, s71, s72], defers := [] } w := by
  refine wpOp_step (o := { dst := some 57, op := Op.buildSlice 86 3 #[(0, Operand.const (Value.string { data := #[] })), (1, Operand.const (Value.string { data := #[32, 120] })), (2, Operand.const (Value.string { data := #[58, 32, 121] }))], type := 86, pos := "l10_request.go:383", after := #[], guard := none }) rfl (fun K hK => ?_)
  replace hK := hid hK
  go_simp
  exact hK.out _ _ ⟨b0, b1, b2, b3, b4, b5, b6, b7, b8, true, b10, b11, false, false, false, false, false, false, false, false, x3, x5, x8, w.heap.size, R11, x13, X16, G, CP, pp, rfl, rfl, hS.alloc _, hp, grown_al hg _, hbox.alloc _, hR.alloc _, by simp only [World.size_alloc]; omega, hst, fun h => World.ownsRow.alloc (ho1 h) _, fun h => Bool.noConfusion h, hLn, ⟨World.ownsRow.alloc hoO.1 _, hoO.2⟩, hex, hx3, hx5, hx8, fun _ _ => ⟨RowAt.new w _ _, hBz⟩, hR11, hx13, fun h => Bool.noConfusion h⟩
set_option maxRecDepth 20000 in
set_option maxHeartbeats 1000000 in
theorem rq9_s10 {Q : Exit → Act → World → Prop} (W0 w0 : World) (c : Nat) (a : Option Addr) (len cap p XR XB B : Nat) (zr : Array Value) (y0 y1 y2 y4 : Value) (aL : Option Addr) (cL : Nat) (L : List Hp) (BO : Nat) (aO : Option Addr) (nO cO : Nat) (LO : List Hp) (kk : Nat) (s1 s4 s6 s7 s8 s9 s10 s11 s12 s13 s14 s15 s16 s17 s18 s19 s20 s21 s22 s23 s24 s25 s26 s27 s28 s29 s30 s31 s32 s33 s34 s35 s36 s37 s38 s39 s40 s41 s42 s43 s44 s45 s46 s47 s48 s49 s50 s51 s52 s53 s54 s55 s56 s57 s58 s59 s60 s61 s62 s63 s64 s65 s66 s67 s68 s69 s70 s71 s72 : Value) (b0 b1 b2 b3 b4 b5 b6 b7 b8 b9 : Bool) (x3 : ByteArray) (x5 : ByteArray) (x8 : ByteArray) (X9 : Nat) (R11 : Nat) (x13 : ByteArray) (X16 : Nat) (G : Nat) (CP : Nat) (pp : Nat) (w : World) (hS : Src W0 w c a len cap pp) (hp : pp ≤ p + 40 * (b3.toNat + b8.toNat + 0)) (hg : w0.grownBy w (some c)) (hbox : RowAt w XB 25 (cond false #[y0, y1, y2, .slice (some ⟨G, 0, none⟩) (L.length + 1) CP, y4] #[y0, y1, y2, .slice aL L.length cL, y4])) (hR : RowAt w XR 25 zr) (hBz : B ≤ w.heap.size) (hst : c < XB ∧ c < B ∧ w0.heap.size ≤ B ∧ XR ≠ XB ∧ w0.heap.size ≤ XB ∧ W0.heap.size ≤ c ∧ p ≤ 900000 ∧ c ≠ XR) (ho1 : false = false → OwnHp w B (.slice aL L.length cL) L) (ho2 : false = true → OwnHp w B (.slice (some ⟨G, 0, none⟩) (L.length + 1) CP) (L ++ [(⟨(x3 ++ x5), (x8 ++ x13)⟩ : Hp)])) (hLn : L.length ≤ 1000) (hoO : OwnHp w BO (.slice aO nO cO) LO ∧ c < BO ∧ ((Value.slice aO nO cO).ownBlock = none ∨ (Value.slice aO nO cO).ownBlock ≠ (Value.slice aL L.length cL).ownBlock)) (hex : kk < 50) (hx3 : b3 = true → x3.size ≤ 6) (hx5 : b5 = true → x5.size ≤ 2) (hx8 : b8 = true → x8.size ≤ 6) (hX9 : b9 = true → false = false → RowAt w X9 9 #[.string ⟨#[]⟩, .string ⟨#[32, 120]⟩, .string ⟨#[58, 32, 121]⟩] ∧ B ≤ X9) (hR11 : false = true → R11 < 3) (hx13 : false = true → x13.size ≤ 3) (hX16 : false = true → false = false → RowAt w X16 54 #[.string (x3 ++ x5), .string (x8 ++ x13)] ∧ B ≤ X16) :
    wpOp Tryz.prog rq9O Q 10 (rq9I W0 w0 c a len cap p XR XB B zr y0 y1 y2 y4 aL cL L BO aO nO cO LO kk s1 s4 s6 s7 s8 s9 s10 s11 s12 s13 s14 s15 s16 s17 s18 s19 s20 s21 s22 s23 s24 s25 s26 s27 s28 s29 s30 s31 s32 s33 s34 s35 s36 s37 s38 s39 s40 s41 s42 s43 s44 s45 s46 s47 s48 s49 s50 s51 s52 s53 s54 s55 s56 s57 s58 s59 s60 s61 s62 s63 s64 s65 s66 s67 s68 s69 s70 s71 s72 #[b0, b1, b2, b3, b4, b5, b6, b7, b8, b9, true, false, false, false, false, false, false, false, false, false]) { tmps := #[.pointer (some ⟨c, 0, none⟩), s1, .pointer (some ⟨XR, 0, none⟩), .pointer (some ⟨XB, 0, none⟩), s4, .int .i64 (kk : Int), s6, s7, s8, s9, s10, s11, s12, s13, s14, s15, s16, s17, s18, s19, s20, s21, s22, s23, s24, s25, s26, s27, s28, s29, s30, s31, s32, s33, s34, s35, s36, s37, s38, s39, s40, s41, s42, s43, s44, s45, s46, s47, sel b0 (.pointer (some ⟨XB, 3, none⟩)) (s48), sel b1 (.slice aL L.length cL) (s49), sel b2 (.pointer (some ⟨c, 0, none⟩)) (s50), sel b3 (.string x3) (s51), sel b4 (.int .i64 (kk : Int)) (s52), sel b5 (.string x5) (s53), sel b6 (.string (x3 ++ x5)) (s54), sel b7 (.pointer (some ⟨c, 0, none⟩)) (s55), sel b8 (.string x8) (s56), sel b9 (.slice (some ⟨X9, 0, none⟩) 3 3) (s57), s58, s59, s60, s61, s62, s63, s64, s65, s66, s67, s68, s69, s70, s71, s72], defers := [] } w := by
  refine wpOp_step (o := { dst := some 58, op := Op.move (Operand.tmp 0), type := 43, pos := "l10_request.go:383", after := #[], guard := none }) rfl (fun K hK => ?_)
  replace hK := hid hK
  go_simp
  exact hK.out _ _ ⟨b0, b1, b2, b3, b4, b5, b6, b7, b8, b9, true, false, false, false, false, false, false, false, false, false, x3, x5, x8, X9, R11, x13, X16, G, CP, pp, rfl, rfl, hS, hp, hg, hbox, hR, hBz, hst, ho1, ho2, hLn, hoO, hex, hx3, hx5, hx8, hX9, hR11, hx13, hX16⟩
set_option maxRecDepth 20000 in
set_option maxHeartbeats 1000000 in
theorem rq9_s11 {Q : Exit → Act → World → Prop} (W0 w0 : World) (c : Nat) (a : Option Addr) (len cap p XR XB B : Nat) (zr : Array Value) (y0 y1 y2 y4 : Value) (aL : Option Addr) (cL : Nat) (L : List Hp) (BO : Nat) (aO : Option Addr) (nO cO : Nat) (LO : List Hp) (kk : Nat) (s1 s4 s6 s7 s8 s9 s10 s11 s12 s13 s14 s15 s16 s17 s18 s19 s20 s21 s22 s23 s24 s25 s26 s27 s28 s29 s30 s31 s32 s33 s34 s35 s36 s37 s38 s39 s40 s41 s42 s43 s44 s45 s46 s47 s48 s49 s50 s51 s52 s53 s54 s55 s56 s57 s58 s59 s60 s61 s62 s63 s64 s65 s66 s67 s68 s69 s70 s71 s72 : Value) (b0 b1 b6 b9 : Bool) (x3 : ByteArray) (x5 : ByteArray) (x8 : ByteArray) (X9 : Nat) (R11 : Nat) (x13 : ByteArray) (X16 : Nat) (G : Nat) (CP : Nat) (pp : Nat) (w : World) (hS : Src W0 w c a len cap pp) (hp : pp ≤ p + 40 * (1 + 1 + 0)) (hg : w0.grownBy w (some c)) (hbox : RowAt w XB 25 (cond false #[y0, y1, y2, .slice (some ⟨G, 0, none⟩) (L.length + 1) CP, y4] #[y0, y1, y2, .slice aL L.length cL, y4])) (hR : RowAt w XR 25 zr) (hBz : B ≤ w.heap.size) (hst : c < XB ∧ c < B ∧ w0.heap.size ≤ B ∧ XR ≠ XB ∧ w0.heap.size ≤ XB ∧ W0.heap.size ≤ c ∧ p ≤ 900000 ∧ c ≠ XR) (ho1 : false = false → OwnHp w B (.slice aL L.length cL) L) (ho2 : false = true → OwnHp w B (.slice (some ⟨G, 0, none⟩) (L.length + 1) CP) (L ++ [(⟨(x3 ++ x5), (x8 ++ x13)⟩ : Hp)])) (hLn : L.length ≤ 1000) (hoO : OwnHp w BO (.slice aO nO cO) LO ∧ c < BO ∧ ((Value.slice aO nO cO).ownBlock = none ∨ (Value.slice aO nO cO).ownBlock ≠ (Value.slice aL L.length cL).ownBlock)) (hex : kk < 50) (hx3 : true = true → x3.size ≤ 6) (hx5 : true = true → x5.size ≤ 2) (hx8 : true = true → x8.size ≤ 6) (hX9 : b9 = true → false = false → RowAt w X9 9 #[.string ⟨#[]⟩, .string ⟨#[32, 120]⟩, .string ⟨#[58, 32, 121]⟩] ∧ B ≤ X9) (hR11 : false = true → R11 < 3) (hx13 : false = true → x13.size ≤ 3) (hX16 : false = true → false = false → RowAt w X16 54 #[.string (x3 ++ x5), .string (x8 ++ x13)] ∧ B ≤ X16) :
    wpOp Tryz.prog rq9O Q 11 (rq9I W0 w0 c a len cap p XR XB B zr y0 y1 y2 y4 aL cL L BO aO nO cO LO kk s1 s4 s6 s7 s8 s9 s10 s11 s12 s13 s14 s15 s16 s17 s18 s19 s20 s21 s22 s23 s24 s25 s26 s27 s28 s29 s30 s31 s32 s33 s34 s35 s36 s37 s38 s39 s40 s41 s42 s43 s44 s45 s46 s47 s48 s49 s50 s51 s52 s53 s54 s55 s56 s57 s58 s59 s60 s61 s62 s63 s64 s65 s66 s67 s68 s69 s70 s71 s72 #[b0, b1, true, true, true, true, b6, true, true, b9, true, true, false, false, false, false, false, false, false, false]) { tmps := #[.pointer (some ⟨c, 0, none⟩), s1, .pointer (some ⟨XR, 0, none⟩), .pointer (some ⟨XB, 0, none⟩), s4, .int .i64 (kk : Int), s6, s7, s8, s9, s10, s11, s12, s13, s14, s15, s16, s17, s18, s19, s20, s21, s22, s23, s24, s25, s26, s27, s28, s29, s30, s31, s32, s33, s34, s35, s36, s37, s38, s39, s40, s41, s42, s43, s44, s45, s46, s47, sel b0 (.pointer (some ⟨XB, 3, none⟩)) (s48), sel b1 (.slice aL L.length cL) (s49), .pointer (some ⟨c, 0, none⟩), .string x3, .int .i64 (kk : Int), .string x5, sel b6 (.string (x3 ++ x5)) (s54), .pointer (some ⟨c, 0, none⟩), .string x8, sel b9 (.slice (some ⟨X9, 0, none⟩) 3 3) (s57), .pointer (some ⟨c, 0, none⟩), s59, s60, s61, s62, s63, s64, s65, s66, s67, s68, s69, s70, s71, s72], defers := [] } w := by
  have hcB : c < B := by omega
  refine wpOp_step (o := { dst := some 59, op := Op.call { callee := Callee.value (Operand.func 52), args := #[Operand.tmp 58, Operand.const (Value.int IntKind.i64 3)], argTypes := #[43, 2] }, type := 2, pos := "l10_request.go:383", after := #[{ on := 10, ground := Ground.data }, { on := 8, ground := Ground.chain }], guard := none }) rfl (fun K hK => ?_)
  replace hK := hid hK
  go_simp
  refine (n_all W0 _ c a len cap pp 3 hS (by omega) (by omega) (by omega)).mono ?_
  rintro e w2 ⟨⟨r, rfl, h20, h21⟩, hs2, hg2⟩
  obtain ⟨R, rfl⟩ := Int.eq_ofNat_of_zero_le h20
  dsimp only
  exact hK.out _ _ ⟨b0, b1, true, true, true, true, b6, true, true, b9, true, true, false, false, false, false, false, false, false, false, x3, x5, x8, X9, R, x13, X16, G, CP, pp + 1, rfl, rfl, hs2, by show pp + 1 ≤ p + 40 * (1 + 1 + 1); omega, grown_trans hg hg2, rowF hbox hg2 hst.1, rowF2 hR hg2 hst.2.2.2.2.2.2.2, Nat.le_trans hBz hg2.size, hst, fun h => OwnHp.keptC (ho1 h) hg2 (by omega), fun h => Bool.noConfusion h, hLn, ⟨OwnHp.keptC hoO.1 hg2 hoO.2.1, hoO.2⟩, hex, hx3, hx5, hx8, fun h e => ⟨rowF (hX9 h e).1 hg2 (by have := (hX9 h e).2; omega), (hX9 h e).2⟩, fun _ => by omega, hx13, fun h => Bool.noConfusion h⟩
set_option maxRecDepth 20000 in
set_option maxHeartbeats 1000000 in
theorem rq9_s12 {Q : Exit → Act → World → Prop} (W0 w0 : World) (c : Nat) (a : Option Addr) (len cap p XR XB B : Nat) (zr : Array Value) (y0 y1 y2 y4 : Value) (aL : Option Addr) (cL : Nat) (L : List Hp) (BO : Nat) (aO : Option Addr) (nO cO : Nat) (LO : List Hp) (kk : Nat) (s1 s4 s6 s7 s8 s9 s10 s11 s12 s13 s14 s15 s16 s17 s18 s19 s20 s21 s22 s23 s24 s25 s26 s27 s28 s29 s30 s31 s32 s33 s34 s35 s36 s37 s38 s39 s40 s41 s42 s43 s44 s45 s46 s47 s48 s49 s50 s51 s52 s53 s54 s55 s56 s57 s58 s59 s60 s61 s62 s63 s64 s65 s66 s67 s68 s69 s70 s71 s72 : Value) (b0 b1 b6 : Bool) (x3 : ByteArray) (x5 : ByteArray) (x8 : ByteArray) (X9 : Nat) (R11 : Nat) (x13 : ByteArray) (X16 : Nat) (G : Nat) (CP : Nat) (pp : Nat) (w : World) (hS : Src W0 w c a len cap pp) (hp : pp ≤ p + 40 * (1 + 1 + 1)) (hg : w0.grownBy w (some c)) (hbox : RowAt w XB 25 (cond false #[y0, y1, y2, .slice (some ⟨G, 0, none⟩) (L.length + 1) CP, y4] #[y0, y1, y2, .slice aL L.length cL, y4])) (hR : RowAt w XR 25 zr) (hBz : B ≤ w.heap.size) (hst : c < XB ∧ c < B ∧ w0.heap.size ≤ B ∧ XR ≠ XB ∧ w0.heap.size ≤ XB ∧ W0.heap.size ≤ c ∧ p ≤ 900000 ∧ c ≠ XR) (ho1 : false = false → OwnHp w B (.slice aL L.length cL) L) (ho2 : false = true → OwnHp w B (.slice (some ⟨G, 0, none⟩) (L.length + 1) CP) (L ++ [(⟨(x3 ++ x5), (x8 ++ x13)⟩ : Hp)])) (hLn : L.length ≤ 1000) (hoO : OwnHp w BO (.slice aO nO cO) LO ∧ c < BO ∧ ((Value.slice aO nO cO).ownBlock = none ∨ (Value.slice aO nO cO).ownBlock ≠ (Value.slice aL L.length cL).ownBlock)) (hex : kk < 50) (hx3 : true = true → x3.size ≤ 6) (hx5 : true = true → x5.size ≤ 2) (hx8 : true = true → x8.size ≤ 6) (hX9 : true = true → false = false → RowAt w X9 9 #[.string ⟨#[]⟩, .string ⟨#[32, 120]⟩, .string ⟨#[58, 32, 121]⟩] ∧ B ≤ X9) (hR11 : true = true → R11 < 3) (hx13 : false = true → x13.size ≤ 3) (hX16 : false = true → false = false → RowAt w X16 54 #[.string (x3 ++ x5), .string (x8 ++ x13)] ∧ B ≤ X16) :
    wpOp Tryz.prog rq9O Q 12 (rq9I W0 w0 c a len cap p XR XB B zr y0 y1 y2 y4 aL cL L BO aO nO cO LO kk s1 s4 s6 s7 s8 s9 s10 s11 s12 s13 s14 s15 s16 s17 s18 s19 s20 s21 s22 s23 s24 s25 s26 s27 s28 s29 s30 s31 s32 s33 s34 s35 s36 s37 s38 s39 s40 s41 s42 s43 s44 s45 s46 s47 s48 s49 s50 s51 s52 s53 s54 s55 s56 s57 s58 s59 s60 s61 s62 s63 s64 s65 s66 s67 s68 s69 s70 s71 s72 #[b0, b1, true, true, true, true, b6, true, true, true, true, true, true, false, false, false, false, false, false, false]) { tmps := #[.pointer (some ⟨c, 0, none⟩), s1, .pointer (some ⟨XR, 0, none⟩), .pointer (some ⟨XB, 0, none⟩), s4, .int .i64 (kk : Int), s6, s7, s8, s9, s10, s11, s12, s13, s14, s15, s16, s17, s18, s19, s20, s21, s22, s23, s24, s25, s26, s27, s28, s29, s30, s31, s32, s33, s34, s35, s36, s37, s38, s39, s40, s41, s42, s43, s44, s45, s46, s47, sel b0 (.pointer (some ⟨XB, 3, none⟩)) (s48), sel b1 (.slice aL L.length cL) (s49), .pointer (some ⟨c, 0, none⟩), .string x3, .int .i64 (kk : Int), .string x5, sel b6 (.string (x3 ++ x5)) (s54), .pointer (some ⟨c, 0, none⟩), .string x8, .slice (some ⟨X9, 0, none⟩) 3 3, .pointer (some ⟨c, 0, none⟩), .int .i64 (R11 : Int), s60, s61, s62, s63, s64, s65, s66, s67, s68, s69, s70, s71, s72], defers := [] } w := by
  have r := hR11 rfl
  have r0 : (R11 : Int) < 3 := by omega
  refine wpOp_step (o := { dst := some 60, op := Op.indexAddr 86 (Operand.tmp 57) (Operand.tmp 59), type := 0, pos := "l10_request.go:383", after := #[{ on := 9, ground := Ground.data }, { on := 11, ground := Ground.data }], guard := none }) rfl (fun K hK => ?_)
  replace hK := hid hK
  go_simp
  exact hK.out _ _ ⟨b0, b1, true, true, true, true, b6, true, true, true, true, true, true, false, false, false, false, false, false, false, x3, x5, x8, X9, R11, x13, X16, G, CP, pp, rfl, rfl, hS, hp, hg, hbox, hR, hBz, hst, ho1, ho2, hLn, hoO, hex, hx3, hx5, hx8, hX9, hR11, hx13, hX16⟩
set_option maxRecDepth 20000 in
set_option maxHeartbeats 1000000 in
theorem rq9_s13 {Q : Exit → Act → World → Prop} (W0 w0 : World) (c : Nat) (a : Option Addr) (len cap p XR XB B : Nat) (zr : Array Value) (y0 y1 y2 y4 : Value) (aL : Option Addr) (cL : Nat) (L : List Hp) (BO : Nat) (aO : Option Addr) (nO cO : Nat) (LO : List Hp) (kk : Nat) (s1 s4 s6 s7 s8 s9 s10 s11 s12 s13 s14 s15 s16 s17 s18 s19 s20 s21 s22 s23 s24 s25 s26 s27 s28 s29 s30 s31 s32 s33 s34 s35 s36 s37 s38 s39 s40 s41 s42 s43 s44 s45 s46 s47 s48 s49 s50 s51 s52 s53 s54 s55 s56 s57 s58 s59 s60 s61 s62 s63 s64 s65 s66 s67 s68 s69 s70 s71 s72 : Value) (b0 b1 b6 : Bool) (x3 : ByteArray) (x5 : ByteArray) (x8 : ByteArray) (X9 : Nat) (R11 : Nat) (x13 : ByteArray) (X16 : Nat) (G : Nat) (CP : Nat) (pp : Nat) (w : World) (hS : Src W0 w c a len cap pp) (hp : pp ≤ p + 40 * (1 + 1 + 1)) (hg : w0.grownBy w (some c)) (hbox : RowAt w XB 25 (cond false #[y0, y1, y2, .slice (some ⟨G, 0, none⟩) (L.length + 1) CP, y4] #[y0, y1, y2, .slice aL L.length cL, y4])) (hR : RowAt w XR 25 zr) (hBz : B ≤ w.heap.size) (hst : c < XB ∧ c < B ∧ w0.heap.size ≤ B ∧ XR ≠ XB ∧ w0.heap.size ≤ XB ∧ W0.heap.size ≤ c ∧ p ≤ 900000 ∧ c ≠ XR) (ho1 : false = false → OwnHp w B (.slice aL L.length cL) L) (ho2 : false = true → OwnHp w B (.slice (some ⟨G, 0, none⟩) (L.length + 1) CP) (L ++ [(⟨(x3 ++ x5), (x8 ++ x13)⟩ : Hp)])) (hLn : L.length ≤ 1000) (hoO : OwnHp w BO (.slice aO nO cO) LO ∧ c < BO ∧ ((Value.slice aO nO cO).ownBlock = none ∨ (Value.slice aO nO cO).ownBlock ≠ (Value.slice aL L.length cL).ownBlock)) (hex : kk < 50) (hx3 : true = true → x3.size ≤ 6) (hx5 : true = true → x5.size ≤ 2) (hx8 : true = true → x8.size ≤ 6) (hX9 : true = true → false = false → RowAt w X9 9 #[.string ⟨#[]⟩, .string ⟨#[32, 120]⟩, .string ⟨#[58, 32, 121]⟩] ∧ B ≤ X9) (hR11 : true = true → R11 < 3) (hx13 : false = true → x13.size ≤ 3) (hX16 : false = true → false = false → RowAt w X16 54 #[.string (x3 ++ x5), .string (x8 ++ x13)] ∧ B ≤ X16) :
    wpOp Tryz.prog rq9O Q 13 (rq9I W0 w0 c a len cap p XR XB B zr y0 y1 y2 y4 aL cL L BO aO nO cO LO kk s1 s4 s6 s7 s8 s9 s10 s11 s12 s13 s14 s15 s16 s17 s18 s19 s20 s21 s22 s23 s24 s25 s26 s27 s28 s29 s30 s31 s32 s33 s34 s35 s36 s37 s38 s39 s40 s41 s42 s43 s44 s45 s46 s47 s48 s49 s50 s51 s52 s53 s54 s55 s56 s57 s58 s59 s60 s61 s62 s63 s64 s65 s66 s67 s68 s69 s70 s71 s72 #[b0, b1, true, true, true, true, b6, true, true, true, true, true, true, true, false, false, false, false, false, false]) { tmps := #[.pointer (some ⟨c, 0, none⟩), s1, .pointer (some ⟨XR, 0, none⟩), .pointer (some ⟨XB, 0, none⟩), s4, .int .i64 (kk : Int), s6, s7, s8, s9, s10, s11, s12, s13, s14, s15, s16, s17, s18, s19, s20, s21, s22, s23, s24, s25, s26, s27, s28, s29, s30, s31, s32, s33, s34, s35, s36, s37, s38, s39, s40, s41, s42, s43, s44, s45, s46, s47, sel b0 (.pointer (some ⟨XB, 3, none⟩)) (s48), sel b1 (.slice aL L.length cL) (s49), .pointer (some ⟨c, 0, none⟩), .string x3, .int .i64 (kk : Int), .string x5, sel b6 (.string (x3 ++ x5)) (s54), .pointer (some ⟨c, 0, none⟩), .string x8, .slice (some ⟨X9, 0, none⟩) 3 3, .pointer (some ⟨c, 0, none⟩), .int .i64 (R11 : Int), .pointer (some ⟨X9, R11, none⟩), s61, s62, s63, s64, s65, s66, s67, s68, s69, s70, s71, s72], defers := [] } w := by
  obtain ⟨tt, hk2, htt⟩ := rq9_tab9  R11 (hR11 rfl)
  have c2 := ((hX9 rfl rfl).1.cell R11).trans hk2
  refine wpOp_step (o := { dst := some 61, op := Op.load 9 (Operand.tmp 60), type := 9, pos := "l10_request.go:383", after := #[{ on := 12, ground := Ground.data }], guard := none }) rfl (fun K hK => ?_)
  replace hK := hid hK
  go_simp
  exact hK.out _ _ ⟨b0, b1, true, true, true, true, b6, true, true, true, true, true, true, true, false, false, false, false, false, false, x3, x5, x8, X9, R11, tt, X16, G, CP, pp, rfl, rfl, hS, hp, hg, hbox, hR, hBz, hst, ho1, fun h => Bool.noConfusion h, hLn, hoO, hex, hx3, hx5, hx8, hX9, hR11, fun _ => htt, fun h => Bool.noConfusion h⟩
set_option maxRecDepth 20000 in
set_option maxHeartbeats 1000000 in
theorem rq9_s14 {Q : Exit → Act → World → Prop} (W0 w0 : World) (c : Nat) (a : Option Addr) (len cap p XR XB B : Nat) (zr : Array Value) (y0 y1 y2 y4 : Value) (aL : Option Addr) (cL : Nat) (L : List Hp) (BO : Nat) (aO : Option Addr) (nO cO : Nat) (LO : List Hp) (kk : Nat) (s1 s4 s6 s7 s8 s9 s10 s11 s12 s13 s14 s15 s16 s17 s18 s19 s20 s21 s22 s23 s24 s25 s26 s27 s28 s29 s30 s31 s32 s33 s34 s35 s36 s37 s38 s39 s40 s41 s42 s43 s44 s45 s46 s47 s48 s49 s50 s51 s52 s53 s54 s55 s56 s57 s58 s59 s60 s61 s62 s63 s64 s65 s66 s67 s68 s69 s70 s71 s72 : Value) (b0 b1 b6 : Bool) (x3 : ByteArray) (x5 : ByteArray) (x8 : ByteArray) (X9 : Nat) (R11 : Nat) (x13 : ByteArray) (X16 : Nat) (G : Nat) (CP : Nat) (pp : Nat) (w : World) (hS : Src W0 w c a len cap pp) (hp : pp ≤ p + 40 * (1 + 1 + 1)) (hg : w0.grownBy w (some c)) (hbox : RowAt w XB 25 (cond false #[y0, y1, y2, .slice (some ⟨G, 0, none⟩) (L.length + 1) CP, y4] #[y0, y1, y2, .slice aL L.length cL, y4])) (hR : RowAt w XR 25 zr) (hBz : B ≤ w.heap.size) (hst : c < XB ∧ c < B ∧ w0.heap.size ≤ B ∧ XR ≠ XB ∧ w0.heap.size ≤ XB ∧ W0.heap.size ≤ c ∧ p ≤ 900000 ∧ c ≠ XR) (ho1 : false = false → OwnHp w B (.slice aL L.length cL) L) (ho2 : false = true → OwnHp w B (.slice (some ⟨G, 0, none⟩) (L.length + 1) CP) (L ++ [(⟨(x3 ++ x5), (x8 ++ x13)⟩ : Hp)])) (hLn : L.length ≤ 1000) (hoO : OwnHp w BO (.slice aO nO cO) LO ∧ c < BO ∧ ((Value.slice aO nO cO).ownBlock = none ∨ (Value.slice aO nO cO).ownBlock ≠ (Value.slice aL L.length cL).ownBlock)) (hex : kk < 50) (hx3 : true = true → x3.size ≤ 6) (hx5 : true = true → x5.size ≤ 2) (hx8 : true = true → x8.size ≤ 6) (hX9 : true = true → false = false → RowAt w X9 9 #[.string ⟨#[]⟩, .string ⟨#[32, 120]⟩, .string ⟨#[58, 32, 121]⟩] ∧ B ≤ X9) (hR11 : true = true → R11 < 3) (hx13 : true = true → x13.size ≤ 3) (hX16 : false = true → false = false → RowAt w X16 54 #[.string (x3 ++ x5), .string (x8 ++ x13)] ∧ B ≤ X16) :
    wpOp Tryz.prog rq9O Q 14 (rq9I W0 w0 c a len cap p XR XB B zr y0 y1 y2 y4 aL cL L BO aO nO cO LO kk s1 s4 s6 s7 s8 s9 s10 s11 s12 s13 s14 s15 s16 s17 s18 s19 s20 s21 s22 s23 s24 s25 s26 s27 s28 s29 s30 s31 s32 s33 s34 s35 s36 s37 s38 s39 s40 s41 s42 s43 s44 s45 s46 s47 s48 s49 s50 s51 s52 s53 s54 s55 s56 s57 s58 s59 s60 s61 s62 s63 s64 s65 s66 s67 s68 s69 s70 s71 s72 #[b0, b1, true, true, true, true, b6, true, true, true, true, true, true, true, true, false, false, false, false, false]) { tmps := #[.pointer (some ⟨c, 0, none⟩), s1, .pointer (some ⟨XR, 0, none⟩), .pointer (some ⟨XB, 0, none⟩), s4, .int .i64 (kk : Int), s6, s7, s8, s9, s10, s11, s12, s13, s14, s15, s16, s17, s18, s19, s20, s21, s22, s23, s24, s25, s26, s27, s28, s29, s30, s31, s32, s33, s34, s35, s36, s37, s38, s39, s40, s41, s42, s43, s44, s45, s46, s47, sel b0 (.pointer (some ⟨XB, 3, none⟩)) (s48), sel b1 (.slice aL L.length cL) (s49), .pointer (some ⟨c, 0, none⟩), .string x3, .int .i64 (kk : Int), .string x5, sel b6 (.string (x3 ++ x5)) (s54), .pointer (some ⟨c, 0, none⟩), .string x8, .slice (some ⟨X9, 0, none⟩) 3 3, .pointer (some ⟨c, 0, none⟩), .int .i64 (R11 : Int), .pointer (some ⟨X9, R11, none⟩), .string x13, s62, s63, s64, s65, s66, s67, s68, s69, s70, s71, s72], defers := [] } w := by
  have za := hx8 rfl
  have zb := hx13 rfl
  have z1 : ¬ 9223372036854775807 < x8.size + x13.size := by omega
  refine wpOp_step (o := { dst := some 62, op := Op.binOp BinOp.add 9 (Operand.tmp 56) (Operand.tmp 61) 9, type := 9, pos := "l10_request.go:383", after := #[{ on := 8, ground := Ground.data }, { on := 13, ground := Ground.data }], guard := none }) rfl (fun K hK => ?_)
  replace hK := hid hK
  go_simp
  exact hK.out _ _ ⟨b0, b1, true, true, true, true, b6, true, true, true, true, true, true, true, true, false, false, false, false, false, x3, x5, x8, X9, R11, x13, X16, G, CP, pp, rfl, rfl, hS, hp, hg, hbox, hR, hBz, hst, ho1, ho2, hLn, hoO, hex, hx3, hx5, hx8, hX9, hR11, hx13, hX16⟩
set_option maxRecDepth 20000 in
set_option maxHeartbeats 1000000 in
theorem rq9_s15 {Q : Exit → Act → World → Prop} (W0 w0 : World) (c : Nat) (a : Option Addr) (len cap p XR XB B : Nat) (zr : Array Value) (y0 y1 y2 y4 : Value) (aL : Option Addr) (cL : Nat) (L : List Hp) (BO : Nat) (aO : Option Addr) (nO cO : Nat) (LO : List Hp) (kk : Nat) (s1 s4 s6 s7 s8 s9 s10 s11 s12 s13 s14 s15 s16 s17 s18 s19 s20 s21 s22 s23 s24 s25 s26 s27 s28 s29 s30 s31 s32 s33 s34 s35 s36 s37 s38 s39 s40 s41 s42 s43 s44 s45 s46 s47 s48 s49 s50 s51 s52 s53 s54 s55 s56 s57 s58 s59 s60 s61 s62 s63 s64 s65 s66 s67 s68 s69 s70 s71 s72 : Value) (b0 b1 : Bool) (x3 : ByteArray) (x5 : ByteArray) (x8 : ByteArray) (X9 : Nat) (R11 : Nat) (x13 : ByteArray) (X16 : Nat) (G : Nat) (CP : Nat) (pp : Nat) (w : World) (hS : Src W0 w c a len cap pp) (hp : pp ≤ p + 40 * (1 + 1 + 1)) (hg : w0.grownBy w (some c)) (hbox : RowAt w XB 25 (cond false #[y0, y1, y2, .slice (some ⟨G, 0, none⟩) (L.length + 1) CP, y4] #[y0, y1, y2, .slice aL L.length cL, y4])) (hR : RowAt w XR 25 zr) (hBz : B ≤ w.heap.size) (hst : c < XB ∧ c < B ∧ w0.heap.size ≤ B ∧ XR ≠ XB ∧ w0.heap.size ≤ XB ∧ W0.heap.size ≤ c ∧ p ≤ 900000 ∧ c ≠ XR) (ho1 : false = false → OwnHp w B (.slice aL L.length cL) L) (ho2 : false = true → OwnHp w B (.slice (some ⟨G, 0, none⟩) (L.length + 1) CP) (L ++ [(⟨(x3 ++ x5), (x8 ++ x13)⟩ : Hp)])) (hLn : L.length ≤ 1000) (hoO : OwnHp w BO (.slice aO nO cO) LO ∧ c < BO ∧ ((Value.slice aO nO cO).ownBlock = none ∨ (Value.slice aO nO cO).ownBlock ≠ (Value.slice aL L.length cL).ownBlock)) (hex : kk < 50) (hx3 : true = true → x3.size ≤ 6) (hx5 : true = true → x5.size ≤ 2) (hx8 : true = true → x8.size ≤ 6) (hX9 : true = true → false = false → RowAt w X9 9 #[.string ⟨#[]⟩, .string ⟨#[32, 120]⟩, .string ⟨#[58, 32, 121]⟩] ∧ B ≤ X9) (hR11 : true = true → R11 < 3) (hx13 : true = true → x13.size ≤ 3) (hX16 : false = true → false = false → RowAt w X16 54 #[.string (x3 ++ x5), .string (x8 ++ x13)] ∧ B ≤ X16) :
    wpOp Tryz.prog rq9O Q 15 (rq9I W0 w0 c a len cap p XR XB B zr y0 y1 y2 y4 aL cL L BO aO nO cO LO kk s1 s4 s6 s7 s8 s9 s10 s11 s12 s13 s14 s15 s16 s17 s18 s19 s20 s21 s22 s23 s24 s25 s26 s27 s28 s29 s30 s31 s32 s33 s34 s35 s36 s37 s38 s39 s40 s41 s42 s43 s44 s45 s46 s47 s48 s49 s50 s51 s52 s53 s54 s55 s56 s57 s58 s59 s60 s61 s62 s63 s64 s65 s66 s67 s68 s69 s70 s71 s72 #[b0, b1, true, true, true, true, true, true, true, true, true, true, true, true, true, true, false, false, false, false]) { tmps := #[.pointer (some ⟨c, 0, none⟩), s1, .pointer (some ⟨XR, 0, none⟩), .pointer (some ⟨XB, 0, none⟩), s4, .int .i64 (kk : Int), s6, s7, s8, s9, s10, s11, s12, s13, s14, s15, s16, s17, s18, s19, s20, s21, s22, s23, s24, s25, s26, s27, s28, s29, s30, s31, s32, s33, s34, s35, s36, s37, s38, s39, s40, s41, s42, s43, s44, s45, s46, s47, sel b0 (.pointer (some ⟨XB, 3, none⟩)) (s48), sel b1 (.slice aL L.length cL) (s49), .pointer (some ⟨c, 0, none⟩), .string x3, .int .i64 (kk : Int), .string x5, .string (x3 ++ x5), .pointer (some ⟨c, 0, none⟩), .string x8, .slice (some ⟨X9, 0, none⟩) 3 3, .pointer (some ⟨c, 0, none⟩), .int .i64 (R11 : Int), .pointer (some ⟨X9, R11, none⟩), .string x13, .string (x8 ++ x13), s63, s64, s65, s66, s67, s68, s69, s70, s71, s72], defers := [] } w := by
  refine wpOp_step (o := { dst := some 63, op := Op.build 54 #[(0, Operand.tmp 54), (1, Operand.tmp 62)], type := 54, pos := "l10_request.go:383", after := #[{ on := 6, ground := Ground.data }, { on := 14, ground := Ground.data }], guard := none }) rfl (fun K hK => ?_)
  replace hK := hid hK
  go_simp
  exact hK.out _ _ ⟨b0, b1, true, true, true, true, true, true, true, true, true, true, true, true, true, true, false, false, false, false, x3, x5, x8, X9, R11, x13, X16, G, CP, pp, rfl, rfl, hS, hp, hg, hbox, hR, hBz, hst, ho1, ho2, hLn, hoO, hex, hx3, hx5, hx8, hX9, hR11, hx13, hX16⟩
set_option maxRecDepth 20000 in
set_option maxHeartbeats 1000000 in
theorem rq9_s16 {Q : Exit → Act → World → Prop} (W0 w0 : World) (c : Nat) (a : Option Addr) (len cap p XR XB B : Nat) (zr : Array Value) (y0 y1 y2 y4 : Value) (aL : Option Addr) (cL : Nat) (L : List Hp) (BO : Nat) (aO : Option Addr) (nO cO : Nat) (LO : List Hp) (kk : Nat) (s1 s4 s6 s7 s8 s9 s10 s11 s12 s13 s14 s15 s16 s17 s18 s19 s20 s21 s22 s23 s24 s25 s26 s27 s28 s29 s30 s31 s32 s33 s34 s35 s36 s37 s38 s39 s40 s41 s42 s43 s44 s45 s46 s47 s48 s49 s50 s51 s52 s53 s54 s55 s56 s57 s58 s59 s60 s61 s62 s63 s64 s65 s66 s67 s68 s69 s70 s71 s72 : Value) (b0 b1 : Bool) (x3 : ByteArray) (x5 : ByteArray) (x8 : ByteArray) (X9 : Nat) (R11 : Nat) (x13 : ByteArray) (X16 : Nat) (G : Nat) (CP : Nat) (pp : Nat) (w : World) (hS : Src W0 w c a len cap pp) (hp : pp ≤ p + 40 * (1 + 1 + 1)) (hg : w0.grownBy w (some c)) (hbox : RowAt w XB 25 (cond false #[y0, y1, y2, .slice (some ⟨G, 0, none⟩) (L.length + 1) CP, y4] #[y0, y1, y2, .slice aL L.length cL, y4])) (hR : RowAt w XR 25 zr) (hBz : B ≤ w.heap.size) (hst : c < XB ∧ c < B ∧ w0.heap.size ≤ B ∧ XR ≠ XB ∧ w0.heap.size ≤ XB ∧ W0.heap.size ≤ c ∧ p ≤ 900000 ∧ c ≠ XR) (ho1 : false = false → OwnHp w B (.slice aL L.length cL) L) (ho2 : false = true → OwnHp w B (.slice (some ⟨G, 0, none⟩) (L.length + 1) CP) (L ++ [(⟨(x3 ++ x5), (x8 ++ x13)⟩ : Hp)])) (hLn : L.length ≤ 1000) (hoO : OwnHp w BO (.slice aO nO cO) LO ∧ c < BO ∧ ((Value.slice aO nO cO).ownBlock = none ∨ (Value.slice aO nO cO).ownBlock ≠ (Value.slice aL L.length cL).ownBlock)) (hex : kk < 50) (hx3 : true = true → x3.size ≤ 6) (hx5 : true = true → x5.size ≤ 2) (hx8 : true = true → x8.size ≤ 6) (hX9 : true = true → false = false → RowAt w X9 9 #[.string ⟨#[]⟩, .string ⟨#[32, 120]⟩, .string ⟨#[58, 32, 121]⟩] ∧ B ≤ X9) (hR11 : true = true → R11 < 3) (hx13 : true = true → x13.size ≤ 3) (hX16 : false = true → false = false → RowAt w X16 54 #[.string (x3 ++ x5), .string (x8 ++ x13)] ∧ B ≤ X16) :
    wpOp Tryz.prog rq9O Q 16 (rq9I W0 w0 c a len cap p XR XB B zr y0 y1 y2 y4 aL cL L BO aO nO cO LO kk s1 s4 s6 s7 s8 s9 s10 s11 s12 s13 s14 s15 s16 s17 s18 s19 s20 s21 s22 s23 s24 s25 s26 s27 s28 s29 s30 s31 s32 s33 s34 s35 s36 s37 s38 s39 s40 s41 s42 s43 s44 s45 s46 s47 s48 s49 s50 s51 s52 s53 s54 s55 s56 s57 s58 s59 s60 s61 s62 s63 s64 s65 s66 s67 s68 s69 s70 s71 s72 #[b0, b1, true, true, true, true, true, true, true, true, true, true, true, true, true, true, true, false, false, false]) { tmps := #[.pointer (some ⟨c, 0, none⟩), s1, .pointer (some ⟨XR, 0, none⟩), .pointer (some ⟨XB, 0, none⟩), s4, .int .i64 (kk : Int), s6, s7, s8, s9, s10, s11, s12, s13, s14, s15, s16, s17, s18, s19, s20, s21, s22, s23, s24, s25, s26, s27, s28, s29, s30, s31, s32, s33, s34, s35, s36, s37, s38, s39, s40, s41, s42, s43, s44, s45, s46, s47, sel b0 (.pointer (some ⟨XB, 3, none⟩)) (s48), sel b1 (.slice aL L.length cL) (s49), .pointer (some ⟨c, 0, none⟩), .string x3, .int .i64 (kk : Int), .string x5, .string (x3 ++ x5), .pointer (some ⟨c, 0, none⟩), .string x8, .slice (some ⟨X9, 0, none⟩) 3 3, .pointer (some ⟨c, 0, none⟩), .int .i64 (R11 : Int), .pointer (some ⟨X9, R11, none⟩), .string x13, .string (x8 ++ x13), .agg #[.string (x3 ++ x5), .string (x8 ++ x13)], s64, s65, s66, s67, s68, s69, s70, s71, s72], defers := [] } w := by
  refine wpOp_step (o := { dst := some 64, op := Op.buildSlice 23 1 #[(0, Operand.tmp 63)], type := 23, pos := "l10_request.go:383", after := #[{ on := 15, ground := Ground.data }], guard := none }) rfl (fun K hK => ?_)
  replace hK := hid hK
  go_simp
  exact hK.out _ _ ⟨b0, b1, true, true, true, true, true, true, true, true, true, true, true, true, true, true, true, false, false, false, x3, x5, x8, X9, R11, x13, w.heap.size, G, CP, pp, rfl, rfl, hS.alloc _, hp, grown_al hg _, hbox.alloc _, hR.alloc _, by simp only [World.size_alloc]; omega, hst, fun h => World.ownsRow.alloc (ho1 h) _, fun h => Bool.noConfusion h, hLn, ⟨World.ownsRow.alloc hoO.1 _, hoO.2⟩, hex, hx3, hx5, hx8, fun h e => ⟨(hX9 h e).1.alloc _, (hX9 h e).2⟩, hR11, hx13, fun _ _ => ⟨RowAt.new w _ _, hBz⟩⟩
set_option maxRecDepth 20000 in
set_option maxHeartbeats 1000000 in
theorem rq9_s17 {Q : Exit → Act → World → Prop} (W0 w0 : World) (c : Nat) (a : Option Addr) (len cap p XR XB B : Nat) (zr : Array Value) (y0 y1 y2 y4 : Value) (aL : Option Addr) (cL : Nat) (L : List Hp) (BO : Nat) (aO : Option Addr) (nO cO : Nat) (LO : List Hp) (kk : Nat) (s1 s4 s6 s7 s8 s9 s10 s11 s12 s13 s14 s15 s16 s17 s18 s19 s20 s21 s22 s23 s24 s25 s26 s27 s28 s29 s30 s31 s32 s33 s34 s35 s36 s37 s38 s39 s40 s41 s42 s43 s44 s45 s46 s47 s48 s49 s50 s51 s52 s53 s54 s55 s56 s57 s58 s59 s60 s61 s62 s63 s64 s65 s66 s67 s68 s69 s70 s71 s72 : Value) (x3 : ByteArray) (x5 : ByteArray) (x8 : ByteArray) (X9 : Nat) (R11 : Nat) (x13 : ByteArray) (X16 : Nat) (G : Nat) (CP : Nat) (pp : Nat) (w : World) (hS : Src W0 w c a len cap pp) (hp : pp ≤ p + 40 * (1 + 1 + 1)) (hg : w0.grownBy w (some c)) (hbox : RowAt w XB 25 (cond false #[y0, y1, y2, .slice (some ⟨G, 0, none⟩) (L.length + 1) CP, y4] #[y0, y1, y2, .slice aL L.length cL, y4])) (hR : RowAt w XR 25 zr) (hBz : B ≤ w.heap.size) (hst : c < XB ∧ c < B ∧ w0.heap.size ≤ B ∧ XR ≠ XB ∧ w0.heap.size ≤ XB ∧ W0.heap.size ≤ c ∧ p ≤ 900000 ∧ c ≠ XR) (ho1 : false = false → OwnHp w B (.slice aL L.length cL) L) (ho2 : false = true → OwnHp w B (.slice (some ⟨G, 0, none⟩) (L.length + 1) CP) (L ++ [(⟨(x3 ++ x5), (x8 ++ x13)⟩ : Hp)])) (hLn : L.length ≤ 1000) (hoO : OwnHp w BO (.slice aO nO cO) LO ∧ c < BO ∧ ((Value.slice aO nO cO).ownBlock = none ∨ (Value.slice aO nO cO).ownBlock ≠ (Value.slice aL L.length cL).ownBlock)) (hex : kk < 50) (hx3 : true = true → x3.size ≤ 6) (hx5 : true = true → x5.size ≤ 2) (hx8 : true = true → x8.size ≤ 6) (hX9 : true = true → false = false → RowAt w X9 9 #[.string ⟨#[]⟩, .string ⟨#[32, 120]⟩, .string ⟨#[58, 32, 121]⟩] ∧ B ≤ X9) (hR11 : true = true → R11 < 3) (hx13 : true = true → x13.size ≤ 3) (hX16 : true = true → false = false → RowAt w X16 54 #[.string (x3 ++ x5), .string (x8 ++ x13)] ∧ B ≤ X16) :
    wpOp Tryz.prog rq9O Q 17 (rq9I W0 w0 c a len cap p XR XB B zr y0 y1 y2 y4 aL cL L BO aO nO cO LO kk s1 s4 s6 s7 s8 s9 s10 s11 s12 s13 s14 s15 s16 s17 s18 s19 s20 s21 s22 s23 s24 s25 s26 s27 s28 s29 s30 s31 s32 s33 s34 s35 s36 s37 s38 s39 s40 s41 s42 s43 s44 s45 s46 s47 s48 s49 s50 s51 s52 s53 s54 s55 s56 s57 s58 s59 s60 s61 s62 s63 s64 s65 s66 s67 s68 s69 s70 s71 s72 #[true, true, true, true, true, true, true, true, true, true, true, true, true, true, true, true, true, true, false, false]) { tmps := #[.pointer (some ⟨c, 0, none⟩), s1, .pointer (some ⟨XR, 0, none⟩), .pointer (some ⟨XB, 0, none⟩), s4, .int .i64 (kk : Int), s6, s7, s8, s9, s10, s11, s12, s13, s14, s15, s16, s17, s18, s19, s20, s21, s22, s23, s24, s25, s26, s27, s28, s29, s30, s31, s32, s33, s34, s35, s36, s37, s38, s39, s40, s41, s42, s43, s44, s45, s46, s47, .pointer (some ⟨XB, 3, none⟩), .slice aL L.length cL, .pointer (some ⟨c, 0, none⟩), .string x3, .int .i64 (kk : Int), .string x5, .string (x3 ++ x5), .pointer (some ⟨c, 0, none⟩), .string x8, .slice (some ⟨X9, 0, none⟩) 3 3, .pointer (some ⟨c, 0, none⟩), .int .i64 (R11 : Int), .pointer (some ⟨X9, R11, none⟩), .string x13, .string (x8 ++ x13), .agg #[.string (x3 ++ x5), .string (x8 ++ x13)], .slice (some ⟨X16, 0, none⟩) 1 1, s65, s66, s67, s68, s69, s70, s71, s72], defers := [] } w := by
  refine wpOp_step (o := { dst := some 65, op := Op.call { callee := Callee.builtin Builtin.append, args := #[Operand.tmp 49, Operand.tmp 64], argTypes := #[23, 23] }, type := 23, pos := "l10_request.go:383", after := #[{ on := 1, ground := Ground.data }, { on := 16, ground := Ground.data }, { on := 11, ground := Ground.chain }], guard := none }) rfl (fun K hK => ?_)
  replace hK := hid hK
  have hO := ho1 rfl
  refine step_append_hpD B _ (by rfl) _ _ 23 (by rfl) Tryz.underlying23 Tryz.infoHpF _ L (x3 ++ x5) (x8 ++ x13) (by rfl) hO hBz X16 (hX16 rfl rfl).1 (by rfl) (by omega) ?_
  intro g3 c3 w3 hO3 hg3
  exact hK.out _ _ ⟨true, true, true, true, true, true, true, true, true, true, true, true, true, true, true, true, true, true, false, false, x3, x5, x8, X9, R11, x13, X16, g3, c3, pp, rfl, rfl, hS.far hg3 (OwnHp.apart hO (by omega)) (fun g hg => by have := (World.ownsRow.lt hO _ hg).1; omega), hp, grown_own hg hg3 (fun g hg => (World.ownsRow.lt hO _ hg).1) (by omega), row_grown hbox hg3 (OwnHp.neRow hO hbox (by decide)), row_grown hR hg3 (OwnHp.neRow hO hR (by decide)), Nat.le_trans hBz hg3.size, hst, fun h => Bool.noConfusion h, fun _ => hO3, hLn, ⟨World.ownsRow.kept hoO.1 hg3 hoO.2.2, hoO.2⟩, hex, hx3, hx5, hx8, fun h e => Bool.noConfusion e, hR11, hx13, fun h e => Bool.noConfusion e⟩
set_option maxRecDepth 20000 in
set_option maxHeartbeats 1000000 in
theorem rq9_s18 {Q : Exit → Act → World → Prop} (W0 w0 : World) (c : Nat) (a : Option Addr) (len cap p XR XB B : Nat) (zr : Array Value) (y0 y1 y2 y4 : Value) (aL : Option Addr) (cL : Nat) (L : List Hp) (BO : Nat) (aO : Option Addr) (nO cO : Nat) (LO : List Hp) (kk : Nat) (s1 s4 s6 s7 s8 s9 s10 s11 s12 s13 s14 s15 s16 s17 s18 s19 s20 s21 s22 s23 s24 s25 s26 s27 s28 s29 s30 s31 s32 s33 s34 s35 s36 s37 s38 s39 s40 s41 s42 s43 s44 s45 s46 s47 s48 s49 s50 s51 s52 s53 s54 s55 s56 s57 s58 s59 s60 s61 s62 s63 s64 s65 s66 s67 s68 s69 s70 s71 s72 : Value) (x3 : ByteArray) (x5 : ByteArray) (x8 : ByteArray) (X9 : Nat) (R11 : Nat) (x13 : ByteArray) (X16 : Nat) (G : Nat) (CP : Nat) (pp : Nat) (w : World) (hS : Src W0 w c a len cap pp) (hp : pp ≤ p + 40 * (1 + 1 + 1)) (hg : w0.grownBy w (some c)) (hbox : RowAt w XB 25 (cond false #[y0, y1, y2, .slice (some ⟨G, 0, none⟩) (L.length + 1) CP, y4] #[y0, y1, y2, .slice aL L.length cL, y4])) (hR : RowAt w XR 25 zr) (hBz : B ≤ w.heap.size) (hst : c < XB ∧ c < B ∧ w0.heap.size ≤ B ∧ XR ≠ XB ∧ w0.heap.size ≤ XB ∧ W0.heap.size ≤ c ∧ p ≤ 900000 ∧ c ≠ XR) (ho1 : true = false → OwnHp w B (.slice aL L.length cL) L) (ho2 : true = true → OwnHp w B (.slice (some ⟨G, 0, none⟩) (L.length + 1) CP) (L ++ [(⟨(x3 ++ x5), (x8 ++ x13)⟩ : Hp)])) (hLn : L.length ≤ 1000) (hoO : OwnHp w BO (.slice aO nO cO) LO ∧ c < BO ∧ ((Value.slice aO nO cO).ownBlock = none ∨ (Value.slice aO nO cO).ownBlock ≠ (Value.slice aL L.length cL).ownBlock)) (hex : kk < 50) (hx3 : true = true → x3.size ≤ 6) (hx5 : true = true → x5.size ≤ 2) (hx8 : true = true → x8.size ≤ 6) (hX9 : true = true → true = false → RowAt w X9 9 #[.string ⟨#[]⟩, .string ⟨#[32, 120]⟩, .string ⟨#[58, 32, 121]⟩] ∧ B ≤ X9) (hR11 : true = true → R11 < 3) (hx13 : true = true → x13.size ≤ 3) (hX16 : true = true → true = false → RowAt w X16 54 #[.string (x3 ++ x5), .string (x8 ++ x13)] ∧ B ≤ X16) :
    wpOp Tryz.prog rq9O Q 18 (rq9I W0 w0 c a len cap p XR XB B zr y0 y1 y2 y4 aL cL L BO aO nO cO LO kk s1 s4 s6 s7 s8 s9 s10 s11 s12 s13 s14 s15 s16 s17 s18 s19 s20 s21 s22 s23 s24 s25 s26 s27 s28 s29 s30 s31 s32 s33 s34 s35 s36 s37 s38 s39 s40 s41 s42 s43 s44 s45 s46 s47 s48 s49 s50 s51 s52 s53 s54 s55 s56 s57 s58 s59 s60 s61 s62 s63 s64 s65 s66 s67 s68 s69 s70 s71 s72 #[true, true, true, true, true, true, true, true, true, true, true, true, true, true, true, true, true, true, true, false]) { tmps := #[.pointer (some ⟨c, 0, none⟩), s1, .pointer (some ⟨XR, 0, none⟩), .pointer (some ⟨XB, 0, none⟩), s4, .int .i64 (kk : Int), s6, s7, s8, s9, s10, s11, s12, s13, s14, s15, s16, s17, s18, s19, s20, s21, s22, s23, s24, s25, s26, s27, s28, s29, s30, s31, s32, s33, s34, s35, s36, s37, s38, s39, s40, s41, s42, s43, s44, s45, s46, s47, .pointer (some ⟨XB, 3, none⟩), .slice aL L.length cL, .pointer (some ⟨c, 0, none⟩), .string x3, .int .i64 (kk : Int), .string x5, .string (x3 ++ x5), .pointer (some ⟨c, 0, none⟩), .string x8, .slice (some ⟨X9, 0, none⟩) 3 3, .pointer (some ⟨c, 0, none⟩), .int .i64 (R11 : Int), .pointer (some ⟨X9, R11, none⟩), .string x13, .string (x8 ++ x13), .agg #[.string (x3 ++ x5), .string (x8 ++ x13)], .slice (some ⟨X16, 0, none⟩) 1 1, .slice (some ⟨G, 0, none⟩) (L.length + 1) CP, s66, s67, s68, s69, s70, s71, s72], defers := [] } w := by
  refine wpOp_step (o := { dst := some 66, op := Op.fieldAddr 25 (Operand.tmp 3) 3, type := 0, pos := "l10_request.go:383", after := #[{ on := 0, ground := Ground.phase }, { on := 1, ground := Ground.phase }, { on := 2, ground := Ground.phase }, { on := 3, ground := Ground.phase }, { on := 4, ground := Ground.phase }, { on := 5, ground := Ground.phase }, { on := 6, ground := Ground.phase }, { on := 7, ground := Ground.phase }, { on := 8, ground := Ground.phase }, { on := 9, ground := Ground.phase }, { on := 10, ground := Ground.phase }, { on := 11, ground := Ground.phase }, { on := 12, ground := Ground.phase }, { on := 13, ground := Ground.phase }, { on := 14, ground := Ground.phase }, { on := 15, ground := Ground.phase }, { on := 16, ground := Ground.phase }, { on := 17, ground := Ground.phase }], guard := none }) rfl (fun K hK => ?_)
  replace hK := hid hK
  go_simp
  exact hK.out _ _ ⟨true, true, true, true, true, true, true, true, true, true, true, true, true, true, true, true, true, true, true, false, x3, x5, x8, X9, R11, x13, X16, G, CP, pp, rfl, rfl, hS, hp, hg, hbox, hR, hBz, hst, ho1, ho2, hLn, hoO, hex, hx3, hx5, hx8, hX9, hR11, hx13, hX16⟩
set_option maxRecDepth 20000 in
set_option maxHeartbeats 1000000 in
theorem rq9_s19 {Q : Exit → Act → World → Prop} (W0 w0 : World) (c : Nat) (a : Option Addr) (len cap p XR XB B : Nat) (zr : Array Value) (y0 y1 y2 y4 : Value) (aL : Option Addr) (cL : Nat) (L : List Hp) (BO : Nat) (aO : Option Addr) (nO cO : Nat) (LO : List Hp) (kk : Nat) (s1 s4 s6 s7 s8 s9 s10 s11 s12 s13 s14 s15 s16 s17 s18 s19 s20 s21 s22 s23 s24 s25 s26 s27 s28 s29 s30 s31 s32 s33 s34 s35 s36 s37 s38 s39 s40 s41 s42 s43 s44 s45 s46 s47 s48 s49 s50 s51 s52 s53 s54 s55 s56 s57 s58 s59 s60 s61 s62 s63 s64 s65 s66 s67 s68 s69 s70 s71 s72 : Value) (x3 : ByteArray) (x5 : ByteArray) (x8 : ByteArray) (X9 : Nat) (R11 : Nat) (x13 : ByteArray) (X16 : Nat) (G : Nat) (CP : Nat) (pp : Nat) (w : World) (hS : Src W0 w c a len cap pp) (hp : pp ≤ p + 40 * (1 + 1 + 1)) (hg : w0.grownBy w (some c)) (hbox : RowAt w XB 25 (cond false #[y0, y1, y2, .slice (some ⟨G, 0, none⟩) (L.length + 1) CP, y4] #[y0, y1, y2, .slice aL L.length cL, y4])) (hR : RowAt w XR 25 zr) (hBz : B ≤ w.heap.size) (hst : c < XB ∧ c < B ∧ w0.heap.size ≤ B ∧ XR ≠ XB ∧ w0.heap.size ≤ XB ∧ W0.heap.size ≤ c ∧ p ≤ 900000 ∧ c ≠ XR) (ho1 : true = false → OwnHp w B (.slice aL L.length cL) L) (ho2 : true = true → OwnHp w B (.slice (some ⟨G, 0, none⟩) (L.length + 1) CP) (L ++ [(⟨(x3 ++ x5), (x8 ++ x13)⟩ : Hp)])) (hLn : L.length ≤ 1000) (hoO : OwnHp w BO (.slice aO nO cO) LO ∧ c < BO ∧ ((Value.slice aO nO cO).ownBlock = none ∨ (Value.slice aO nO cO).ownBlock ≠ (Value.slice aL L.length cL).ownBlock)) (hex : kk < 50) (hx3 : true = true → x3.size ≤ 6) (hx5 : true = true → x5.size ≤ 2) (hx8 : true = true → x8.size ≤ 6) (hX9 : true = true → true = false → RowAt w X9 9 #[.string ⟨#[]⟩, .string ⟨#[32, 120]⟩, .string ⟨#[58, 32, 121]⟩] ∧ B ≤ X9) (hR11 : true = true → R11 < 3) (hx13 : true = true → x13.size ≤ 3) (hX16 : true = true → true = false → RowAt w X16 54 #[.string (x3 ++ x5), .string (x8 ++ x13)] ∧ B ≤ X16) :
    wpOp Tryz.prog rq9O Q 19 (rq9I W0 w0 c a len cap p XR XB B zr y0 y1 y2 y4 aL cL L BO aO nO cO LO kk s1 s4 s6 s7 s8 s9 s10 s11 s12 s13 s14 s15 s16 s17 s18 s19 s20 s21 s22 s23 s24 s25 s26 s27 s28 s29 s30 s31 s32 s33 s34 s35 s36 s37 s38 s39 s40 s41 s42 s43 s44 s45 s46 s47 s48 s49 s50 s51 s52 s53 s54 s55 s56 s57 s58 s59 s60 s61 s62 s63 s64 s65 s66 s67 s68 s69 s70 s71 s72 #[true, true, true, true, true, true, true, true, true, true, true, true, true, true, true, true, true, true, true, true]) { tmps := #[.pointer (some ⟨c, 0, none⟩), s1, .pointer (some ⟨XR, 0, none⟩), .pointer (some ⟨XB, 0, none⟩), s4, .int .i64 (kk : Int), s6, s7, s8, s9, s10, s11, s12, s13, s14, s15, s16, s17, s18, s19, s20, s21, s22, s23, s24, s25, s26, s27, s28, s29, s30, s31, s32, s33, s34, s35, s36, s37, s38, s39, s40, s41, s42, s43, s44, s45, s46, s47, .pointer (some ⟨XB, 3, none⟩), .slice aL L.length cL, .pointer (some ⟨c, 0, none⟩), .string x3, .int .i64 (kk : Int), .string x5, .string (x3 ++ x5), .pointer (some ⟨c, 0, none⟩), .string x8, .slice (some ⟨X9, 0, none⟩) 3 3, .pointer (some ⟨c, 0, none⟩), .int .i64 (R11 : Int), .pointer (some ⟨X9, R11, none⟩), .string x13, .string (x8 ++ x13), .agg #[.string (x3 ++ x5), .string (x8 ++ x13)], .slice (some ⟨X16, 0, none⟩) 1 1, .slice (some ⟨G, 0, none⟩) (L.length + 1) CP, .pointer (some ⟨XB, 3, none⟩), s67, s68, s69, s70, s71, s72], defers := [] } w := by
  have hbx : RowAt w XB 25 #[y0, y1, y2, .slice aL L.length cL, y4] := hbox
  have q := hbx.cell 3
  have f := hbx.free 3
  refine wpOp_step (o := { dst := none, op := Op.store 23 (Operand.tmp 66) (Operand.tmp 65), type := 0, pos := "l10_request.go:383", after := #[{ on := 18, ground := Ground.data }, { on := 17, ground := Ground.data }, { on := 17, ground := Ground.chain }, { on := 0, ground := Ground.phase }, { on := 1, ground := Ground.phase }, { on := 2, ground := Ground.phase }, { on := 3, ground := Ground.phase }, { on := 4, ground := Ground.phase }, { on := 5, ground := Ground.phase }, { on := 6, ground := Ground.phase }, { on := 7, ground := Ground.phase }, { on := 8, ground := Ground.phase }, { on := 9, ground := Ground.phase }, { on := 10, ground := Ground.phase }, { on := 11, ground := Ground.phase }, { on := 12, ground := Ground.phase }, { on := 13, ground := Ground.phase }, { on := 14, ground := Ground.phase }, { on := 15, ground := Ground.phase }, { on := 16, ground := Ground.phase }, { on := 17, ground := Ground.phase }], guard := none }) rfl (fun K hK => ?_)
  replace hK := hid hK
  go_simp
  exact hK.out _ _ ⟨true, true, true, true, true, true, true, true, true, true, true, true, true, true, true, true, true, true, true, true, x3, x5, x8, X9, R11, x13, X16, G, CP, pp, rfl, rfl, hS.set hst.1 3 _, hp, grown_far hg hst.2.2.2.2.1 3 _, hbx.set 3 _, hR.other ⟨XB, 3, none⟩ _ hst.2.2.2.1, by simp; omega, hst, fun h => Bool.noConfusion h, fun h => OwnHp.setCellN (ho2 h) (OwnHp.neRow (ho2 h) hbx (by decide)), hLn, ⟨OwnHp.setCellN hoO.1 (OwnHp.neRow hoO.1 hbx (by decide)), hoO.2⟩, hex, hx3, hx5, hx8, fun h e => Bool.noConfusion e, hR11, hx13, fun h e => Bool.noConfusion e⟩
set_option maxRecDepth 20000 in
set_option maxHeartbeats 2000000 in
theorem rq9_step {Q : Exit → Act → World → Prop} (W0 w0 : World) (c : Nat) (a : Option Addr) (len cap p XR XB B : Nat) (zr : Array Value) (y0 y1 y2 y4 : Value) (aL : Option Addr) (cL : Nat) (L : List Hp) (BO : Nat) (aO : Option Addr) (nO cO : Nat) (LO : List Hp) (kk : Nat) (s1 s4 s6 s7 s8 s9 s10 s11 s12 s13 s14 s15 s16 s17 s18 s19 s20 s21 s22 s23 s24 s25 s26 s27 s28 s29 s30 s31 s32 s33 s34 s35 s36 s37 s38 s39 s40 s41 s42 s43 s44 s45 s46 s47 s48 s49 s50 s51 s52 s53 s54 s55 s56 s57 s58 s59 s60 s61 s62 s63 s64 s65 s66 s67 s68 s69 s70 s71 s72 : Value) (l : Array Bool) (f : Act) (w : World) (hC : Closed rq9O l) (hI : rq9I W0 w0 c a len cap p XR XB B zr y0 y1 y2 y4 aL cL L BO aO nO cO LO kk s1 s4 s6 s7 s8 s9 s10 s11 s12 s13 s14 s15 s16 s17 s18 s19 s20 s21 s22 s23 s24 s25 s26 s27 s28 s29 s30 s31 s32 s33 s34 s35 s36 s37 s38 s39 s40 s41 s42 s43 s44 s45 s46 s47 s48 s49 s50 s51 s52 s53 s54 s55 s56 s57 s58 s59 s60 s61 s62 s63 s64 s65 s66 s67 s68 s69 s70 s71 s72 l f w) (i : Nat) (h0 : l.getD i true = false) (o : Oper) (ho : rq9O[i]? = some o) (h1 : ∀ e ∈ o.after, Region.binds .any e = true → l.getD e.on false = true) : wpOp Tryz.prog rq9O Q i (rq9I W0 w0 c a len cap p XR XB B zr y0 y1 y2 y4 aL cL L BO aO nO cO LO kk s1 s4 s6 s7 s8 s9 s10 s11 s12 s13 s14 s15 s16 s17 s18 s19 s20 s21 s22 s23 s24 s25 s26 s27 s28 s29 s30 s31 s32 s33 s34 s35 s36 s37 s38 s39 s40 s41 s42 s43 s44 s45 s46 s47 s48 s49 s50 s51 s52 s53 s54 s55 s56 s57 s58 s59 s60 s61 s62 s63 s64 s65 s66 s67 s68 s69 s70 s71 s72 (l.setIfInBounds i true)) f w := by
  obtain ⟨b0, b1, b2, b3, b4, b5, b6, b7, b8, b9, b10, b11, b12, b13, b14, b15, b16, b17, b18, b19, x3, x5, x8, X9, R11, x13, X16, G, CP, pp, rfl, rfl, hS, hp, hg, hbox, hR, hBz, hst, ho1, ho2, hLn, hoO, hex, hx3, hx5, hx8, hX9, hR11, hx13, hX16⟩ := hI
  have hi : i < 20 := by
    rcases Nat.lt_or_ge i 20 with h | h
    · exact h
    · rw [show rq9O[i]? = none from Array.getElem?_eq_none h] at ho; cases ho
  rcases (by omega : i = 0 ∨ i = 1 ∨ i = 2 ∨ i = 3 ∨ i = 4 ∨ i = 5 ∨ i = 6 ∨ i = 7 ∨ i = 8 ∨ i = 9 ∨ i = 10 ∨ i = 11 ∨ i = 12 ∨ i = 13 ∨ i = 14 ∨ i = 15 ∨ i = 16 ∨ i = 17 ∨ i = 18 ∨ i = 19) with rfl | rfl | rfl | rfl | rfl | rfl | rfl | rfl | rfl | rfl | rfl | rfl | rfl | rfl | rfl | rfl | rfl | rfl | rfl | rfl
  · obtain rfl : rq9o0 = o := Option.some.inj ho
    obtain rfl : b0 = false := h0
    obtain rfl : b1 = false := by
      cases b1 with
      | false => rfl
      | true => exact Bool.noConfusion (show false = true from hC 1 rq9o1 rfl rfl ⟨0, .data⟩ (by simp [rq9o1]) rfl)
    obtain rfl : b17 = false := by
      cases b17 with
      | false => rfl
      | true => exact Bool.noConfusion (show false = true from hC 17 rq9o17 rfl rfl ⟨1, .data⟩ (by simp [rq9o17]) rfl)
    obtain rfl : b18 = false := by
      cases b18 with
      | false => rfl
      | true => exact Bool.noConfusion (show false = true from hC 18 rq9o18 rfl rfl ⟨0, .phase⟩ (by simp [rq9o18]) rfl)
    obtain rfl : b19 = false := by
      cases b19 with
      | false => rfl
      | true => exact Bool.noConfusion (show false = true from hC 19 rq9o19 rfl rfl ⟨0, .phase⟩ (by simp [rq9o19]) rfl)
    exact rq9_s0 W0 w0 c a len cap p XR XB B zr y0 y1 y2 y4 aL cL L BO aO nO cO LO kk s1 s4 s6 s7 s8 s9 s10 s11 s12 s13 s14 s15 s16 s17 s18 s19 s20 s21 s22 s23 s24 s25 s26 s27 s28 s29 s30 s31 s32 s33 s34 s35 s36 s37 s38 s39 s40 s41 s42 s43 s44 s45 s46 s47 s48 s49 s50 s51 s52 s53 s54 s55 s56 s57 s58 s59 s60 s61 s62 s63 s64 s65 s66 s67 s68 s69 s70 s71 s72 b2 b3 b4 b5 b6 b7 b8 b9 b10 b11 b12 b13 b14 b15 b16 x3 x5 x8 X9 R11 x13 X16 G CP pp w hS hp hg hbox hR hBz hst ho1 ho2 hLn hoO hex hx3 hx5 hx8 hX9 hR11 hx13 hX16
  · obtain rfl : rq9o1 = o := Option.some.inj ho
    obtain rfl : b1 = false := h0
    obtain rfl : b0 = true := h1 ⟨0, .data⟩ (by simp [rq9o1]) rfl
    obtain rfl : b17 = false := by
      cases b17 with
      | false => rfl
      | true => exact Bool.noConfusion (show false = true from hC 17 rq9o17 rfl rfl ⟨1, .data⟩ (by simp [rq9o17]) rfl)
    obtain rfl : b18 = false := by
      cases b18 with
      | false => rfl
      | true => exact Bool.noConfusion (show false = true from hC 18 rq9o18 rfl rfl ⟨1, .phase⟩ (by simp [rq9o18]) rfl)
    obtain rfl : b19 = false := by
      cases b19 with
      | false => rfl
      | true => exact Bool.noConfusion (show false = true from hC 19 rq9o19 rfl rfl ⟨1, .phase⟩ (by simp [rq9o19]) rfl)
    exact rq9_s1 W0 w0 c a len cap p XR XB B zr y0 y1 y2 y4 aL cL L BO aO nO cO LO kk s1 s4 s6 s7 s8 s9 s10 s11 s12 s13 s14 s15 s16 s17 s18 s19 s20 s21 s22 s23 s24 s25 s26 s27 s28 s29 s30 s31 s32 s33 s34 s35 s36 s37 s38 s39 s40 s41 s42 s43 s44 s45 s46 s47 s48 s49 s50 s51 s52 s53 s54 s55 s56 s57 s58 s59 s60 s61 s62 s63 s64 s65 s66 s67 s68 s69 s70 s71 s72 b2 b3 b4 b5 b6 b7 b8 b9 b10 b11 b12 b13 b14 b15 b16 x3 x5 x8 X9 R11 x13 X16 G CP pp w hS hp hg hbox hR hBz hst ho1 ho2 hLn hoO hex hx3 hx5 hx8 hX9 hR11 hx13 hX16
  · obtain rfl : rq9o2 = o := Option.some.inj ho
    obtain rfl : b2 = false := h0
    obtain rfl : b3 = false := by
      cases b3 with
      | false => rfl
      | true => exact Bool.noConfusion (show false = true from hC 3 rq9o3 rfl rfl ⟨2, .data⟩ (by simp [rq9o3]) rfl)
    obtain rfl : b5 = false := by
      cases b5 with
      | false => rfl
      | true => exact Bool.noConfusion (show false = true from hC 5 rq9o5 rfl rfl ⟨3, .chain⟩ (by simp [rq9o5]) rfl)
    obtain rfl : b6 = false := by
      cases b6 with
      | false => rfl
      | true => exact Bool.noConfusion (show false = true from hC 6 rq9o6 rfl rfl ⟨3, .data⟩ (by simp [rq9o6]) rfl)
    obtain rfl : b8 = false := by
      cases b8 with
      | false => rfl
      | true => exact Bool.noConfusion (show false = true from hC 8 rq9o8 rfl rfl ⟨5, .chain⟩ (by simp [rq9o8]) rfl)
    obtain rfl : b11 = false := by
      cases b11 with
      | false => rfl
      | true => exact Bool.noConfusion (show false = true from hC 11 rq9o11 rfl rfl ⟨8, .chain⟩ (by simp [rq9o11]) rfl)
    obtain rfl : b12 = false := by
      cases b12 with
      | false => rfl
      | true => exact Bool.noConfusion (show false = true from hC 12 rq9o12 rfl rfl ⟨11, .data⟩ (by simp [rq9o12]) rfl)
    obtain rfl : b13 = false := by
      cases b13 with
      | false => rfl
      | true => exact Bool.noConfusion (show false = true from hC 13 rq9o13 rfl rfl ⟨12, .data⟩ (by simp [rq9o13]) rfl)
    obtain rfl : b14 = false := by
      cases b14 with
      | false => rfl
      | true => exact Bool.noConfusion (show false = true from hC 14 rq9o14 rfl rfl ⟨8, .data⟩ (by simp [rq9o14]) rfl)
    obtain rfl : b15 = false := by
      cases b15 with
      | false => rfl
      | true => exact Bool.noConfusion (show false = true from hC 15 rq9o15 rfl rfl ⟨6, .data⟩ (by simp [rq9o15]) rfl)
    obtain rfl : b16 = false := by
      cases b16 with
      | false => rfl
      | true => exact Bool.noConfusion (show false = true from hC 16 rq9o16 rfl rfl ⟨15, .data⟩ (by simp [rq9o16]) rfl)
    obtain rfl : b17 = false := by
      cases b17 with
      | false => rfl
      | true => exact Bool.noConfusion (show false = true from hC 17 rq9o17 rfl rfl ⟨11, .chain⟩ (by simp [rq9o17]) rfl)
    obtain rfl : b18 = false := by
      cases b18 with
      | false => rfl
      | true => exact Bool.noConfusion (show false = true from hC 18 rq9o18 rfl rfl ⟨2, .phase⟩ (by simp [rq9o18]) rfl)
    obtain rfl : b19 = false := by
      cases b19 with
      | false => rfl
      | true => exact Bool.noConfusion (show false = true from hC 19 rq9o19 rfl rfl ⟨2, .phase⟩ (by simp [rq9o19]) rfl)
    exact rq9_s2 W0 w0 c a len cap p XR XB B zr y0 y1 y2 y4 aL cL L BO aO nO cO LO kk s1 s4 s6 s7 s8 s9 s10 s11 s12 s13 s14 s15 s16 s17 s18 s19 s20 s21 s22 s23 s24 s25 s26 s27 s28 s29 s30 s31 s32 s33 s34 s35 s36 s37 s38 s39 s40 s41 s42 s43 s44 s45 s46 s47 s48 s49 s50 s51 s52 s53 s54 s55 s56 s57 s58 s59 s60 s61 s62 s63 s64 s65 s66 s67 s68 s69 s70 s71 s72 b0 b1 b4 b7 b9 b10 x3 x5 x8 X9 R11 x13 X16 G CP pp w hS hp hg hbox hR hBz hst ho1 ho2 hLn hoO hex hx3 hx5 hx8 hX9 hR11 hx13 hX16
  · obtain rfl : rq9o3 = o := Option.some.inj ho
    obtain rfl : b3 = false := h0
    obtain rfl : b2 = true := h1 ⟨2, .data⟩ (by simp [rq9o3]) rfl
    obtain rfl : b5 = false := by
      cases b5 with
      | false => rfl
      | true => exact Bool.noConfusion (show false = true from hC 5 rq9o5 rfl rfl ⟨3, .chain⟩ (by simp [rq9o5]) rfl)
    obtain rfl : b6 = false := by
      cases b6 with
      | false => rfl
      | true => exact Bool.noConfusion (show false = true from hC 6 rq9o6 rfl rfl ⟨3, .data⟩ (by simp [rq9o6]) rfl)
    obtain rfl : b8 = false := by
      cases b8 with
      | false => rfl
      | true => exact Bool.noConfusion (show false = true from hC 8 rq9o8 rfl rfl ⟨5, .chain⟩ (by simp [rq9o8]) rfl)
    obtain rfl : b11 = false := by
      cases b11 with
      | false => rfl
      | true => exact Bool.noConfusion (show false = true from hC 11 rq9o11 rfl rfl ⟨8, .chain⟩ (by simp [rq9o11]) rfl)
    obtain rfl : b12 = false := by
      cases b12 with
      | false => rfl
      | true => exact Bool.noConfusion (show false = true from hC 12 rq9o12 rfl rfl ⟨11, .data⟩ (by simp [rq9o12]) rfl)
    obtain rfl : b13 = false := by
      cases b13 with
      | false => rfl
      | true => exact Bool.noConfusion (show false = true from hC 13 rq9o13 rfl rfl ⟨12, .data⟩ (by simp [rq9o13]) rfl)
    obtain rfl : b14 = false := by
      cases b14 with
      | false => rfl
      | true => exact Bool.noConfusion (show false = true from hC 14 rq9o14 rfl rfl ⟨8, .data⟩ (by simp [rq9o14]) rfl)
    obtain rfl : b15 = false := by
      cases b15 with
      | false => rfl
      | true => exact Bool.noConfusion (show false = true from hC 15 rq9o15 rfl rfl ⟨6, .data⟩ (by simp [rq9o15]) rfl)
    obtain rfl : b16 = false := by
      cases b16 with
      | false => rfl
      | true => exact Bool.noConfusion (show false = true from hC 16 rq9o16 rfl rfl ⟨15, .data⟩ (by simp [rq9o16]) rfl)
    obtain rfl : b17 = false := by
      cases b17 with
      | false => rfl
      | true => exact Bool.noConfusion (show false = true from hC 17 rq9o17 rfl rfl ⟨11, .chain⟩ (by simp [rq9o17]) rfl)
    obtain rfl : b18 = false := by
      cases b18 with
      | false => rfl
      | true => exact Bool.noConfusion (show false = true from hC 18 rq9o18 rfl rfl ⟨3, .phase⟩ (by simp [rq9o18]) rfl)
    obtain rfl : b19 = false := by
      cases b19 with
      | false => rfl
      | true => exact Bool.noConfusion (show false = true from hC 19 rq9o19 rfl rfl ⟨3, .phase⟩ (by simp [rq9o19]) rfl)
    exact rq9_s3 W0 w0 c a len cap p XR XB B zr y0 y1 y2 y4 aL cL L BO aO nO cO LO kk s1 s4 s6 s7 s8 s9 s10 s11 s12 s13 s14 s15 s16 s17 s18 s19 s20 s21 s22 s23 s24 s25 s26 s27 s28 s29 s30 s31 s32 s33 s34 s35 s36 s37 s38 s39 s40 s41 s42 s43 s44 s45 s46 s47 s48 s49 s50 s51 s52 s53 s54 s55 s56 s57 s58 s59 s60 s61 s62 s63 s64 s65 s66 s67 s68 s69 s70 s71 s72 b0 b1 b4 b7 b9 b10 x3 x5 x8 X9 R11 x13 X16 G CP pp w hS hp hg hbox hR hBz hst ho1 ho2 hLn hoO hex hx3 hx5 hx8 hX9 hR11 hx13 hX16
  · obtain rfl : rq9o4 = o := Option.some.inj ho
    obtain rfl : b4 = false := h0
    obtain rfl : b5 = false := by
      cases b5 with
      | false => rfl
      | true => exact Bool.noConfusion (show false = true from hC 5 rq9o5 rfl rfl ⟨4, .data⟩ (by simp [rq9o5]) rfl)
    obtain rfl : b6 = false := by
      cases b6 with
      | false => rfl
      | true => exact Bool.noConfusion (show false = true from hC 6 rq9o6 rfl rfl ⟨5, .data⟩ (by simp [rq9o6]) rfl)
    obtain rfl : b8 = false := by
      cases b8 with
      | false => rfl
      | true => exact Bool.noConfusion (show false = true from hC 8 rq9o8 rfl rfl ⟨5, .chain⟩ (by simp [rq9o8]) rfl)
    obtain rfl : b11 = false := by
      cases b11 with
      | false => rfl
      | true => exact Bool.noConfusion (show false = true from hC 11 rq9o11 rfl rfl ⟨8, .chain⟩ (by simp [rq9o11]) rfl)
    obtain rfl : b12 = false := by
      cases b12 with
      | false => rfl
      | true => exact Bool.noConfusion (show false = true from hC 12 rq9o12 rfl rfl ⟨11, .data⟩ (by simp [rq9o12]) rfl)
    obtain rfl : b13 = false := by
      cases b13 with
      | false => rfl
      | true => exact Bool.noConfusion (show false = true from hC 13 rq9o13 rfl rfl ⟨12, .data⟩ (by simp [rq9o13]) rfl)
    obtain rfl : b14 = false := by
      cases b14 with
      | false => rfl
      | true => exact Bool.noConfusion (show false = true from hC 14 rq9o14 rfl rfl ⟨8, .data⟩ (by simp [rq9o14]) rfl)
    obtain rfl : b15 = false := by
      cases b15 with
      | false => rfl
      | true => exact Bool.noConfusion (show false = true from hC 15 rq9o15 rfl rfl ⟨6, .data⟩ (by simp [rq9o15]) rfl)
    obtain rfl : b16 = false := by
      cases b16 with
      | false => rfl
      | true => exact Bool.noConfusion (show false = true from hC 16 rq9o16 rfl rfl ⟨15, .data⟩ (by simp [rq9o16]) rfl)
    obtain rfl : b17 = false := by
      cases b17 with
      | false => rfl
      | true => exact Bool.noConfusion (show false = true from hC 17 rq9o17 rfl rfl ⟨11, .chain⟩ (by simp [rq9o17]) rfl)
    obtain rfl : b18 = false := by
      cases b18 with
      | false => rfl
      | true => exact Bool.noConfusion (show false = true from hC 18 rq9o18 rfl rfl ⟨4, .phase⟩ (by simp [rq9o18]) rfl)
    obtain rfl : b19 = false := by
      cases b19 with
      | false => rfl
      | true => exact Bool.noConfusion (show false = true from hC 19 rq9o19 rfl rfl ⟨4, .phase⟩ (by simp [rq9o19]) rfl)
    exact rq9_s4 W0 w0 c a len cap p XR XB B zr y0 y1 y2 y4 aL cL L BO aO nO cO LO kk s1 s4 s6 s7 s8 s9 s10 s11 s12 s13 s14 s15 s16 s17 s18 s19 s20 s21 s22 s23 s24 s25 s26 s27 s28 s29 s30 s31 s32 s33 s34 s35 s36 s37 s38 s39 s40 s41 s42 s43 s44 s45 s46 s47 s48 s49 s50 s51 s52 s53 s54 s55 s56 s57 s58 s59 s60 s61 s62 s63 s64 s65 s66 s67 s68 s69 s70 s71 s72 b0 b1 b2 b3 b7 b9 b10 x3 x5 x8 X9 R11 x13 X16 G CP pp w hS hp hg hbox hR hBz hst ho1 ho2 hLn hoO hex hx3 hx5 hx8 hX9 hR11 hx13 hX16
  · obtain rfl : rq9o5 = o := Option.some.inj ho
    obtain rfl : b5 = false := h0
    obtain rfl : b4 = true := h1 ⟨4, .data⟩ (by simp [rq9o5]) rfl
    obtain rfl : b3 = true := h1 ⟨3, .chain⟩ (by simp [rq9o5]) rfl
    obtain rfl : b2 = true := hC 3 rq9o3 rfl rfl ⟨2, .data⟩ (by simp [rq9o3]) rfl
    obtain rfl : b6 = false := by
      cases b6 with
      | false => rfl
      | true => exact Bool.noConfusion (show false = true from hC 6 rq9o6 rfl rfl ⟨5, .data⟩ (by simp [rq9o6]) rfl)
    obtain rfl : b8 = false := by
      cases b8 with
      | false => rfl
      | true => exact Bool.noConfusion (show false = true from hC 8 rq9o8 rfl rfl ⟨5, .chain⟩ (by simp [rq9o8]) rfl)
    obtain rfl : b11 = false := by
      cases b11 with
      | false => rfl
      | true => exact Bool.noConfusion (show false = true from hC 11 rq9o11 rfl rfl ⟨8, .chain⟩ (by simp [rq9o11]) rfl)
    obtain rfl : b12 = false := by
      cases b12 with
      | false => rfl
      | true => exact Bool.noConfusion (show false = true from hC 12 rq9o12 rfl rfl ⟨11, .data⟩ (by simp [rq9o12]) rfl)
    obtain rfl : b13 = false := by
      cases b13 with
      | false => rfl
      | true => exact Bool.noConfusion (show false = true from hC 13 rq9o13 rfl rfl ⟨12, .data⟩ (by simp [rq9o13]) rfl)
    obtain rfl : b14 = false := by
      cases b14 with
      | false => rfl
      | true => exact Bool.noConfusion (show false = true from hC 14 rq9o14 rfl rfl ⟨8, .data⟩ (by simp [rq9o14]) rfl)
    obtain rfl : b15 = false := by
      cases b15 with
      | false => rfl
      | true => exact Bool.noConfusion (show false = true from hC 15 rq9o15 rfl rfl ⟨6, .data⟩ (by simp [rq9o15]) rfl)
    obtain rfl : b16 = false := by
      cases b16 with
      | false => rfl
      | true => exact Bool.noConfusion (show false = true from hC 16 rq9o16 rfl rfl ⟨15, .data⟩ (by simp [rq9o16]) rfl)
    obtain rfl : b17 = false := by
      cases b17 with
      | false => rfl
      | true => exact Bool.noConfusion (show false = true from hC 17 rq9o17 rfl rfl ⟨11, .chain⟩ (by simp [rq9o17]) rfl)
    obtain rfl : b18 = false := by
      cases b18 with
      | false => rfl
      | true => exact Bool.noConfusion (show false = true from hC 18 rq9o18 rfl rfl ⟨5, .phase⟩ (by simp [rq9o18]) rfl)
    obtain rfl : b19 = false := by
      cases b19 with
      | false => rfl
      | true => exact Bool.noConfusion (show false = true from hC 19 rq9o19 rfl rfl ⟨5, .phase⟩ (by simp [rq9o19]) rfl)
    exact rq9_s5 W0 w0 c a len cap p XR XB B zr y0 y1 y2 y4 aL cL L BO aO nO cO LO kk s1 s4 s6 s7 s8 s9 s10 s11 s12 s13 s14 s15 s16 s17 s18 s19 s20 s21 s22 s23 s24 s25 s26 s27 s28 s29 s30 s31 s32 s33 s34 s35 s36 s37 s38 s39 s40 s41 s42 s43 s44 s45 s46 s47 s48 s49 s50 s51 s52 s53 s54 s55 s56 s57 s58 s59 s60 s61 s62 s63 s64 s65 s66 s67 s68 s69 s70 s71 s72 b0 b1 b7 b9 b10 x3 x5 x8 X9 R11 x13 X16 G CP pp w hS hp hg hbox hR hBz hst ho1 ho2 hLn hoO hex hx3 hx5 hx8 hX9 hR11 hx13 hX16
  · obtain rfl : rq9o6 = o := Option.some.inj ho
    obtain rfl : b6 = false := h0
    obtain rfl : b5 = true := h1 ⟨5, .data⟩ (by simp [rq9o6]) rfl
    obtain rfl : b3 = true := h1 ⟨3, .data⟩ (by simp [rq9o6]) rfl
    obtain rfl : b4 = true := hC 5 rq9o5 rfl rfl ⟨4, .data⟩ (by simp [rq9o5]) rfl
    obtain rfl : b2 = true := hC 3 rq9o3 rfl rfl ⟨2, .data⟩ (by simp [rq9o3]) rfl
    obtain rfl : b15 = false := by
      cases b15 with
      | false => rfl
      | true => exact Bool.noConfusion (show false = true from hC 15 rq9o15 rfl rfl ⟨6, .data⟩ (by simp [rq9o15]) rfl)
    obtain rfl : b16 = false := by
      cases b16 with
      | false => rfl
      | true => exact Bool.noConfusion (show false = true from hC 16 rq9o16 rfl rfl ⟨15, .data⟩ (by simp [rq9o16]) rfl)
    obtain rfl : b17 = false := by
      cases b17 with
      | false => rfl
      | true => exact Bool.noConfusion (show false = true from hC 17 rq9o17 rfl rfl ⟨16, .data⟩ (by simp [rq9o17]) rfl)
    obtain rfl : b18 = false := by
      cases b18 with
      | false => rfl
      | true => exact Bool.noConfusion (show false = true from hC 18 rq9o18 rfl rfl ⟨6, .phase⟩ (by simp [rq9o18]) rfl)
    obtain rfl : b19 = false := by
      cases b19 with
      | false => rfl
      | true => exact Bool.noConfusion (show false = true from hC 19 rq9o19 rfl rfl ⟨6, .phase⟩ (by simp [rq9o19]) rfl)
    exact rq9_s6 W0 w0 c a len cap p XR XB B zr y0 y1 y2 y4 aL cL L BO aO nO cO LO kk s1 s4 s6 s7 s8 s9 s10 s11 s12 s13 s14 s15 s16 s17 s18 s19 s20 s21 s22 s23 s24 s25 s26 s27 s28 s29 s30 s31 s32 s33 s34 s35 s36 s37 s38 s39 s40 s41 s42 s43 s44 s45 s46 s47 s48 s49 s50 s51 s52 s53 s54 s55 s56 s57 s58 s59 s60 s61 s62 s63 s64 s65 s66 s67 s68 s69 s70 s71 s72 b0 b1 b7 b8 b9 b10 b11 b12 b13 b14 x3 x5 x8 X9 R11 x13 X16 G CP pp w hS hp hg hbox hR hBz hst ho1 ho2 hLn hoO hex hx3 hx5 hx8 hX9 hR11 hx13 hX16
  · obtain rfl : rq9o7 = o := Option.some.inj ho
    obtain rfl : b7 = false := h0
    obtain rfl : b8 = false := by
      cases b8 with
      | false => rfl
      | true => exact Bool.noConfusion (show false = true from hC 8 rq9o8 rfl rfl ⟨7, .data⟩ (by simp [rq9o8]) rfl)
    obtain rfl : b11 = false := by
      cases b11 with
      | false => rfl
      | true => exact Bool.noConfusion (show false = true from hC 11 rq9o11 rfl rfl ⟨8, .chain⟩ (by simp [rq9o11]) rfl)
    obtain rfl : b12 = false := by
      cases b12 with
      | false => rfl
      | true => exact Bool.noConfusion (show false = true from hC 12 rq9o12 rfl rfl ⟨11, .data⟩ (by simp [rq9o12]) rfl)
    obtain rfl : b13 = false := by
      cases b13 with
      | false => rfl
      | true => exact Bool.noConfusion (show false = true from hC 13 rq9o13 rfl rfl ⟨12, .data⟩ (by simp [rq9o13]) rfl)
    obtain rfl : b14 = false := by
      cases b14 with
      | false => rfl
      | true => exact Bool.noConfusion (show false = true from hC 14 rq9o14 rfl rfl ⟨8, .data⟩ (by simp [rq9o14]) rfl)
    obtain rfl : b15 = false := by
      cases b15 with
      | false => rfl
      | true => exact Bool.noConfusion (show false = true from hC 15 rq9o15 rfl rfl ⟨14, .data⟩ (by simp [rq9o15]) rfl)
    obtain rfl : b16 = false := by
      cases b16 with
      | false => rfl
      | true => exact Bool.noConfusion (show false = true from hC 16 rq9o16 rfl rfl ⟨15, .data⟩ (by simp [rq9o16]) rfl)
    obtain rfl : b17 = false := by
      cases b17 with
      | false => rfl
      | true => exact Bool.noConfusion (show false = true from hC 17 rq9o17 rfl rfl ⟨11, .chain⟩ (by simp [rq9o17]) rfl)
    obtain rfl : b18 = false := by
      cases b18 with
      | false => rfl
      | true => exact Bool.noConfusion (show false = true from hC 18 rq9o18 rfl rfl ⟨7, .phase⟩ (by simp [rq9o18]) rfl)
    obtain rfl : b19 = false := by
      cases b19 with
      | false => rfl
      | true => exact Bool.noConfusion (show false = true from hC 19 rq9o19 rfl rfl ⟨7, .phase⟩ (by simp [rq9o19]) rfl)
    exact rq9_s7 W0 w0 c a len cap p XR XB B zr y0 y1 y2 y4 aL cL L BO aO nO cO LO kk s1 s4 s6 s7 s8 s9 s10 s11 s12 s13 s14 s15 s16 s17 s18 s19 s20 s21 s22 s23 s24 s25 s26 s27 s28 s29 s30 s31 s32 s33 s34 s35 s36 s37 s38 s39 s40 s41 s42 s43 s44 s45 s46 s47 s48 s49 s50 s51 s52 s53 s54 s55 s56 s57 s58 s59 s60 s61 s62 s63 s64 s65 s66 s67 s68 s69 s70 s71 s72 b0 b1 b2 b3 b4 b5 b6 b9 b10 x3 x5 x8 X9 R11 x13 X16 G CP pp w hS hp hg hbox hR hBz hst ho1 ho2 hLn hoO hex hx3 hx5 hx8 hX9 hR11 hx13 hX16
  · obtain rfl : rq9o8 = o := Option.some.inj ho
    obtain rfl : b8 = false := h0
    obtain rfl : b7 = true := h1 ⟨7, .data⟩ (by simp [rq9o8]) rfl
    obtain rfl : b5 = true := h1 ⟨5, .chain⟩ (by simp [rq9o8]) rfl
    obtain rfl : b3 = true := hC 5 rq9o5 rfl rfl ⟨3, .chain⟩ (by simp [rq9o5]) rfl
    obtain rfl : b4 = true := hC 5 rq9o5 rfl rfl ⟨4, .data⟩ (by simp [rq9o5]) rfl
    obtain rfl : b2 = true := hC 3 rq9o3 rfl rfl ⟨2, .data⟩ (by simp [rq9o3]) rfl
    obtain rfl : b11 = false := by
      cases b11 with
      | false => rfl
      | true => exact Bool.noConfusion (show false = true from hC 11 rq9o11 rfl rfl ⟨8, .chain⟩ (by simp [rq9o11]) rfl)
    obtain rfl : b12 = false := by
      cases b12 with
      | false => rfl
      | true => exact Bool.noConfusion (show false = true from hC 12 rq9o12 rfl rfl ⟨11, .data⟩ (by simp [rq9o12]) rfl)
    obtain rfl : b13 = false := by
      cases b13 with
      | false => rfl
      | true => exact Bool.noConfusion (show false = true from hC 13 rq9o13 rfl rfl ⟨12, .data⟩ (by simp [rq9o13]) rfl)
    obtain rfl : b14 = false := by
      cases b14 with
      | false => rfl
      | true => exact Bool.noConfusion (show false = true from hC 14 rq9o14 rfl rfl ⟨8, .data⟩ (by simp [rq9o14]) rfl)
    obtain rfl : b15 = false := by
      cases b15 with
      | false => rfl
      | true => exact Bool.noConfusion (show false = true from hC 15 rq9o15 rfl rfl ⟨14, .data⟩ (by simp [rq9o15]) rfl)
    obtain rfl : b16 = false := by
      cases b16 with
      | false => rfl
      | true => exact Bool.noConfusion (show false = true from hC 16 rq9o16 rfl rfl ⟨15, .data⟩ (by simp [rq9o16]) rfl)
    obtain rfl : b17 = false := by
      cases b17 with
      | false => rfl
      | true => exact Bool.noConfusion (show false = true from hC 17 rq9o17 rfl rfl ⟨11, .chain⟩ (by simp [rq9o17]) rfl)
    obtain rfl : b18 = false := by
      cases b18 with
      | false => rfl
      | true => exact Bool.noConfusion (show false = true from hC 18 rq9o18 rfl rfl ⟨8, .phase⟩ (by simp [rq9o18]) rfl)
    obtain rfl : b19 = false := by
      cases b19 with
      | false => rfl
      | true => exact Bool.noConfusion (show false = true from hC 19 rq9o19 rfl rfl ⟨8, .phase⟩ (by simp [rq9o19]) rfl)
    exact rq9_s8 W0 w0 c a len cap p XR XB B zr y0 y1 y2 y4 aL cL L BO aO nO cO LO kk s1 s4 s6 s7 s8 s9 s10 s11 s12 s13 s14 s15 s16 s17 s18 s19 s20 s21 s22 s23 s24 s25 s26 s27 s28 s29 s30 s31 s32 s33 s34 s35 s36 s37 s38 s39 s40 s41 s42 s43 s44 s45 s46 s47 s48 s49 s50 s51 s52 s53 s54 s55 s56 s57 s58 s59 s60 s61 s62 s63 s64 s65 s66 s67 s68 s69 s70 s71 s72 b0 b1 b6 b9 b10 x3 x5 x8 X9 R11 x13 X16 G CP pp w hS hp hg hbox hR hBz hst ho1 ho2 hLn hoO hex hx3 hx5 hx8 hX9 hR11 hx13 hX16
  · obtain rfl : rq9o9 = o := Option.some.inj ho
    obtain rfl : b9 = false := h0
    obtain rfl : b12 = false := by
      cases b12 with
      | false => rfl
      | true => exact Bool.noConfusion (show false = true from hC 12 rq9o12 rfl rfl ⟨9, .data⟩ (by simp [rq9o12]) rfl)
    obtain rfl : b13 = false := by
      cases b13 with
      | false => rfl
      | true => exact Bool.noConfusion (show false = true from hC 13 rq9o13 rfl rfl ⟨12, .data⟩ (by simp [rq9o13]) rfl)
    obtain rfl : b14 = false := by
      cases b14 with
      | false => rfl
      | true => exact Bool.noConfusion (show false = true from hC 14 rq9o14 rfl rfl ⟨13, .data⟩ (by simp [rq9o14]) rfl)
    obtain rfl : b15 = false := by
      cases b15 with
      | false => rfl
      | true => exact Bool.noConfusion (show false = true from hC 15 rq9o15 rfl rfl ⟨14, .data⟩ (by simp [rq9o15]) rfl)
    obtain rfl : b16 = false := by
      cases b16 with
      | false => rfl
      | true => exact Bool.noConfusion (show false = true from hC 16 rq9o16 rfl rfl ⟨15, .data⟩ (by simp [rq9o16]) rfl)
    obtain rfl : b17 = false := by
      cases b17 with
      | false => rfl
      | true => exact Bool.noConfusion (show false = true from hC 17 rq9o17 rfl rfl ⟨16, .data⟩ (by simp [rq9o17]) rfl)
    obtain rfl : b18 = false := by
      cases b18 with
      | false => rfl
      | true => exact Bool.noConfusion (show false = true from hC 18 rq9o18 rfl rfl ⟨9, .phase⟩ (by simp [rq9o18]) rfl)
    obtain rfl : b19 = false := by
      cases b19 with
      | false => rfl
      | true => exact Bool.noConfusion (show false = true from hC 19 rq9o19 rfl rfl ⟨9, .phase⟩ (by simp [rq9o19]) rfl)
    exact rq9_s9 W0 w0 c a len cap p XR XB B zr y0 y1 y2 y4 aL cL L BO aO nO cO LO kk s1 s4 s6 s7 s8 s9 s10 s11 s12 s13 s14 s15 s16 s17 s18 s19 s20 s21 s22 s23 s24 s25 s26 s27 s28 s29 s30 s31 s32 s33 s34 s35 s36 s37 s38 s39 s40 s41 s42 s43 s44 s45 s46 s47 s48 s49 s50 s51 s52 s53 s54 s55 s56 s57 s58 s59 s60 s61 s62 s63 s64 s65 s66 s67 s68 s69 s70 s71 s72 b0 b1 b2 b3 b4 b5 b6 b7 b8 b10 b11 x3 x5 x8 X9 R11 x13 X16 G CP pp w hS hp hg hbox hR hBz hst ho1 ho2 hLn hoO hex hx3 hx5 hx8 hX9 hR11 hx13 hX16
  · obtain rfl : rq9o10 = o := Option.some.inj ho
    obtain rfl : b10 = false := h0
    obtain rfl : b11 = false := by
      cases b11 with
      | false => rfl
      | true => exact Bool.noConfusion (show false = true from hC 11 rq9o11 rfl rfl ⟨10, .data⟩ (by simp [rq9o11]) rfl)
    obtain rfl : b12 = false := by
      cases b12 with
      | false => rfl
      | true => exact Bool.noConfusion (show false = true from hC 12 rq9o12 rfl rfl ⟨11, .data⟩ (by simp [rq9o12]) rfl)
    obtain rfl : b13 = false := by
      cases b13 with
      | false => rfl
      | true => exact Bool.noConfusion (show false = true from hC 13 rq9o13 rfl rfl ⟨12, .data⟩ (by simp [rq9o13]) rfl)
    obtain rfl : b14 = false := by
      cases b14 with
      | false => rfl
      | true => exact Bool.noConfusion (show false = true from hC 14 rq9o14 rfl rfl ⟨13, .data⟩ (by simp [rq9o14]) rfl)
    obtain rfl : b15 = false := by
      cases b15 with
      | false => rfl
      | true => exact Bool.noConfusion (show false = true from hC 15 rq9o15 rfl rfl ⟨14, .data⟩ (by simp [rq9o15]) rfl)
    obtain rfl : b16 = false := by
      cases b16 with
      | false => rfl
      | true => exact Bool.noConfusion (show false = true from hC 16 rq9o16 rfl rfl ⟨15, .data⟩ (by simp [rq9o16]) rfl)
    obtain rfl : b17 = false := by
      cases b17 with
      | false => rfl
      | true => exact Bool.noConfusion (show false = true from hC 17 rq9o17 rfl rfl ⟨11, .chain⟩ (by simp [rq9o17]) rfl)
    obtain rfl : b18 = false := by
      cases b18 with
      | false => rfl
      | true => exact Bool.noConfusion (show false = true from hC 18 rq9o18 rfl rfl ⟨10, .phase⟩ (by simp [rq9o18]) rfl)
    obtain rfl : b19 = false := by
      cases b19 with
      | false => rfl
      | true => exact Bool.noConfusion (show false = true from hC 19 rq9o19 rfl rfl ⟨10, .phase⟩ (by simp [rq9o19]) rfl)
    exact rq9_s10 W0 w0 c a len cap p XR XB B zr y0 y1 y2 y4 aL cL L BO aO nO cO LO kk s1 s4 s6 s7 s8 s9 s10 s11 s12 s13 s14 s15 s16 s17 s18 s19 s20 s21 s22 s23 s24 s25 s26 s27 s28 s29 s30 s31 s32 s33 s34 s35 s36 s37 s38 s39 s40 s41 s42 s43 s44 s45 s46 s47 s48 s49 s50 s51 s52 s53 s54 s55 s56 s57 s58 s59 s60 s61 s62 s63 s64 s65 s66 s67 s68 s69 s70 s71 s72 b0 b1 b2 b3 b4 b5 b6 b7 b8 b9 x3 x5 x8 X9 R11 x13 X16 G CP pp w hS hp hg hbox hR hBz hst ho1 ho2 hLn hoO hex hx3 hx5 hx8 hX9 hR11 hx13 hX16
  · obtain rfl : rq9o11 = o := Option.some.inj ho
    obtain rfl : b11 = false := h0
    obtain rfl : b10 = true := h1 ⟨10, .data⟩ (by simp [rq9o11]) rfl
    obtain rfl : b8 = true := h1 ⟨8, .chain⟩ (by simp [rq9o11]) rfl
    obtain rfl : b5 = true := hC 8 rq9o8 rfl rfl ⟨5, .chain⟩ (by simp [rq9o8]) rfl
    obtain rfl : b7 = true := hC 8 rq9o8 rfl rfl ⟨7, .data⟩ (by simp [rq9o8]) rfl
    obtain rfl : b3 = true := hC 5 rq9o5 rfl rfl ⟨3, .chain⟩ (by simp [rq9o5]) rfl
    obtain rfl : b4 = true := hC 5 rq9o5 rfl rfl ⟨4, .data⟩ (by simp [rq9o5]) rfl
    obtain rfl : b2 = true := hC 3 rq9o3 rfl rfl ⟨2, .data⟩ (by simp [rq9o3]) rfl
    obtain rfl : b12 = false := by
      cases b12 with
      | false => rfl
      | true => exact Bool.noConfusion (show false = true from hC 12 rq9o12 rfl rfl ⟨11, .data⟩ (by simp [rq9o12]) rfl)
    obtain rfl : b13 = false := by
      cases b13 with
      | false => rfl
      | true => exact Bool.noConfusion (show false = true from hC 13 rq9o13 rfl rfl ⟨12, .data⟩ (by simp [rq9o13]) rfl)
    obtain rfl : b14 = false := by
      cases b14 with
      | false => rfl
      | true => exact Bool.noConfusion (show false = true from hC 14 rq9o14 rfl rfl ⟨13, .data⟩ (by simp [rq9o14]) rfl)
    obtain rfl : b15 = false := by
      cases b15 with
      | false => rfl
      | true => exact Bool.noConfusion (show false = true from hC 15 rq9o15 rfl rfl ⟨14, .data⟩ (by simp [rq9o15]) rfl)
    obtain rfl : b16 = false := by
      cases b16 with
      | false => rfl
      | true => exact Bool.noConfusion (show false = true from hC 16 rq9o16 rfl rfl ⟨15, .data⟩ (by simp [rq9o16]) rfl)
    obtain rfl : b17 = false := by
      cases b17 with
      | false => rfl
      | true => exact Bool.noConfusion (show false = true from hC 17 rq9o17 rfl rfl ⟨11, .chain⟩ (by simp [rq9o17]) rfl)
    obtain rfl : b18 = false := by
      cases b18 with
      | false => rfl
      | true => exact Bool.noConfusion (show false = true from hC 18 rq9o18 rfl rfl ⟨11, .phase⟩ (by simp [rq9o18]) rfl)
    obtain rfl : b19 = false := by
      cases b19 with
      | false => rfl
      | true => exact Bool.noConfusion (show false = true from hC 19 rq9o19 rfl rfl ⟨11, .phase⟩ (by simp [rq9o19]) rfl)
    exact rq9_s11 W0 w0 c a len cap p XR XB B zr y0 y1 y2 y4 aL cL L BO aO nO cO LO kk s1 s4 s6 s7 s8 s9 s10 s11 s12 s13 s14 s15 s16 s17 s18 s19 s20 s21 s22 s23 s24 s25 s26 s27 s28 s29 s30 s31 s32 s33 s34 s35 s36 s37 s38 s39 s40 s41 s42 s43 s44 s45 s46 s47 s48 s49 s50 s51 s52 s53 s54 s55 s56 s57 s58 s59 s60 s61 s62 s63 s64 s65 s66 s67 s68 s69 s70 s71 s72 b0 b1 b6 b9 x3 x5 x8 X9 R11 x13 X16 G CP pp w hS hp hg hbox hR hBz hst ho1 ho2 hLn hoO hex hx3 hx5 hx8 hX9 hR11 hx13 hX16
  · obtain rfl : rq9o12 = o := Option.some.inj ho
    obtain rfl : b12 = false := h0
    obtain rfl : b11 = true := h1 ⟨11, .data⟩ (by simp [rq9o12]) rfl
    obtain rfl : b9 = true := h1 ⟨9, .data⟩ (by simp [rq9o12]) rfl
    obtain rfl : b8 = true := hC 11 rq9o11 rfl rfl ⟨8, .chain⟩ (by simp [rq9o11]) rfl
    obtain rfl : b10 = true := hC 11 rq9o11 rfl rfl ⟨10, .data⟩ (by simp [rq9o11]) rfl
    obtain rfl : b5 = true := hC 8 rq9o8 rfl rfl ⟨5, .chain⟩ (by simp [rq9o8]) rfl
    obtain rfl : b7 = true := hC 8 rq9o8 rfl rfl ⟨7, .data⟩ (by simp [rq9o8]) rfl
    obtain rfl : b3 = true := hC 5 rq9o5 rfl rfl ⟨3, .chain⟩ (by simp [rq9o5]) rfl
    obtain rfl : b4 = true := hC 5 rq9o5 rfl rfl ⟨4, .data⟩ (by simp [rq9o5]) rfl
    obtain rfl : b2 = true := hC 3 rq9o3 rfl rfl ⟨2, .data⟩ (by simp [rq9o3]) rfl
    obtain rfl : b13 = false := by
      cases b13 with
      | false => rfl
      | true => exact Bool.noConfusion (show false = true from hC 13 rq9o13 rfl rfl ⟨12, .data⟩ (by simp [rq9o13]) rfl)
    obtain rfl : b14 = false := by
      cases b14 with
      | false => rfl
      | true => exact Bool.noConfusion (show false = true from hC 14 rq9o14 rfl rfl ⟨13, .data⟩ (by simp [rq9o14]) rfl)
    obtain rfl : b15 = false := by
      cases b15 with
      | false => rfl
      | true => exact Bool.noConfusion (show false = true from hC 15 rq9o15 rfl rfl ⟨14, .data⟩ (by simp [rq9o15]) rfl)
    obtain rfl : b16 = false := by
      cases b16 with
      | false => rfl
      | true => exact Bool.noConfusion (show false = true from hC 16 rq9o16 rfl rfl ⟨15, .data⟩ (by simp [rq9o16]) rfl)
    obtain rfl : b17 = false := by
      cases b17 with
      | false => rfl
      | true => exact Bool.noConfusion (show false = true from hC 17 rq9o17 rfl rfl ⟨16, .data⟩ (by simp [rq9o17]) rfl)
    obtain rfl : b18 = false := by
      cases b18 with
      | false => rfl
      | true => exact Bool.noConfusion (show false = true from hC 18 rq9o18 rfl rfl ⟨12, .phase⟩ (by simp [rq9o18]) rfl)
    obtain rfl : b19 = false := by
      cases b19 with
      | false => rfl
      | true => exact Bool.noConfusion (show false = true from hC 19 rq9o19 rfl rfl ⟨12, .phase⟩ (by simp [rq9o19]) rfl)
    exact rq9_s12 W0 w0 c a len cap p XR XB B zr y0 y1 y2 y4 aL cL L BO aO nO cO LO kk s1 s4 s6 s7 s8 s9 s10 s11 s12 s13 s14 s15 s16 s17 s18 s19 s20 s21 s22 s23 s24 s25 s26 s27 s28 s29 s30 s31 s32 s33 s34 s35 s36 s37 s38 s39 s40 s41 s42 s43 s44 s45 s46 s47 s48 s49 s50 s51 s52 s53 s54 s55 s56 s57 s58 s59 s60 s61 s62 s63 s64 s65 s66 s67 s68 s69 s70 s71 s72 b0 b1 b6 x3 x5 x8 X9 R11 x13 X16 G CP pp w hS hp hg hbox hR hBz hst ho1 ho2 hLn hoO hex hx3 hx5 hx8 hX9 hR11 hx13 hX16
  · obtain rfl : rq9o13 = o := Option.some.inj ho
    obtain rfl : b13 = false := h0
    obtain rfl : b12 = true := h1 ⟨12, .data⟩ (by simp [rq9o13]) rfl
    obtain rfl : b9 = true := hC 12 rq9o12 rfl rfl ⟨9, .data⟩ (by simp [rq9o12]) rfl
    obtain rfl : b11 = true := hC 12 rq9o12 rfl rfl ⟨11, .data⟩ (by simp [rq9o12]) rfl
    obtain rfl : b8 = true := hC 11 rq9o11 rfl rfl ⟨8, .chain⟩ (by simp [rq9o11]) rfl
    obtain rfl : b10 = true := hC 11 rq9o11 rfl rfl ⟨10, .data⟩ (by simp [rq9o11]) rfl
    obtain rfl : b5 = true := hC 8 rq9o8 rfl rfl ⟨5, .chain⟩ (by simp [rq9o8]) rfl
    obtain rfl : b7 = true := hC 8 rq9o8 rfl rfl ⟨7, .data⟩ (by simp [rq9o8]) rfl
    obtain rfl : b3 = true := hC 5 rq9o5 rfl rfl ⟨3, .chain⟩ (by simp [rq9o5]) rfl
    obtain rfl : b4 = true := hC 5 rq9o5 rfl rfl ⟨4, .data⟩ (by simp [rq9o5]) rfl
    obtain rfl : b2 = true := hC 3 rq9o3 rfl rfl ⟨2, .data⟩ (by simp [rq9o3]) rfl
    obtain rfl : b14 = false := by
      cases b14 with
      | false => rfl
      | true => exact Bool.noConfusion (show false = true from hC 14 rq9o14 rfl rfl ⟨13, .data⟩ (by simp [rq9o14]) rfl)
    obtain rfl : b15 = false := by
      cases b15 with
      | false => rfl
      | true => exact Bool.noConfusion (show false = true from hC 15 rq9o15 rfl rfl ⟨14, .data⟩ (by simp [rq9o15]) rfl)
    obtain rfl : b16 = false := by
      cases b16 with
      | false => rfl
      | true => exact Bool.noConfusion (show false = true from hC 16 rq9o16 rfl rfl ⟨15, .data⟩ (by simp [rq9o16]) rfl)
    obtain rfl : b17 = false := by
      cases b17 with
      | false => rfl
      | true => exact Bool.noConfusion (show false = true from hC 17 rq9o17 rfl rfl ⟨16, .data⟩ (by simp [rq9o17]) rfl)
    obtain rfl : b18 = false := by
      cases b18 with
      | false => rfl
      | true => exact Bool.noConfusion (show false = true from hC 18 rq9o18 rfl rfl ⟨13, .phase⟩ (by simp [rq9o18]) rfl)
    obtain rfl : b19 = false := by
      cases b19 with
      | false => rfl
      | true => exact Bool.noConfusion (show false = true from hC 19 rq9o19 rfl rfl ⟨13, .phase⟩ (by simp [rq9o19]) rfl)
    exact rq9_s13 W0 w0 c a len cap p XR XB B zr y0 y1 y2 y4 aL cL L BO aO nO cO LO kk s1 s4 s6 s7 s8 s9 s10 s11 s12 s13 s14 s15 s16 s17 s18 s19 s20 s21 s22 s23 s24 s25 s26 s27 s28 s29 s30 s31 s32 s33 s34 s35 s36 s37 s38 s39 s40 s41 s42 s43 s44 s45 s46 s47 s48 s49 s50 s51 s52 s53 s54 s55 s56 s57 s58 s59 s60 s61 s62 s63 s64 s65 s66 s67 s68 s69 s70 s71 s72 b0 b1 b6 x3 x5 x8 X9 R11 x13 X16 G CP pp w hS hp hg hbox hR hBz hst ho1 ho2 hLn hoO hex hx3 hx5 hx8 hX9 hR11 hx13 hX16
  · obtain rfl : rq9o14 = o := Option.some.inj ho
    obtain rfl : b14 = false := h0
    obtain rfl : b13 = true := h1 ⟨13, .data⟩ (by simp [rq9o14]) rfl
    obtain rfl : b8 = true := h1 ⟨8, .data⟩ (by simp [rq9o14]) rfl
    obtain rfl : b12 = true := hC 13 rq9o13 rfl rfl ⟨12, .data⟩ (by simp [rq9o13]) rfl
    obtain rfl : b9 = true := hC 12 rq9o12 rfl rfl ⟨9, .data⟩ (by simp [rq9o12]) rfl
    obtain rfl : b11 = true := hC 12 rq9o12 rfl rfl ⟨11, .data⟩ (by simp [rq9o12]) rfl
    obtain rfl : b10 = true := hC 11 rq9o11 rfl rfl ⟨10, .data⟩ (by simp [rq9o11]) rfl
    obtain rfl : b5 = true := hC 8 rq9o8 rfl rfl ⟨5, .chain⟩ (by simp [rq9o8]) rfl
    obtain rfl : b7 = true := hC 8 rq9o8 rfl rfl ⟨7, .data⟩ (by simp [rq9o8]) rfl
    obtain rfl : b3 = true := hC 5 rq9o5 rfl rfl ⟨3, .chain⟩ (by simp [rq9o5]) rfl
    obtain rfl : b4 = true := hC 5 rq9o5 rfl rfl ⟨4, .data⟩ (by simp [rq9o5]) rfl
    obtain rfl : b2 = true := hC 3 rq9o3 rfl rfl ⟨2, .data⟩ (by simp [rq9o3]) rfl
    obtain rfl : b15 = false := by
      cases b15 with
      | false => rfl
      | true => exact Bool.noConfusion (show false = true from hC 15 rq9o15 rfl rfl ⟨14, .data⟩ (by simp [rq9o15]) rfl)
    obtain rfl : b16 = false := by
      cases b16 with
      | false => rfl
      | true => exact Bool.noConfusion (show false = true from hC 16 rq9o16 rfl rfl ⟨15, .data⟩ (by simp [rq9o16]) rfl)
    obtain rfl : b17 = false := by
      cases b17 with
      | false => rfl
      | true => exact Bool.noConfusion (show false = true from hC 17 rq9o17 rfl rfl ⟨16, .data⟩ (by simp [rq9o17]) rfl)
    obtain rfl : b18 = false := by
      cases b18 with
      | false => rfl
      | true => exact Bool.noConfusion (show false = true from hC 18 rq9o18 rfl rfl ⟨14, .phase⟩ (by simp [rq9o18]) rfl)
    obtain rfl : b19 = false := by
      cases b19 with
      | false => rfl
      | true => exact Bool.noConfusion (show false = true from hC 19 rq9o19 rfl rfl ⟨14, .phase⟩ (by simp [rq9o19]) rfl)
    exact rq9_s14 W0 w0 c a len cap p XR XB B zr y0 y1 y2 y4 aL cL L BO aO nO cO LO kk s1 s4 s6 s7 s8 s9 s10 s11 s12 s13 s14 s15 s16 s17 s18 s19 s20 s21 s22 s23 s24 s25 s26 s27 s28 s29 s30 s31 s32 s33 s34 s35 s36 s37 s38 s39 s40 s41 s42 s43 s44 s45 s46 s47 s48 s49 s50 s51 s52 s53 s54 s55 s56 s57 s58 s59 s60 s61 s62 s63 s64 s65 s66 s67 s68 s69 s70 s71 s72 b0 b1 b6 x3 x5 x8 X9 R11 x13 X16 G CP pp w hS hp hg hbox hR hBz hst ho1 ho2 hLn hoO hex hx3 hx5 hx8 hX9 hR11 hx13 hX16
  · obtain rfl : rq9o15 = o := Option.some.inj ho
    obtain rfl : b15 = false := h0
    obtain rfl : b14 = true := h1 ⟨14, .data⟩ (by simp [rq9o15]) rfl
    obtain rfl : b6 = true := h1 ⟨6, .data⟩ (by simp [rq9o15]) rfl
    obtain rfl : b8 = true := hC 14 rq9o14 rfl rfl ⟨8, .data⟩ (by simp [rq9o14]) rfl
    obtain rfl : b13 = true := hC 14 rq9o14 rfl rfl ⟨13, .data⟩ (by simp [rq9o14]) rfl
    obtain rfl : b12 = true := hC 13 rq9o13 rfl rfl ⟨12, .data⟩ (by simp [rq9o13]) rfl
    obtain rfl : b9 = true := hC 12 rq9o12 rfl rfl ⟨9, .data⟩ (by simp [rq9o12]) rfl
    obtain rfl : b11 = true := hC 12 rq9o12 rfl rfl ⟨11, .data⟩ (by simp [rq9o12]) rfl
    obtain rfl : b10 = true := hC 11 rq9o11 rfl rfl ⟨10, .data⟩ (by simp [rq9o11]) rfl
    obtain rfl : b5 = true := hC 8 rq9o8 rfl rfl ⟨5, .chain⟩ (by simp [rq9o8]) rfl
    obtain rfl : b7 = true := hC 8 rq9o8 rfl rfl ⟨7, .data⟩ (by simp [rq9o8]) rfl
    obtain rfl : b3 = true := hC 6 rq9o6 rfl rfl ⟨3, .data⟩ (by simp [rq9o6]) rfl
    obtain rfl : b4 = true := hC 5 rq9o5 rfl rfl ⟨4, .data⟩ (by simp [rq9o5]) rfl
    obtain rfl : b2 = true := hC 3 rq9o3 rfl rfl ⟨2, .data⟩ (by simp [rq9o3]) rfl
    obtain rfl : b16 = false := by
      cases b16 with
      | false => rfl
      | true => exact Bool.noConfusion (show false = true from hC 16 rq9o16 rfl rfl ⟨15, .data⟩ (by simp [rq9o16]) rfl)
    obtain rfl : b17 = false := by
      cases b17 with
      | false => rfl
      | true => exact Bool.noConfusion (show false = true from hC 17 rq9o17 rfl rfl ⟨16, .data⟩ (by simp [rq9o17]) rfl)
    obtain rfl : b18 = false := by
      cases b18 with
      | false => rfl
      | true => exact Bool.noConfusion (show false = true from hC 18 rq9o18 rfl rfl ⟨15, .phase⟩ (by simp [rq9o18]) rfl)
    obtain rfl : b19 = false := by
      cases b19 with
      | false => rfl
      | true => exact Bool.noConfusion (show false = true from hC 19 rq9o19 rfl rfl ⟨15, .phase⟩ (by simp [rq9o19]) rfl)
    exact rq9_s15 W0 w0 c a len cap p XR XB B zr y0 y1 y2 y4 aL cL L BO aO nO cO LO kk s1 s4 s6 s7 s8 s9 s10 s11 s12 s13 s14 s15 s16 s17 s18 s19 s20 s21 s22 s23 s24 s25 s26 s27 s28 s29 s30 s31 s32 s33 s34 s35 s36 s37 s38 s39 s40 s41 s42 s43 s44 s45 s46 s47 s48 s49 s50 s51 s52 s53 s54 s55 s56 s57 s58 s59 s60 s61 s62 s63 s64 s65 s66 s67 s68 s69 s70 s71 s72 b0 b1 x3 x5 x8 X9 R11 x13 X16 G CP pp w hS hp hg hbox hR hBz hst ho1 ho2 hLn hoO hex hx3 hx5 hx8 hX9 hR11 hx13 hX16
  · obtain rfl : rq9o16 = o := Option.some.inj ho
    obtain rfl : b16 = false := h0
    obtain rfl : b15 = true := h1 ⟨15, .data⟩ (by simp [rq9o16]) rfl
    obtain rfl : b6 = true := hC 15 rq9o15 rfl rfl ⟨6, .data⟩ (by simp [rq9o15]) rfl
    obtain rfl : b14 = true := hC 15 rq9o15 rfl rfl ⟨14, .data⟩ (by simp [rq9o15]) rfl
    obtain rfl : b8 = true := hC 14 rq9o14 rfl rfl ⟨8, .data⟩ (by simp [rq9o14]) rfl
    obtain rfl : b13 = true := hC 14 rq9o14 rfl rfl ⟨13, .data⟩ (by simp [rq9o14]) rfl
    obtain rfl : b12 = true := hC 13 rq9o13 rfl rfl ⟨12, .data⟩ (by simp [rq9o13]) rfl
    obtain rfl : b9 = true := hC 12 rq9o12 rfl rfl ⟨9, .data⟩ (by simp [rq9o12]) rfl
    obtain rfl : b11 = true := hC 12 rq9o12 rfl rfl ⟨11, .data⟩ (by simp [rq9o12]) rfl
    obtain rfl : b10 = true := hC 11 rq9o11 rfl rfl ⟨10, .data⟩ (by simp [rq9o11]) rfl
    obtain rfl : b5 = true := hC 8 rq9o8 rfl rfl ⟨5, .chain⟩ (by simp [rq9o8]) rfl
    obtain rfl : b7 = true := hC 8 rq9o8 rfl rfl ⟨7, .data⟩ (by simp [rq9o8]) rfl
    obtain rfl : b3 = true := hC 6 rq9o6 rfl rfl ⟨3, .data⟩ (by simp [rq9o6]) rfl
    obtain rfl : b4 = true := hC 5 rq9o5 rfl rfl ⟨4, .data⟩ (by simp [rq9o5]) rfl
    obtain rfl : b2 = true := hC 3 rq9o3 rfl rfl ⟨2, .data⟩ (by simp [rq9o3]) rfl
    obtain rfl : b17 = false := by
      cases b17 with
      | false => rfl
      | true => exact Bool.noConfusion (show false = true from hC 17 rq9o17 rfl rfl ⟨16, .data⟩ (by simp [rq9o17]) rfl)
    obtain rfl : b18 = false := by
      cases b18 with
      | false => rfl
      | true => exact Bool.noConfusion (show false = true from hC 18 rq9o18 rfl rfl ⟨16, .phase⟩ (by simp [rq9o18]) rfl)
    obtain rfl : b19 = false := by
      cases b19 with
      | false => rfl
      | true => exact Bool.noConfusion (show false = true from hC 19 rq9o19 rfl rfl ⟨16, .phase⟩ (by simp [rq9o19]) rfl)
    exact rq9_s16 W0 w0 c a len cap p XR XB B zr y0 y1 y2 y4 aL cL L BO aO nO cO LO kk s1 s4 s6 s7 s8 s9 s10 s11 s12 s13 s14 s15 s16 s17 s18 s19 s20 s21 s22 s23 s24 s25 s26 s27 s28 s29 s30 s31 s32 s33 s34 s35 s36 s37 s38 s39 s40 s41 s42 s43 s44 s45 s46 s47 s48 s49 s50 s51 s52 s53 s54 s55 s56 s57 s58 s59 s60 s61 s62 s63 s64 s65 s66 s67 s68 s69 s70 s71 s72 b0 b1 x3 x5 x8 X9 R11 x13 X16 G CP pp w hS hp hg hbox hR hBz hst ho1 ho2 hLn hoO hex hx3 hx5 hx8 hX9 hR11 hx13 hX16
  · obtain rfl : rq9o17 = o := Option.some.inj ho
    obtain rfl : b17 = false := h0
    obtain rfl : b16 = true := h1 ⟨16, .data⟩ (by simp [rq9o17]) rfl
    obtain rfl : b11 = true := h1 ⟨11, .chain⟩ (by simp [rq9o17]) rfl
    obtain rfl : b1 = true := h1 ⟨1, .data⟩ (by simp [rq9o17]) rfl
    obtain rfl : b15 = true := hC 16 rq9o16 rfl rfl ⟨15, .data⟩ (by simp [rq9o16]) rfl
    obtain rfl : b6 = true := hC 15 rq9o15 rfl rfl ⟨6, .data⟩ (by simp [rq9o15]) rfl
    obtain rfl : b14 = true := hC 15 rq9o15 rfl rfl ⟨14, .data⟩ (by simp [rq9o15]) rfl
    obtain rfl : b8 = true := hC 14 rq9o14 rfl rfl ⟨8, .data⟩ (by simp [rq9o14]) rfl
    obtain rfl : b13 = true := hC 14 rq9o14 rfl rfl ⟨13, .data⟩ (by simp [rq9o14]) rfl
    obtain rfl : b12 = true := hC 13 rq9o13 rfl rfl ⟨12, .data⟩ (by simp [rq9o13]) rfl
    obtain rfl : b9 = true := hC 12 rq9o12 rfl rfl ⟨9, .data⟩ (by simp [rq9o12]) rfl
    obtain rfl : b10 = true := hC 11 rq9o11 rfl rfl ⟨10, .data⟩ (by simp [rq9o11]) rfl
    obtain rfl : b5 = true := hC 8 rq9o8 rfl rfl ⟨5, .chain⟩ (by simp [rq9o8]) rfl
    obtain rfl : b7 = true := hC 8 rq9o8 rfl rfl ⟨7, .data⟩ (by simp [rq9o8]) rfl
    obtain rfl : b3 = true := hC 6 rq9o6 rfl rfl ⟨3, .data⟩ (by simp [rq9o6]) rfl
    obtain rfl : b4 = true := hC 5 rq9o5 rfl rfl ⟨4, .data⟩ (by simp [rq9o5]) rfl
    obtain rfl : b2 = true := hC 3 rq9o3 rfl rfl ⟨2, .data⟩ (by simp [rq9o3]) rfl
    obtain rfl : b0 = true := hC 1 rq9o1 rfl rfl ⟨0, .data⟩ (by simp [rq9o1]) rfl
    obtain rfl : b18 = false := by
      cases b18 with
      | false => rfl
      | true => exact Bool.noConfusion (show false = true from hC 18 rq9o18 rfl rfl ⟨17, .phase⟩ (by simp [rq9o18]) rfl)
    obtain rfl : b19 = false := by
      cases b19 with
      | false => rfl
      | true => exact Bool.noConfusion (show false = true from hC 19 rq9o19 rfl rfl ⟨17, .chain⟩ (by simp [rq9o19]) rfl)
    exact rq9_s17 W0 w0 c a len cap p XR XB B zr y0 y1 y2 y4 aL cL L BO aO nO cO LO kk s1 s4 s6 s7 s8 s9 s10 s11 s12 s13 s14 s15 s16 s17 s18 s19 s20 s21 s22 s23 s24 s25 s26 s27 s28 s29 s30 s31 s32 s33 s34 s35 s36 s37 s38 s39 s40 s41 s42 s43 s44 s45 s46 s47 s48 s49 s50 s51 s52 s53 s54 s55 s56 s57 s58 s59 s60 s61 s62 s63 s64 s65 s66 s67 s68 s69 s70 s71 s72  x3 x5 x8 X9 R11 x13 X16 G CP pp w hS hp hg hbox hR hBz hst ho1 ho2 hLn hoO hex hx3 hx5 hx8 hX9 hR11 hx13 hX16
  · obtain rfl : rq9o18 = o := Option.some.inj ho
    obtain rfl : b18 = false := h0
    obtain rfl : b17 = true := h1 ⟨17, .phase⟩ (by simp [rq9o18]) rfl
    obtain rfl : b16 = true := h1 ⟨16, .phase⟩ (by simp [rq9o18]) rfl
    obtain rfl : b15 = true := h1 ⟨15, .phase⟩ (by simp [rq9o18]) rfl
    obtain rfl : b14 = true := h1 ⟨14, .phase⟩ (by simp [rq9o18]) rfl
    obtain rfl : b13 = true := h1 ⟨13, .phase⟩ (by simp [rq9o18]) rfl
    obtain rfl : b12 = true := h1 ⟨12, .phase⟩ (by simp [rq9o18]) rfl
    obtain rfl : b11 = true := h1 ⟨11, .phase⟩ (by simp [rq9o18]) rfl
    obtain rfl : b10 = true := h1 ⟨10, .phase⟩ (by simp [rq9o18]) rfl
    obtain rfl : b9 = true := h1 ⟨9, .phase⟩ (by simp [rq9o18]) rfl
    obtain rfl : b8 = true := h1 ⟨8, .phase⟩ (by simp [rq9o18]) rfl
    obtain rfl : b7 = true := h1 ⟨7, .phase⟩ (by simp [rq9o18]) rfl
    obtain rfl : b6 = true := h1 ⟨6, .phase⟩ (by simp [rq9o18]) rfl
    obtain rfl : b5 = true := h1 ⟨5, .phase⟩ (by simp [rq9o18]) rfl
    obtain rfl : b4 = true := h1 ⟨4, .phase⟩ (by simp [rq9o18]) rfl
    obtain rfl : b3 = true := h1 ⟨3, .phase⟩ (by simp [rq9o18]) rfl
    obtain rfl : b2 = true := h1 ⟨2, .phase⟩ (by simp [rq9o18]) rfl
    obtain rfl : b1 = true := h1 ⟨1, .phase⟩ (by simp [rq9o18]) rfl
    obtain rfl : b0 = true := h1 ⟨0, .phase⟩ (by simp [rq9o18]) rfl
    obtain rfl : b19 = false := by
      cases b19 with
      | false => rfl
      | true => exact Bool.noConfusion (show false = true from hC 19 rq9o19 rfl rfl ⟨18, .data⟩ (by simp [rq9o19]) rfl)
    exact rq9_s18 W0 w0 c a len cap p XR XB B zr y0 y1 y2 y4 aL cL L BO aO nO cO LO kk s1 s4 s6 s7 s8 s9 s10 s11 s12 s13 s14 s15 s16 s17 s18 s19 s20 s21 s22 s23 s24 s25 s26 s27 s28 s29 s30 s31 s32 s33 s34 s35 s36 s37 s38 s39 s40 s41 s42 s43 s44 s45 s46 s47 s48 s49 s50 s51 s52 s53 s54 s55 s56 s57 s58 s59 s60 s61 s62 s63 s64 s65 s66 s67 s68 s69 s70 s71 s72  x3 x5 x8 X9 R11 x13 X16 G CP pp w hS hp hg hbox hR hBz hst ho1 ho2 hLn hoO hex hx3 hx5 hx8 hX9 hR11 hx13 hX16
  · obtain rfl : rq9o19 = o := Option.some.inj ho
    obtain rfl : b19 = false := h0
    obtain rfl : b18 = true := h1 ⟨18, .data⟩ (by simp [rq9o19]) rfl
    obtain rfl : b17 = true := h1 ⟨17, .chain⟩ (by simp [rq9o19]) rfl
    obtain rfl : b16 = true := h1 ⟨16, .phase⟩ (by simp [rq9o19]) rfl
    obtain rfl : b15 = true := h1 ⟨15, .phase⟩ (by simp [rq9o19]) rfl
    obtain rfl : b14 = true := h1 ⟨14, .phase⟩ (by simp [rq9o19]) rfl
    obtain rfl : b13 = true := h1 ⟨13, .phase⟩ (by simp [rq9o19]) rfl
    obtain rfl : b12 = true := h1 ⟨12, .phase⟩ (by simp [rq9o19]) rfl
    obtain rfl : b11 = true := h1 ⟨11, .phase⟩ (by simp [rq9o19]) rfl
    obtain rfl : b10 = true := h1 ⟨10, .phase⟩ (by simp [rq9o19]) rfl
    obtain rfl : b9 = true := h1 ⟨9, .phase⟩ (by simp [rq9o19]) rfl
    obtain rfl : b8 = true := h1 ⟨8, .phase⟩ (by simp [rq9o19]) rfl
    obtain rfl : b7 = true := h1 ⟨7, .phase⟩ (by simp [rq9o19]) rfl
    obtain rfl : b6 = true := h1 ⟨6, .phase⟩ (by simp [rq9o19]) rfl
    obtain rfl : b5 = true := h1 ⟨5, .phase⟩ (by simp [rq9o19]) rfl
    obtain rfl : b4 = true := h1 ⟨4, .phase⟩ (by simp [rq9o19]) rfl
    obtain rfl : b3 = true := h1 ⟨3, .phase⟩ (by simp [rq9o19]) rfl
    obtain rfl : b2 = true := h1 ⟨2, .phase⟩ (by simp [rq9o19]) rfl
    obtain rfl : b1 = true := h1 ⟨1, .phase⟩ (by simp [rq9o19]) rfl
    obtain rfl : b0 = true := h1 ⟨0, .phase⟩ (by simp [rq9o19]) rfl
    exact rq9_s19 W0 w0 c a len cap p XR XB B zr y0 y1 y2 y4 aL cL L BO aO nO cO LO kk s1 s4 s6 s7 s8 s9 s10 s11 s12 s13 s14 s15 s16 s17 s18 s19 s20 s21 s22 s23 s24 s25 s26 s27 s28 s29 s30 s31 s32 s33 s34 s35 s36 s37 s38 s39 s40 s41 s42 s43 s44 s45 s46 s47 s48 s49 s50 s51 s52 s53 s54 s55 s56 s57 s58 s59 s60 s61 s62 s63 s64 s65 s66 s67 s68 s69 s70 s71 s72  x3 x5 x8 X9 R11 x13 X16 G CP pp w hS hp hg hbox hR hBz hst ho1 ho2 hLn hoO hex hx3 hx5 hx8 hX9 hR11 hx13 hX16
set_option maxRecDepth 20000 in
set_option maxHeartbeats 4000000 in
theorem rq9_wp {Q : Exit → Act → World → Prop} {id : Nat} (W0 w0 : World) (c : Nat) (a : Option Addr) (len cap p XR XB B : Nat) (zr : Array Value) (y0 y1 y2 y4 : Value) (aL : Option Addr) (cL : Nat) (L : List Hp) (BO : Nat) (aO : Option Addr) (nO cO : Nat) (LO : List Hp) (kk : Nat) {s1 s4 s6 s7 s8 s9 s10 s11 s12 s13 s14 s15 s16 s17 s18 s19 s20 s21 s22 s23 s24 s25 s26 s27 s28 s29 s30 s31 s32 s33 s34 s35 s36 s37 s38 s39 s40 s41 s42 s43 s44 s45 s46 s47 s48 s49 s50 s51 s52 s53 s54 s55 s56 s57 s58 s59 s60 s61 s62 s63 s64 s65 s66 s67 s68 s69 s70 s71 s72 : Value} (w : World) (hS : Src W0 w c a len cap p) (hg : w0.grownBy w (some c)) (hbox : RowAt w XB 25 #[y0, y1, y2, .slice aL L.length cL, y4]) (hR : RowAt w XR 25 zr) (hBz : B ≤ w.heap.size) (hst : c < XB ∧ c < B ∧ w0.heap.size ≤ B ∧ XR ≠ XB ∧ w0.heap.size ≤ XB ∧ W0.heap.size ≤ c ∧ p ≤ 900000 ∧ c ≠ XR) (ho1 : OwnHp w B (.slice aL L.length cL) L) (hLn : L.length ≤ 1000) (hoO : OwnHp w BO (.slice aO nO cO) LO ∧ c < BO ∧ ((Value.slice aO nO cO).ownBlock = none ∨ (Value.slice aO nO cO).ownBlock ≠ (Value.slice aL L.length cL).ownBlock)) (hex : kk < 50)
    (fin : ∀ (x3 : ByteArray) (x5 : ByteArray) (x8 : ByteArray) (X9 : Nat) (R11 : Nat) (x13 : ByteArray) (X16 : Nat) (G : Nat) (CP : Nat) (pp : Nat) (w' : World), (Src W0 w' c a len cap pp) → (pp ≤ p + 40 * (1 + 1 + 1)) → (w0.grownBy w' (some c)) → (RowAt w' XB 25 #[y0, y1, y2, .slice (some ⟨G, 0, none⟩) (L.length + 1) CP, y4]) → (RowAt w' XR 25 zr) → (B ≤ w'.heap.size) → (c < XB ∧ c < B ∧ w0.heap.size ≤ B ∧ XR ≠ XB ∧ w0.heap.size ≤ XB ∧ W0.heap.size ≤ c ∧ p ≤ 900000 ∧ c ≠ XR) → (OwnHp w' B (.slice (some ⟨G, 0, none⟩) (L.length + 1) CP) (L ++ [(⟨(x3 ++ x5), (x8 ++ x13)⟩ : Hp)])) → (L.length ≤ 1000) → (OwnHp w' BO (.slice aO nO cO) LO ∧ c < BO ∧ ((Value.slice aO nO cO).ownBlock = none ∨ (Value.slice aO nO cO).ownBlock ≠ (Value.slice aL L.length cL).ownBlock)) → (kk < 50) → (x3.size ≤ 6) → (x5.size ≤ 2) → (x8.size ≤ 6) → (R11 < 3) → (x13.size ≤ 3) → Q .normal { tmps := #[.pointer (some ⟨c, 0, none⟩), s1, .pointer (some ⟨XR, 0, none⟩), .pointer (some ⟨XB, 0, none⟩), s4, .int .i64 (kk : Int), s6, s7, s8, s9, s10, s11, s12, s13, s14, s15, s16, s17, s18, s19, s20, s21, s22, s23, s24, s25, s26, s27, s28, s29, s30, s31, s32, s33, s34, s35, s36, s37, s38, s39, s40, s41, s42, s43, s44, s45, s46, s47, .pointer (some ⟨XB, 3, none⟩), .slice aL L.length cL, .pointer (some ⟨c, 0, none⟩), .string x3, .int .i64 (kk : Int), .string x5, .string (x3 ++ x5), .pointer (some ⟨c, 0, none⟩), .string x8, .slice (some ⟨X9, 0, none⟩) 3 3, .pointer (some ⟨c, 0, none⟩), .int .i64 (R11 : Int), .pointer (some ⟨X9, R11, none⟩), .string x13, .string (x8 ++ x13), .agg #[.string (x3 ++ x5), .string (x8 ++ x13)], .slice (some ⟨X16, 0, none⟩) 1 1, .slice (some ⟨G, 0, none⟩) (L.length + 1) CP, .pointer (some ⟨XB, 3, none⟩), s67, s68, s69, s70, s71, s72], defers := [] } w') :
    (Code.region id rq9O true).wp Tryz.prog Q { tmps := #[.pointer (some ⟨c, 0, none⟩), s1, .pointer (some ⟨XR, 0, none⟩), .pointer (some ⟨XB, 0, none⟩), s4, .int .i64 (kk : Int), s6, s7, s8, s9, s10, s11, s12, s13, s14, s15, s16, s17, s18, s19, s20, s21, s22, s23, s24, s25, s26, s27, s28, s29, s30, s31, s32, s33, s34, s35, s36, s37, s38, s39, s40, s41, s42, s43, s44, s45, s46, s47, s48, s49, s50, s51, s52, s53, s54, s55, s56, s57, s58, s59, s60, s61, s62, s63, s64, s65, s66, s67, s68, s69, s70, s71, s72], defers := [] } w := by
  refine wp_region_inv (ops := rq9O) (rq9I W0 w0 c a len cap p XR XB B zr y0 y1 y2 y4 aL cL L BO aO nO cO LO kk s1 s4 s6 s7 s8 s9 s10 s11 s12 s13 s14 s15 s16 s17 s18 s19 s20 s21 s22 s23 s24 s25 s26 s27 s28 s29 s30 s31 s32 s33 s34 s35 s36 s37 s38 s39 s40 s41 s42 s43 s44 s45 s46 s47 s48 s49 s50 s51 s52 s53 s54 s55 s56 s57 s58 s59 s60 s61 s62 s63 s64 s65 s66 s67 s68 s69 s70 s71 s72) (by kernel_rfl) (by kernel_rfl) (fun l f v hI => ?_) (fun l f v hC hI i h0 o ho h1 => rq9_step W0 w0 c a len cap p XR XB B zr y0 y1 y2 y4 aL cL L BO aO nO cO LO kk s1 s4 s6 s7 s8 s9 s10 s11 s12 s13 s14 s15 s16 s17 s18 s19 s20 s21 s22 s23 s24 s25 s26 s27 s28 s29 s30 s31 s32 s33 s34 s35 s36 s37 s38 s39 s40 s41 s42 s43 s44 s45 s46 s47 s48 s49 s50 s51 s52 s53 s54 s55 s56 s57 s58 s59 s60 s61 s62 s63 s64 s65 s66 s67 s68 s69 s70 s71 s72 l f v hC hI i h0 o ho h1) (fun l f v hI hall => ?_) ?_
  · obtain ⟨_, _, _, _, _, _, _, _, _, _, _, _, _, _, _, _, _, _, _, _, _, _, _, _, _, _, _, _, _, _, rfl, _⟩ := hI; rfl
  · obtain ⟨b0, b1, b2, b3, b4, b5, b6, b7, b8, b9, b10, b11, b12, b13, b14, b15, b16, b17, b18, b19, x3, x5, x8, X9, R11, x13, X16, G, CP, pp, rfl, rfl, hS, hp, hg, hbox, hR, hBz, hst, ho1, ho2, hLn, hoO, hex, hx3, hx5, hx8, hX9, hR11, hx13, hX16⟩ := hI
    obtain rfl : b0 = true := hall 0 (by simp)
    obtain rfl : b1 = true := hall 1 (by simp)
    obtain rfl : b2 = true := hall 2 (by simp)
    obtain rfl : b3 = true := hall 3 (by simp)
    obtain rfl : b4 = true := hall 4 (by simp)
    obtain rfl : b5 = true := hall 5 (by simp)
    obtain rfl : b6 = true := hall 6 (by simp)
    obtain rfl : b7 = true := hall 7 (by simp)
    obtain rfl : b8 = true := hall 8 (by simp)
    obtain rfl : b9 = true := hall 9 (by simp)
    obtain rfl : b10 = true := hall 10 (by simp)
    obtain rfl : b11 = true := hall 11 (by simp)
    obtain rfl : b12 = true := hall 12 (by simp)
    obtain rfl : b13 = true := hall 13 (by simp)
    obtain rfl : b14 = true := hall 14 (by simp)
    obtain rfl : b15 = true := hall 15 (by simp)
    obtain rfl : b16 = true := hall 16 (by simp)
    obtain rfl : b17 = true := hall 17 (by simp)
    obtain rfl : b18 = true := hall 18 (by simp)
    obtain rfl : b19 = true := hall 19 (by simp)
    exact fin x3 x5 x8 X9 R11 x13 X16 G CP pp v hS hp hg hbox hR hBz hst (ho2 rfl) hLn hoO hex (hx3 rfl) (hx5 rfl) (hx8 rfl) (hR11 rfl) (hx13 rfl)
  · exact ⟨false, false, false, false, false, false, false, false, false, false, false, false, false, false, false, false, false, false, false, false, ⟨#[]⟩, ⟨#[]⟩, ⟨#[]⟩, 0, 0, ⟨#[]⟩, 0, 0, 0, p, rfl, rfl, hS.drew, by omega, grown_trans hg (grown_drewS _ _), hbox.drew, hR.drew, hBz, hst, fun _ => World.ownsRow.drew ho1, fun h => Bool.noConfusion h, hLn, ⟨World.ownsRow.drew hoO.1, hoO.2⟩, hex, fun h => Bool.noConfusion h, fun h => Bool.noConfusion h, fun h => Bool.noConfusion h, fun h => Bool.noConfusion h, fun h => Bool.noConfusion h, fun h => Bool.noConfusion h, fun h => Bool.noConfusion h⟩
end Go.Proofs.YtgoplcjjoiiagaaGreatDoor
namespace Go.Proofs.YtgoplcjjoiiagaaGreatDoor
open Go.RowKit
attribute [local go_sem ↓] Go.wp_at_zero Go.wp_at_succ
/-! The draw of a request (by gendrqm.py). -/
theorem grown_refl (w : World) (r : Option Nat) : w.grownBy w r := ⟨rfl, rfl, rfl, Nat.le_refl _, fun _ _ _ => rfl⟩
theorem hp_len (Q : List Hp) (x : Hp) : (Q ++ [x]).length = Q.length + 1 := by simp
theorem apart2 {w : World} {B : Nat} {u v : Value} {L : List Hp} (h : ∀ g, u.ownBlock = some g → g < B) (hO : OwnHp w B v L) : u.ownBlock = none ∨ u.ownBlock ≠ v.ownBlock := by
  cases hu : u.ownBlock with
  | none => exact .inl rfl
  | some g => exact .inr fun e => by have := h g hu; have := (World.ownsRow.lt hO g e.symm).1; omega
theorem mem_app {Q : List Hp} {x : Hp} {P : Hp → Prop} (h : ∀ q ∈ Q, P q) (hx : P x) : ∀ q ∈ Q ++ [x], P q := fun q hq => by
  rcases List.mem_append.1 hq with h1 | h1
  · exact h q h1
  · rw [List.mem_singleton.1 h1]; exact hx
/-- what comes of the draw of a request -/
def DrawnRq (W0 w : World) (c : Nat) (a : Option Addr) (len cap p : Nat) (e : Ending) (w' : World) : Prop :=
  ∃ (m pt b : ByteArray) (Q H : List Hp) (a1 : Option Addr) (c1 : Nat) (a2 : Option Addr) (c2 B1 B2 p' : Nat),
    e = .returned (.agg #[.string m, .string pt, .slice a1 Q.length c1, .slice a2 H.length c2, .string b]) ∧ (m.size ≤ 6 ∧ pt.size ≤ 20 ∧ b.size ≤ 20 ∧ Q.length ≤ 3 ∧ H.length ≤ 3 ∧ (∀ x ∈ Q, x.nm.size ≤ 20 ∧ x.vl.size ≤ 20) ∧ ∀ x ∈ H, x.nm.size ≤ 20 ∧ x.vl.size ≤ 20) ∧
    OwnHp w' B1 (.slice a1 Q.length c1) Q ∧ OwnHp w' B2 (.slice a2 H.length c2) H ∧ w.heap.size ≤ B1 ∧ w.heap.size ≤ B2 ∧ (∀ g, (Value.slice a1 Q.length c1).ownBlock = some g → g < B2) ∧ (B1 ≤ w'.heap.size ∧ B2 ≤ w'.heap.size) ∧ Src W0 w' c a len cap p' ∧ p' ≤ p + 3000 ∧ w.grownBy w' (some c)
set_option maxRecDepth 20000 in
set_option maxHeartbeats 8000000 in
theorem request_all (W0 w : World) (c : Nat) (a : Option Addr) (len cap p : Nat) (h : Src W0 w c a len cap p) (hp : p ≤ 800000) :
    Calls Tryz.prog 51 #[.pointer (some ⟨c, 0, none⟩)] w fun e w' => DrawnRq W0 w c a len cap p e w' := by
  have hcl := h.lt
  have hw0 := h.2.2.2.2
  obtain ⟨W1, hW1⟩ : ∃ W, W = w.alloc (.cells #[.string ⟨#[]⟩, .string ⟨#[]⟩, .slice none 0 0, .slice none 0 0, .string ⟨#[]⟩] 25) := ⟨_, rfl⟩
  have S0 : Hid (Src W0 W1 c a len cap p) := by rw [hW1]; exact h.alloc _
  have G0 : Hid (w.grownBy W1 (some c)) := by rw [hW1]; exact World.grownBy_alloc w _ _
  have RR : Hid (RowAt W1 w.heap.size 25 #[.string ⟨#[]⟩, .string ⟨#[]⟩, .slice none 0 0, .slice none 0 0, .string ⟨#[]⟩]) := by rw [hW1]; exact RowAt.new _ _ _
  have hc1 : c < W1.heap.size := S0.out.lt
  have hs1 : w.heap.size < W1.heap.size := RR.out.lt
  have HW1 := hid hW1
  clear h hW1
  go_enter Tryz.func51, Tryz.ntmps51
  go_upto_region 1 with fail
  rw [← HW1.out]
  refine rq1_wp W0 W1 c a len cap p w.heap.size W1 S0.out (grown_refl _ _) hc1 (by omega) ?_
  intro XT XB R2 mt wd R4 bt pp v hS hp1 hg _ _ _ hm hwd _ hbt hb _
  have HS := hid hS
  have G1 := hid (grown_trans G0.out hg)
  have hXB := hb.1
  have HB := hid hb.2
  have HR := hid (rowF2 RR.out hg (by omega))
  have hsv : W1.heap.size ≤ v.heap.size := hg.size
  have hbv : XB < v.heap.size := hb.2.lt
  clear hS hg hb S0 G0 RR
  go_wp2_with fail
  refine (n_all W0 _ c a len cap pp 4 HS.out (by omega) (by omega) (by omega)).mono ?_
  rintro e w2 ⟨⟨r2, rfl, h20, h21⟩, hs2, hg2⟩
  obtain ⟨N1, rfl⟩ := Int.eq_ofNat_of_zero_le h20
  have S2 := hid hs2
  have G2 := hid (grown_trans G1.out hg2)
  have B2 := hid (rowF HB.out hg2 (by omega))
  have R2' := hid (rowF2 HR.out hg2 (by omega))
  obtain ⟨B, hB⟩ : ∃ B, B = w2.heap.size := ⟨_, rfl⟩
  have hBv : v.heap.size ≤ B := by rw [hB]; exact hg2.size
  have HBe := hid hB
  clear hs2 hg2 HS G1 HB HR hB
  go_wp2_with fail
  go_loopw [4] (fun q wr => ∃ (k : Nat) (Q : List Hp) (aL : Option Addr) (cL pq : Nat), k ≤ 3 ∧ q = .int .i64 (k : Int) ∧ Q.length + k ≤ 3 ∧ (∀ x ∈ Q, x.nm.size ≤ 20 ∧ x.vl.size ≤ 20) ∧ OwnHp wr B (.slice aL Q.length cL) Q ∧ RowAt wr XB 25 #[.string mt, .string ((⟨#[47]⟩ : ByteArray) ++ wd ++ (⟨#[47]⟩ : ByteArray) ++ bt), .slice aL Q.length cL, .slice none 0 0, .string ⟨#[]⟩] ∧ RowAt wr w.heap.size 25 #[.string ⟨#[]⟩, .string ⟨#[]⟩, .slice none 0 0, .slice none 0 0, .string ⟨#[]⟩] ∧ B ≤ wr.heap.size ∧ Src W0 wr c a len cap pq ∧ pq + 160 * k ≤ p + 700 ∧ w.grownBy wr (some c)) (fun q _ => (intOf q).toNat)
  case atStart => exact ⟨N1, [], none, 0, pp + 1, by omega, rfl, by simp; omega, fun x hx => absurd hx List.not_mem_nil, OwnHp.nil _ _, B2.out, R2'.out, by rw [HBe.out]; exact Nat.le_refl _, S2.out, by omega, G2.out⟩
  case round =>
    clear S2 G2 B2 R2'
    obtain ⟨k, Q, aL, cL, pq, hk, rfl, hQk, hQs, hO, hBX, hRR, hBz, hS, hpq, hG⟩ := hrel
    have HO := hid hO
    have HBX := hid hBX
    have HRR := hid hRR
    have HS := hid hS
    have HG := hid hG
    have HQ := hid hQs
    clear hO hBX hRR hS hG hQs
    by_cases hlt : 0 < k
    · have d0 : (0 : Int) < (k : Int) := by omega
      go_upto_region 5 with fail
      refine rq5_wp W0 w c a len cap pq w.heap.size XB B #[.string ⟨#[]⟩, .string ⟨#[]⟩, .slice none 0 0, .slice none 0 0, .string ⟨#[]⟩] (.string mt) (.string ((⟨#[47]⟩ : ByteArray) ++ wd ++ (⟨#[47]⟩ : ByteArray) ++ bt)) (.slice none 0 0) (.string ⟨#[]⟩) aL cL Q k wr HS.out HG.out HBX.out HRR.out hBz ⟨by omega, by omega, by omega, by omega, by omega, hw0, by omega, by omega⟩ HO.out (by omega) (by omega) ?_
      intro x3 x5 R9 x10 X12 G CP pp2 w' hS2 hp2 hg2 hbx2 hR2 hBz2 _ ho2 _ _ hx3 hx5 _ hx10
      have S3 := hid hS2
      have G3 := hid hg2
      have X3 := hid hbx2
      have R3 := hid hR2
      have O3 := hid ho2
      clear hS2 hg2 hbx2 hR2 ho2 HS HG HBX HRR HO
      go_wp2
      go_roundw
      case rel => exact ⟨k - 1, Q ++ [⟨x3 ++ x5, x10⟩], some ⟨G, 0, none⟩, CP, pp2, by omega, by go_num, by rw [hp_len]; omega, mem_app HQ.out ⟨by show (x3 ++ x5).size ≤ 20; rw [ByteArray.size_append]; omega, by show x10.size ≤ 20; omega⟩, by rw [hp_len]; exact O3.out, by rw [hp_len]; exact X3.out, R3.out, hBz2, S3.out, by omega, G3.out⟩
      case measure => simp [intOf]; omega
    · have d0 : ¬ (0 : Int) < (k : Int) := by omega
      go_wp2_with fail
      refine (n_all W0 _ c a len cap pq 4 HS.out (by omega) (by omega) (by omega)).mono ?_
      rintro e w3 ⟨⟨r3, rfl, h30, h31⟩, hs3, hg3⟩
      obtain ⟨N2, rfl⟩ := Int.eq_ofNat_of_zero_le h30
      have S3 := hid hs3
      have G3 := hid (grown_trans HG.out hg3)
      have X3 := hid (rowF HBX.out hg3 (by omega))
      have R3 := hid (rowF2 HRR.out hg3 (by omega))
      have O3 := hid (OwnHp.keptC HO.out hg3 (by omega))
      obtain ⟨B3, hB3⟩ : ∃ B, B = w3.heap.size := ⟨_, rfl⟩
      have hB3v : B ≤ B3 := by rw [hB3]; exact Nat.le_trans hBz hg3.size
      have QB : Hid (∀ g, (Value.slice aL Q.length cL).ownBlock = some g → g < B3) := fun g hg => by rw [hB3]; exact (World.ownsRow.lt O3.out g hg).2
      have HBe3 := hid hB3
      clear hs3 hg3 HS HG HBX HRR HO hB3
      go_wp2_with fail
      go_loopw [5] (fun q wr => ∃ (k : Nat) (H : List Hp) (a2 : Option Addr) (c2 pq : Nat), k ≤ 3 ∧ q = .int .i64 (k : Int) ∧ H.length + k ≤ 3 ∧ (∀ x ∈ H, x.nm.size ≤ 20 ∧ x.vl.size ≤ 20) ∧ OwnHp wr B (.slice aL Q.length cL) Q ∧ OwnHp wr B3 (.slice a2 H.length c2) H ∧ RowAt wr XB 25 #[.string mt, .string ((⟨#[47]⟩ : ByteArray) ++ wd ++ (⟨#[47]⟩ : ByteArray) ++ bt), .slice aL Q.length cL, .slice a2 H.length c2, .string ⟨#[]⟩] ∧ RowAt wr w.heap.size 25 #[.string ⟨#[]⟩, .string ⟨#[]⟩, .slice none 0 0, .slice none 0 0, .string ⟨#[]⟩] ∧ B3 ≤ wr.heap.size ∧ Src W0 wr c a len cap pq ∧ pq + 160 * k ≤ p + 1400 ∧ w.grownBy wr (some c)) (fun q _ => (intOf q).toNat)
      case atStart => exact ⟨N2, [], none, 0, pq + 1, by omega, rfl, by simp; omega, fun x hx => absurd hx List.not_mem_nil, O3.out, OwnHp.nil _ _, X3.out, R3.out, by rw [HBe3.out]; exact Nat.le_refl _, S3.out, by omega, G3.out⟩
      case round =>
        clear S3 G3 X3 R3 O3
        obtain ⟨k4, H, a2, c2, p4, hk4, rfl, hHk, hHs, hOQ, hOH, hBX, hRR, hBz4, hS, hp4, hG⟩ := hrel
        have HOQ := hid hOQ
        have HOH := hid hOH
        have HBX := hid hBX
        have HRR := hid hRR
        have HS := hid hS
        have HG := hid hG
        have HH := hid hHs
        clear hOQ hOH hBX hRR hS hG hHs
        by_cases hlt4 : 0 < k4
        · have d4 : (0 : Int) < (k4 : Int) := by omega
          go_upto_region 9 with fail
          refine rq9_wp W0 w c a len cap p4 w.heap.size XB B3 #[.string ⟨#[]⟩, .string ⟨#[]⟩, .slice none 0 0, .slice none 0 0, .string ⟨#[]⟩] (.string mt) (.string ((⟨#[47]⟩ : ByteArray) ++ wd ++ (⟨#[47]⟩ : ByteArray) ++ bt)) (.slice aL Q.length cL) (.string ⟨#[]⟩) a2 c2 H B aL Q.length cL Q k4 wr HS.out HG.out HBX.out HRR.out hBz4 ⟨by omega, by omega, by omega, by omega, by omega, hw0, by omega, by omega⟩ HOH.out (by omega) ⟨HOQ.out, by omega, apart2 QB.out HOH.out⟩ (by omega) ?_
          intro x3 x5 x8 X9 R11 x13 X16 G CP pp2 w' hS2 hp2 hg2 hbx2 hR2 hBz2 _ ho2 _ hoO _ hx3 hx5 hx8 _ hx13
          have S5 := hid hS2
          have G5 := hid hg2
          have X5 := hid hbx2
          have R5 := hid hR2
          have O5 := hid ho2
          have Q5 := hid hoO.1
          clear hS2 hg2 hbx2 hR2 ho2 hoO HS HG HBX HRR HOH HOQ
          go_wp2
          go_roundw
          case rel => exact ⟨k4 - 1, H ++ [⟨x3 ++ x5, x8 ++ x13⟩], some ⟨G, 0, none⟩, CP, pp2, by omega, by go_num, by rw [hp_len]; omega, mem_app HH.out ⟨by show (x3 ++ x5).size ≤ 20; rw [ByteArray.size_append]; omega, by show (x8 ++ x13).size ≤ 20; rw [ByteArray.size_append]; omega⟩, Q5.out, by rw [hp_len]; exact O5.out, by rw [hp_len]; exact X5.out, R5.out, hBz2, S5.out, by omega, G5.out⟩
          case measure => simp [intOf]; omega
        · have d4 : ¬ (0 : Int) < (k4 : Int) := by omega
          go_wp2_with fail
          refine (n_all W0 _ c a len cap p4 20 HS.out (by omega) (by omega) (by omega)).mono ?_
          rintro e w5 ⟨⟨r5, rfl, h50, h51⟩, hs5, hg5⟩
          obtain ⟨N5, rfl⟩ := Int.eq_ofNat_of_zero_le h50
          have G5 := hid (grown_trans HG.out hg5)
          have X5 := hid (rowF HBX.out hg5 (by omega))
          have R5 := hid (rowF2 HRR.out hg5 (by omega))
          have Q5 := hid (OwnHp.keptC HOQ.out hg5 (by omega))
          have H5 := hid (OwnHp.keptC HOH.out hg5 (by omega))
          have hz5 : B3 ≤ w5.heap.size := Nat.le_trans hBz4 hg5.size
          clear hg5 HS HG HBX HRR HOH HOQ
          go_wp2_with fail
          refine (bytes_all W0 _ c a len cap (p4 + 1) N5 hs5 (by omega) (by omega)).mono ?_
          rintro e w6 ⟨⟨bb, rfl, hbb⟩, ⟨p6, hs6, hp6⟩, hg6⟩
          have X6 := rowF X5.out hg6 (by omega)
          obtain ⟨W7, hW7⟩ : ∃ W, W = w6.setCell ⟨XB, 4, none⟩ (.string bb) := ⟨_, rfl⟩
          have S7 : Hid (Src W0 W7 c a len cap p6) := by rw [hW7]; exact hs6.set (by omega) 4 _
          have G7 : Hid (w.grownBy W7 (some c)) := by rw [hW7]; exact grown_far (grown_trans G5.out hg6) (by omega) 4 _
          have X7 : Hid (RowAt W7 XB 25 #[.string mt, .string ((⟨#[47]⟩ : ByteArray) ++ wd ++ (⟨#[47]⟩ : ByteArray) ++ bt), .slice aL Q.length cL, .slice a2 H.length c2, .string bb]) := by rw [hW7]; exact X6.set 4 _
          have R7 : Hid (RowAt W7 w.heap.size 25 #[.string ⟨#[]⟩, .string ⟨#[]⟩, .slice none 0 0, .slice none 0 0, .string ⟨#[]⟩]) := by rw [hW7]; exact (rowF2 R5.out hg6 (by omega)).other ⟨XB, 4, none⟩ _ (by simp; omega)
          have Q7 : Hid (OwnHp W7 B (.slice aL Q.length cL) Q) := by rw [hW7]; exact OwnHp.setCell (OwnHp.keptC Q5.out hg6 (by omega)) ⟨XB, 4, none⟩ _ (by simp; omega)
          have H7 : Hid (OwnHp W7 B3 (.slice a2 H.length c2) H) := by rw [hW7]; exact OwnHp.setCell (OwnHp.keptC H5.out hg6 (by omega)) ⟨XB, 4, none⟩ _ (by simp; omega)
          have hz7 : B3 ≤ W7.heap.size := by rw [hW7]; have := hg6.size; simp; omega
          have q4 := X6.cell 4
          have f4 := X6.free 4
          have HW7 := hid hW7
          clear hs5 hs6 hg6 hW7 X6 X5 R5 Q5 H5 G5
          go_upto_region 11 with fail
          rw [← HW7.out]
          clear q4 f4 HW7
          have z0 := X7.out.cell 0
          have z1 := X7.out.cell 1
          have z2 := X7.out.cell 2
          have z3 := X7.out.cell 3
          have z4 := X7.out.cell 4
          go_wp2_with (refine wpList_store_row rfl 25 (.tmp 2) (.tmp 72) rfl w.heap.size #[.string mt, .string ((⟨#[47]⟩ : ByteArray) ++ wd ++ (⟨#[47]⟩ : ByteArray) ++ bt), .slice aL Q.length cL, .slice a2 H.length c2, .string bb] rfl rfl _ _ R7.out (by kernel_rfl) rfl (by simp [Value.oneCell']) ?_)
          refine bodyPost_ret (v := .agg #[.string mt, .string ((⟨#[47]⟩ : ByteArray) ++ wd ++ (⟨#[47]⟩ : ByteArray) ++ bt), .slice aL Q.length cL, .slice a2 H.length c2, .string bb]) ?_ rfl ⟨mt, (⟨#[47]⟩ : ByteArray) ++ wd ++ (⟨#[47]⟩ : ByteArray) ++ bt, bb, Q, H, aL, cL, a2, c2, B, B3, p6, rfl, ⟨hm, ?_, by omega, by omega, by omega, HQ.out, HH.out⟩, ?_, ?_, by omega, by omega, QB.out, ?_, ?_, by omega, ?_⟩
          · exact results_cell_row Tryz.results51 _ _ w.heap.size _ _ _ _ rfl (R7.out.setRow _) Tryz.underlying25 rfl (by kernel_rfl)
          · rw [ByteArray.size_append, ByteArray.size_append, ByteArray.size_append]; show 1 + wd.size + 1 + bt.size ≤ 20; omega
          · exact OwnHp.setRow Q7.out (by omega) _
          · exact OwnHp.setRow H7.out (by omega) _
          · have e7 : (W7.setRow w.heap.size #[.string mt, .string ((⟨#[47]⟩ : ByteArray) ++ wd ++ (⟨#[47]⟩ : ByteArray) ++ bt), .slice aL Q.length cL, .slice a2 H.length c2, .string bb]).heap.size = W7.heap.size := by simp [World.setRow]
            rw [e7]
            exact ⟨by omega, hz7⟩
          · exact S7.out.setRowD (by omega) _
          · exact grown_setRowD G7.out (by omega) _
end Go.Proofs.YtgoplcjjoiiagaaGreatDoor
