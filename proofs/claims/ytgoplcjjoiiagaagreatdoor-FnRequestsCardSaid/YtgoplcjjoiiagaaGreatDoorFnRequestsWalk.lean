import Derived.Test.YtgoplcjjoiiagaaGreatDoorD2
import Derived.Test.YtgoplcjjoiiagaaGreatDoorD3
import Derived.Test.YtgoplcjjoiiagaaGreatDoorD4
import Derived.Test.YtgoplcjjoiiagaaGreatDoorD4
import Derived.Test.YtgoplcjjoiiagaaGreatDoorFnRqOf
namespace Go.Proofs.YtgoplcjjoiiagaaGreatDoor
open Go.RowKit
set_option linter.unusedVariables false
theorem ra10_tab2   (k : Nat) (hk : k < 4) : ∃ t : ByteArray, (#[.string ⟨#[]⟩, .string ⟨#[65]⟩, .string ⟨#[108, 101, 110, 103, 116, 104]⟩, .string ⟨#[97]⟩] : Array Value)[k]? = some (.string t) ∧ t.size ≤ 6 := by
  rcases (by omega : k = 0 ∨ k = 1 ∨ k = 2 ∨ k = 3) with rfl | rfl | rfl | rfl
  all_goals exact ⟨_, rfl, by first | decide | assumption⟩
theorem ra10_tab7   (k : Nat) (hk : k < 4) : ∃ t : ByteArray, (#[.string ⟨#[32, 120]⟩, .string ⟨#[120, 32]⟩, .string ⟨#[10]⟩, .string ⟨#[120]⟩] : Array Value)[k]? = some (.string t) ∧ t.size ≤ 2 := by
  rcases (by omega : k = 0 ∨ k = 1 ∨ k = 2 ∨ k = 3) with rfl | rfl | rfl | rfl
  all_goals exact ⟨_, rfl, by first | decide | assumption⟩
def ra10o0 : Oper := { dst := some 46, op := Op.fieldAddr 25 (Operand.tmp 3) 3, type := 0, pos := "l10_request.go:399", after := #[], guard := none }
def ra10o1 : Oper := { dst := some 47, op := Op.load 23 (Operand.tmp 46), type := 23, pos := "l10_request.go:399", after := #[{ on := 0, ground := Ground.data }], guard := none }
def ra10o2 : Oper := { dst := some 48, op := Op.buildSlice 86 4 #[(0, Operand.const (Value.string { data := #[] })), (1, Operand.const (Value.string { data := #[65] })), (2, Operand.const (Value.string { data := #[108, 101, 110, 103, 116, 104] })), (3, Operand.const (Value.string { data := #[97] }))], type := 86, pos := "l10_request.go:399", after := #[], guard := none }
def ra10o3 : Oper := { dst := some 49, op := Op.move (Operand.tmp 0), type := 43, pos := "l10_request.go:399", after := #[], guard := none }
def ra10o4 : Oper := { dst := some 50, op := Op.call { callee := Callee.value (Operand.func 52), args := #[Operand.tmp 49, Operand.const (Value.int IntKind.i64 4)], argTypes := #[43, 2] }, type := 2, pos := "l10_request.go:399", after := #[{ on := 3, ground := Ground.data }], guard := none }
def ra10o5 : Oper := { dst := some 51, op := Op.indexAddr 86 (Operand.tmp 48) (Operand.tmp 50), type := 0, pos := "l10_request.go:399", after := #[{ on := 2, ground := Ground.data }, { on := 4, ground := Ground.data }], guard := none }
def ra10o6 : Oper := { dst := some 52, op := Op.load 9 (Operand.tmp 51), type := 9, pos := "l10_request.go:399", after := #[{ on := 5, ground := Ground.data }], guard := none }
def ra10o7 : Oper := { dst := some 53, op := Op.buildSlice 86 4 #[(0, Operand.const (Value.string { data := #[32, 120] })), (1, Operand.const (Value.string { data := #[120, 32] })), (2, Operand.const (Value.string { data := #[10] })), (3, Operand.const (Value.string { data := #[120] }))], type := 86, pos := "l10_request.go:399", after := #[], guard := none }
def ra10o8 : Oper := { dst := some 54, op := Op.move (Operand.tmp 0), type := 43, pos := "l10_request.go:399", after := #[], guard := none }
def ra10o9 : Oper := { dst := some 55, op := Op.call { callee := Callee.value (Operand.func 52), args := #[Operand.tmp 54, Operand.const (Value.int IntKind.i64 4)], argTypes := #[43, 2] }, type := 2, pos := "l10_request.go:399", after := #[{ on := 8, ground := Ground.data }, { on := 4, ground := Ground.chain }], guard := none }
def ra10o10 : Oper := { dst := some 56, op := Op.indexAddr 86 (Operand.tmp 53) (Operand.tmp 55), type := 0, pos := "l10_request.go:399", after := #[{ on := 7, ground := Ground.data }, { on := 9, ground := Ground.data }], guard := none }
def ra10o11 : Oper := { dst := some 57, op := Op.load 9 (Operand.tmp 56), type := 9, pos := "l10_request.go:399", after := #[{ on := 10, ground := Ground.data }], guard := none }
def ra10o12 : Oper := { dst := some 58, op := Op.build 54 #[(0, Operand.tmp 52), (1, Operand.tmp 57)], type := 54, pos := "l10_request.go:399", after := #[{ on := 6, ground := Ground.data }, { on := 11, ground := Ground.data }], guard := none }
def ra10o13 : Oper := { dst := some 59, op := Op.buildSlice 23 1 #[(0, Operand.tmp 58)], type := 23, pos := "l10_request.go:399", after := #[{ on := 12, ground := Ground.data }], guard := none }
def ra10o14 : Oper := { dst := some 60, op := Op.call { callee := Callee.builtin Builtin.append, args := #[Operand.tmp 47, Operand.tmp 59], argTypes := #[23, 23] }, type := 23, pos := "l10_request.go:399", after := #[{ on := 1, ground := Ground.data }, { on := 13, ground := Ground.data }, { on := 9, ground := Ground.chain }], guard := none }
def ra10o15 : Oper := { dst := some 61, op := Op.fieldAddr 25 (Operand.tmp 3) 3, type := 0, pos := "l10_request.go:399", after := #[{ on := 0, ground := Ground.phase }, { on := 1, ground := Ground.phase }, { on := 2, ground := Ground.phase }, { on := 3, ground := Ground.phase }, { on := 4, ground := Ground.phase }, { on := 5, ground := Ground.phase }, { on := 6, ground := Ground.phase }, { on := 7, ground := Ground.phase }, { on := 8, ground := Ground.phase }, { on := 9, ground := Ground.phase }, { on := 10, ground := Ground.phase }, { on := 11, ground := Ground.phase }, { on := 12, ground := Ground.phase }, { on := 13, ground := Ground.phase }, { on := 14, ground := Ground.phase }], guard := none }
def ra10o16 : Oper := { dst := none, op := Op.store 23 (Operand.tmp 61) (Operand.tmp 60), type := 0, pos := "l10_request.go:399", after := #[{ on := 15, ground := Ground.data }, { on := 14, ground := Ground.data }, { on := 14, ground := Ground.chain }, { on := 0, ground := Ground.phase }, { on := 1, ground := Ground.phase }, { on := 2, ground := Ground.phase }, { on := 3, ground := Ground.phase }, { on := 4, ground := Ground.phase }, { on := 5, ground := Ground.phase }, { on := 6, ground := Ground.phase }, { on := 7, ground := Ground.phase }, { on := 8, ground := Ground.phase }, { on := 9, ground := Ground.phase }, { on := 10, ground := Ground.phase }, { on := 11, ground := Ground.phase }, { on := 12, ground := Ground.phase }, { on := 13, ground := Ground.phase }, { on := 14, ground := Ground.phase }], guard := none }
def ra10O : Array Oper := #[ra10o0, ra10o1, ra10o2, ra10o3, ra10o4, ra10o5, ra10o6, ra10o7, ra10o8, ra10o9, ra10o10, ra10o11, ra10o12, ra10o13, ra10o14, ra10o15, ra10o16]
def ra10I (W0 w0 : World) (c : Nat) (a : Option Addr) (len cap p XR XB B : Nat) (zr : Array Value) (y0 y1 y2 y4 : Value) (aL : Option Addr) (cL : Nat) (L : List Hp) (BO : Nat) (aO : Option Addr) (nO cO : Nat) (LO : List Hp) (s1 s4 s5 s6 s7 s8 s9 s10 s11 s12 s13 s14 s15 s16 s17 s18 s19 s20 s21 s22 s23 s24 s25 s26 s27 s28 s29 s30 s31 s32 s33 s34 s35 s36 s37 s38 s39 s40 s41 s42 s43 s44 s45 s46 s47 s48 s49 s50 s51 s52 s53 s54 s55 s56 s57 s58 s59 s60 s61 s62 s63 s64 s65 s66 s67 s68 s69 s70 s71 : Value) (l : Array Bool) (f : Act) (w : World) : Prop :=
  ∃ (b0 b1 b2 b3 b4 b5 b6 b7 b8 b9 b10 b11 b12 b13 b14 b15 b16 : Bool) (X2 : Nat) (R4 : Nat) (x6 : ByteArray) (X7 : Nat) (R9 : Nat) (x11 : ByteArray) (X13 : Nat) (G : Nat) (CP : Nat) (pp : Nat), l = #[b0, b1, b2, b3, b4, b5, b6, b7, b8, b9, b10, b11, b12, b13, b14, b15, b16] ∧ f = { tmps := #[.pointer (some ⟨c, 0, none⟩), s1, .pointer (some ⟨XR, 0, none⟩), .pointer (some ⟨XB, 0, none⟩), s4, s5, s6, s7, s8, s9, s10, s11, s12, s13, s14, s15, s16, s17, s18, s19, s20, s21, s22, s23, s24, s25, s26, s27, s28, s29, s30, s31, s32, s33, s34, s35, s36, s37, s38, s39, s40, s41, s42, s43, s44, s45, sel b0 (.pointer (some ⟨XB, 3, none⟩)) (s46), sel b1 (.slice aL L.length cL) (s47), sel b2 (.slice (some ⟨X2, 0, none⟩) 4 4) (s48), sel b3 (.pointer (some ⟨c, 0, none⟩)) (s49), sel b4 (.int .i64 (R4 : Int)) (s50), sel b5 (.pointer (some ⟨X2, R4, none⟩)) (s51), sel b6 (.string x6) (s52), sel b7 (.slice (some ⟨X7, 0, none⟩) 4 4) (s53), sel b8 (.pointer (some ⟨c, 0, none⟩)) (s54), sel b9 (.int .i64 (R9 : Int)) (s55), sel b10 (.pointer (some ⟨X7, R9, none⟩)) (s56), sel b11 (.string x11) (s57), sel b12 (.agg #[.string x6, .string x11]) (s58), sel b13 (.slice (some ⟨X13, 0, none⟩) 1 1) (s59), sel b14 (.slice (some ⟨G, 0, none⟩) (L.length + 1) CP) (s60), sel b15 (.pointer (some ⟨XB, 3, none⟩)) (s61), s62, s63, s64, s65, s66, s67, s68, s69, s70, s71], defers := [] } ∧ (Src W0 w c a len cap pp) ∧ (pp ≤ p + 40 * (b4.toNat + b9.toNat)) ∧ (w0.grownBy w (some c)) ∧ (RowAt w XB 25 (cond b16 #[y0, y1, y2, .slice (some ⟨G, 0, none⟩) (L.length + 1) CP, y4] #[y0, y1, y2, .slice aL L.length cL, y4])) ∧ (RowAt w XR 25 zr) ∧ (B ≤ w.heap.size) ∧ (c < XB ∧ c < B ∧ w0.heap.size ≤ B ∧ XR ≠ XB ∧ w0.heap.size ≤ XB ∧ W0.heap.size ≤ c ∧ p ≤ 900000 ∧ c ≠ XR) ∧ (b14 = false → OwnHp w B (.slice aL L.length cL) L) ∧ (b14 = true → OwnHp w B (.slice (some ⟨G, 0, none⟩) (L.length + 1) CP) (L ++ [(⟨x6, x11⟩ : Hp)])) ∧ (L.length ≤ 1000) ∧ (OwnHp w BO (.slice aO nO cO) LO ∧ c < BO ∧ ((Value.slice aO nO cO).ownBlock = none ∨ (Value.slice aO nO cO).ownBlock ≠ (Value.slice aL L.length cL).ownBlock)) ∧ (b2 = true → b14 = false → RowAt w X2 9 #[.string ⟨#[]⟩, .string ⟨#[65]⟩, .string ⟨#[108, 101, 110, 103, 116, 104]⟩, .string ⟨#[97]⟩] ∧ B ≤ X2) ∧ (b4 = true → R4 < 4) ∧ (b6 = true → x6.size ≤ 6) ∧ (b7 = true → b14 = false → RowAt w X7 9 #[.string ⟨#[32, 120]⟩, .string ⟨#[120, 32]⟩, .string ⟨#[10]⟩, .string ⟨#[120]⟩] ∧ B ≤ X7) ∧ (b9 = true → R9 < 4) ∧ (b11 = true → x11.size ≤ 2) ∧ (b13 = true → b14 = false → RowAt w X13 54 #[.string x6, .string x11] ∧ B ≤ X13)
set_option maxRecDepth 20000 in
set_option maxHeartbeats 1000000 in
theorem ra10_s0 {Q : Exit → Act → World → Prop} (W0 w0 : World) (c : Nat) (a : Option Addr) (len cap p XR XB B : Nat) (zr : Array Value) (y0 y1 y2 y4 : Value) (aL : Option Addr) (cL : Nat) (L : List Hp) (BO : Nat) (aO : Option Addr) (nO cO : Nat) (LO : List Hp) (s1 s4 s5 s6 s7 s8 s9 s10 s11 s12 s13 s14 s15 s16 s17 s18 s19 s20 s21 s22 s23 s24 s25 s26 s27 s28 s29 s30 s31 s32 s33 s34 s35 s36 s37 s38 s39 s40 s41 s42 s43 s44 s45 s46 s47 s48 s49 s50 s51 s52 s53 s54 s55 s56 s57 s58 s59 s60 s61 s62 s63 s64 s65 s66 s67 s68 s69 s70 s71 : Value) (b2 b3 b4 b5 b6 b7 b8 b9 b10 b11 b12 b13 : Bool) (X2 : Nat) (R4 : Nat) (x6 : ByteArray) (X7 : Nat) (R9 : Nat) (x11 : ByteArray) (X13 : Nat) (G : Nat) (CP : Nat) (pp : Nat) (w : World) (hS : Src W0 w c a len cap pp) (hp : pp ≤ p + 40 * (b4.toNat + b9.toNat)) (hg : w0.grownBy w (some c)) (hbox : RowAt w XB 25 (cond false #[y0, y1, y2, .slice (some ⟨G, 0, none⟩) (L.length + 1) CP, y4] #[y0, y1, y2, .slice aL L.length cL, y4])) (hR : RowAt w XR 25 zr) (hBz : B ≤ w.heap.size) (hst : c < XB ∧ c < B ∧ w0.heap.size ≤ B ∧ XR ≠ XB ∧ w0.heap.size ≤ XB ∧ W0.heap.size ≤ c ∧ p ≤ 900000 ∧ c ≠ XR) (ho1 : false = false → OwnHp w B (.slice aL L.length cL) L) (ho2 : false = true → OwnHp w B (.slice (some ⟨G, 0, none⟩) (L.length + 1) CP) (L ++ [(⟨x6, x11⟩ : Hp)])) (hLn : L.length ≤ 1000) (hoO : OwnHp w BO (.slice aO nO cO) LO ∧ c < BO ∧ ((Value.slice aO nO cO).ownBlock = none ∨ (Value.slice aO nO cO).ownBlock ≠ (Value.slice aL L.length cL).ownBlock)) (hX2 : b2 = true → false = false → RowAt w X2 9 #[.string ⟨#[]⟩, .string ⟨#[65]⟩, .string ⟨#[108, 101, 110, 103, 116, 104]⟩, .string ⟨#[97]⟩] ∧ B ≤ X2) (hR4 : b4 = true → R4 < 4) (hx6 : b6 = true → x6.size ≤ 6) (hX7 : b7 = true → false = false → RowAt w X7 9 #[.string ⟨#[32, 120]⟩, .string ⟨#[120, 32]⟩, .string ⟨#[10]⟩, .string ⟨#[120]⟩] ∧ B ≤ X7) (hR9 : b9 = true → R9 < 4) (hx11 : b11 = true → x11.size ≤ 2) (hX13 : b13 = true → false = false → RowAt w X13 54 #[.string x6, .string x11] ∧ B ≤ X13) :
    wpOp Tryz.prog ra10O Q 0 (ra10I W0 w0 c a len cap p XR XB B zr y0 y1 y2 y4 aL cL L BO aO nO cO LO s1 s4 s5 s6 s7 s8 s9 s10 s11 s12 s13 s14 s15 s16 s17 s18 s19 s20 s21 s22 s23 s24 s25 s26 s27 s28 s29 s30 s31 s32 s33 s34 s35 s36 s37 s38 s39 s40 s41 s42 s43 s44 s45 s46 s47 s48 s49 s50 s51 s52 s53 s54 s55 s56 s57 s58 s59 s60 s61 s62 s63 s64 s65 s66 s67 s68 s69 s70 s71 #[true, false, b2, b3, b4, b5, b6, b7, b8, b9, b10, b11, b12, b13, false, false, false]) { tmps := #[.pointer (some ⟨c, 0, none⟩), s1, .pointer (some ⟨XR, 0, none⟩), .pointer (some ⟨XB, 0, none⟩), s4, s5, s6, s7, s8, s9, s10, s11, s12, s13, s14, s15, s16, s17, s18, s19, s20, s21, s22, s23, s24, s25, s26, s27, s28, s29, s30, s31, s32, s33, s34, s35, s36, s37, s38, s39, s40, s41, s42, s43, s44, s45, s46, s47, sel b2 (.slice (some ⟨X2, 0, none⟩) 4 4) (s48), sel b3 (.pointer (some ⟨c, 0, none⟩)) (s49), sel b4 (.int .i64 (R4 : Int)) (s50), sel b5 (.pointer (some ⟨X2, R4, none⟩)) (s51), sel b6 (.string x6) (s52), sel b7 (.slice (some ⟨X7, 0, none⟩) 4 4) (s53), sel b8 (.pointer (some ⟨c, 0, none⟩)) (s54), sel b9 (.int .i64 (R9 : Int)) (s55), sel b10 (.pointer (some ⟨X7, R9, none⟩)) (s56), sel b11 (.string x11) (s57), sel b12 (.agg #[.string x6, .string x11]) (s58), sel b13 (.slice (some ⟨X13, 0, none⟩) 1 1) (s59), s60, s61, s62, s63, s64, s65, s66, s67, s68, s69, s70, s71], defers := [] } w := by
  refine wpOp_step (o := { dst := some 46, op := Op.fieldAddr 25 (Operand.tmp 3) 3, type := 0, pos := "l10_request.go:399", after := #[], guard := none }) rfl (fun K hK => ?_)
  replace hK := hid hK
  go_simp
  exact hK.out _ _ ⟨true, false, b2, b3, b4, b5, b6, b7, b8, b9, b10, b11, b12, b13, false, false, false, X2, R4, x6, X7, R9, x11, X13, G, CP, pp, rfl, rfl, hS, hp, hg, hbox, hR, hBz, hst, ho1, ho2, hLn, hoO, hX2, hR4, hx6, hX7, hR9, hx11, hX13⟩
set_option maxRecDepth 20000 in
set_option maxHeartbeats 1000000 in
theorem ra10_s1 {Q : Exit → Act → World → Prop} (W0 w0 : World) (c : Nat) (a : Option Addr) (len cap p XR XB B : Nat) (zr : Array Value) (y0 y1 y2 y4 : Value) (aL : Option Addr) (cL : Nat) (L : List Hp) (BO : Nat) (aO : Option Addr) (nO cO : Nat) (LO : List Hp) (s1 s4 s5 s6 s7 s8 s9 s10 s11 s12 s13 s14 s15 s16 s17 s18 s19 s20 s21 s22 s23 s24 s25 s26 s27 s28 s29 s30 s31 s32 s33 s34 s35 s36 s37 s38 s39 s40 s41 s42 s43 s44 s45 s46 s47 s48 s49 s50 s51 s52 s53 s54 s55 s56 s57 s58 s59 s60 s61 s62 s63 s64 s65 s66 s67 s68 s69 s70 s71 : Value) (b2 b3 b4 b5 b6 b7 b8 b9 b10 b11 b12 b13 : Bool) (X2 : Nat) (R4 : Nat) (x6 : ByteArray) (X7 : Nat) (R9 : Nat) (x11 : ByteArray) (X13 : Nat) (G : Nat) (CP : Nat) (pp : Nat) (w : World) (hS : Src W0 w c a len cap pp) (hp : pp ≤ p + 40 * (b4.toNat + b9.toNat)) (hg : w0.grownBy w (some c)) (hbox : RowAt w XB 25 (cond false #[y0, y1, y2, .slice (some ⟨G, 0, none⟩) (L.length + 1) CP, y4] #[y0, y1, y2, .slice aL L.length cL, y4])) (hR : RowAt w XR 25 zr) (hBz : B ≤ w.heap.size) (hst : c < XB ∧ c < B ∧ w0.heap.size ≤ B ∧ XR ≠ XB ∧ w0.heap.size ≤ XB ∧ W0.heap.size ≤ c ∧ p ≤ 900000 ∧ c ≠ XR) (ho1 : false = false → OwnHp w B (.slice aL L.length cL) L) (ho2 : false = true → OwnHp w B (.slice (some ⟨G, 0, none⟩) (L.length + 1) CP) (L ++ [(⟨x6, x11⟩ : Hp)])) (hLn : L.length ≤ 1000) (hoO : OwnHp w BO (.slice aO nO cO) LO ∧ c < BO ∧ ((Value.slice aO nO cO).ownBlock = none ∨ (Value.slice aO nO cO).ownBlock ≠ (Value.slice aL L.length cL).ownBlock)) (hX2 : b2 = true → false = false → RowAt w X2 9 #[.string ⟨#[]⟩, .string ⟨#[65]⟩, .string ⟨#[108, 101, 110, 103, 116, 104]⟩, .string ⟨#[97]⟩] ∧ B ≤ X2) (hR4 : b4 = true → R4 < 4) (hx6 : b6 = true → x6.size ≤ 6) (hX7 : b7 = true → false = false → RowAt w X7 9 #[.string ⟨#[32, 120]⟩, .string ⟨#[120, 32]⟩, .string ⟨#[10]⟩, .string ⟨#[120]⟩] ∧ B ≤ X7) (hR9 : b9 = true → R9 < 4) (hx11 : b11 = true → x11.size ≤ 2) (hX13 : b13 = true → false = false → RowAt w X13 54 #[.string x6, .string x11] ∧ B ≤ X13) :
    wpOp Tryz.prog ra10O Q 1 (ra10I W0 w0 c a len cap p XR XB B zr y0 y1 y2 y4 aL cL L BO aO nO cO LO s1 s4 s5 s6 s7 s8 s9 s10 s11 s12 s13 s14 s15 s16 s17 s18 s19 s20 s21 s22 s23 s24 s25 s26 s27 s28 s29 s30 s31 s32 s33 s34 s35 s36 s37 s38 s39 s40 s41 s42 s43 s44 s45 s46 s47 s48 s49 s50 s51 s52 s53 s54 s55 s56 s57 s58 s59 s60 s61 s62 s63 s64 s65 s66 s67 s68 s69 s70 s71 #[true, true, b2, b3, b4, b5, b6, b7, b8, b9, b10, b11, b12, b13, false, false, false]) { tmps := #[.pointer (some ⟨c, 0, none⟩), s1, .pointer (some ⟨XR, 0, none⟩), .pointer (some ⟨XB, 0, none⟩), s4, s5, s6, s7, s8, s9, s10, s11, s12, s13, s14, s15, s16, s17, s18, s19, s20, s21, s22, s23, s24, s25, s26, s27, s28, s29, s30, s31, s32, s33, s34, s35, s36, s37, s38, s39, s40, s41, s42, s43, s44, s45, .pointer (some ⟨XB, 3, none⟩), s47, sel b2 (.slice (some ⟨X2, 0, none⟩) 4 4) (s48), sel b3 (.pointer (some ⟨c, 0, none⟩)) (s49), sel b4 (.int .i64 (R4 : Int)) (s50), sel b5 (.pointer (some ⟨X2, R4, none⟩)) (s51), sel b6 (.string x6) (s52), sel b7 (.slice (some ⟨X7, 0, none⟩) 4 4) (s53), sel b8 (.pointer (some ⟨c, 0, none⟩)) (s54), sel b9 (.int .i64 (R9 : Int)) (s55), sel b10 (.pointer (some ⟨X7, R9, none⟩)) (s56), sel b11 (.string x11) (s57), sel b12 (.agg #[.string x6, .string x11]) (s58), sel b13 (.slice (some ⟨X13, 0, none⟩) 1 1) (s59), s60, s61, s62, s63, s64, s65, s66, s67, s68, s69, s70, s71], defers := [] } w := by
  have q := hbox.cell 3
  refine wpOp_step (o := { dst := some 47, op := Op.load 23 (Operand.tmp 46), type := 23, pos := "l10_request.go:399", after := #[{ on := 0, ground := Ground.data }], guard := none }) rfl (fun K hK => ?_)
  replace hK := hid hK
  go_simp
  exact hK.out _ _ ⟨true, true, b2, b3, b4, b5, b6, b7, b8, b9, b10, b11, b12, b13, false, false, false, X2, R4, x6, X7, R9, x11, X13, G, CP, pp, rfl, rfl, hS, hp, hg, hbox, hR, hBz, hst, ho1, ho2, hLn, hoO, hX2, hR4, hx6, hX7, hR9, hx11, hX13⟩
set_option maxRecDepth 20000 in
set_option maxHeartbeats 1000000 in
theorem ra10_s2 {Q : Exit → Act → World → Prop} (W0 w0 : World) (c : Nat) (a : Option Addr) (len cap p XR XB B : Nat) (zr : Array Value) (y0 y1 y2 y4 : Value) (aL : Option Addr) (cL : Nat) (L : List Hp) (BO : Nat) (aO : Option Addr) (nO cO : Nat) (LO : List Hp) (s1 s4 s5 s6 s7 s8 s9 s10 s11 s12 s13 s14 s15 s16 s17 s18 s19 s20 s21 s22 s23 s24 s25 s26 s27 s28 s29 s30 s31 s32 s33 s34 s35 s36 s37 s38 s39 s40 s41 s42 s43 s44 s45 s46 s47 s48 s49 s50 s51 s52 s53 s54 s55 s56 s57 s58 s59 s60 s61 s62 s63 s64 s65 s66 s67 s68 s69 s70 s71 : Value) (b0 b1 b3 b4 b7 b8 b9 b10 b11 : Bool) (X2 : Nat) (R4 : Nat) (x6 : ByteArray) (X7 : Nat) (R9 : Nat) (x11 : ByteArray) (X13 : Nat) (G : Nat) (CP : Nat) (pp : Nat) (w : World) (hS : Src W0 w c a len cap pp) (hp : pp ≤ p + 40 * (b4.toNat + b9.toNat)) (hg : w0.grownBy w (some c)) (hbox : RowAt w XB 25 (cond false #[y0, y1, y2, .slice (some ⟨G, 0, none⟩) (L.length + 1) CP, y4] #[y0, y1, y2, .slice aL L.length cL, y4])) (hR : RowAt w XR 25 zr) (hBz : B ≤ w.heap.size) (hst : c < XB ∧ c < B ∧ w0.heap.size ≤ B ∧ XR ≠ XB ∧ w0.heap.size ≤ XB ∧ W0.heap.size ≤ c ∧ p ≤ 900000 ∧ c ≠ XR) (ho1 : false = false → OwnHp w B (.slice aL L.length cL) L) (ho2 : false = true → OwnHp w B (.slice (some ⟨G, 0, none⟩) (L.length + 1) CP) (L ++ [(⟨x6, x11⟩ : Hp)])) (hLn : L.length ≤ 1000) (hoO : OwnHp w BO (.slice aO nO cO) LO ∧ c < BO ∧ ((Value.slice aO nO cO).ownBlock = none ∨ (Value.slice aO nO cO).ownBlock ≠ (Value.slice aL L.length cL).ownBlock)) (hX2 : false = true → false = false → RowAt w X2 9 #[.string ⟨#[]⟩, .string ⟨#[65]⟩, .string ⟨#[108, 101, 110, 103, 116, 104]⟩, .string ⟨#[97]⟩] ∧ B ≤ X2) (hR4 : b4 = true → R4 < 4) (hx6 : false = true → x6.size ≤ 6) (hX7 : b7 = true → false = false → RowAt w X7 9 #[.string ⟨#[32, 120]⟩, .string ⟨#[120, 32]⟩, .string ⟨#[10]⟩, .string ⟨#[120]⟩] ∧ B ≤ X7) (hR9 : b9 = true → R9 < 4) (hx11 : b11 = true → x11.size ≤ 2) (hX13 : false = true → false = false → RowAt w X13 54 #[.string x6, .string x11] ∧ B ≤ X13) :
    wpOp Tryz.prog ra10O Q 2 (ra10I W0 w0 c a len cap p XR XB B zr y0 y1 y2 y4 aL cL L BO aO nO cO LO s1 s4 s5 s6 s7 s8 s9 s10 s11 s12 s13 s14 s15 s16 s17 s18 s19 s20 s21 s22 s23 s24 s25 s26 s27 s28 s29 s30 s31 s32 s33 s34 s35 s36 s37 s38 s39 s40 s41 s42 s43 s44 s45 s46 s47 s48 s49 s50 s51 s52 s53 s54 s55 s56 s57 s58 s59 s60 s61 s62 s63 s64 s65 s66 s67 s68 s69 s70 s71 #[b0, b1, true, b3, b4, false, false, b7, b8, b9, b10, b11, false, false, false, false, false]) { tmps := #[.pointer (some ⟨c, 0, none⟩), s1, .pointer (some ⟨XR, 0, none⟩), .pointer (some ⟨XB, 0, none⟩), s4, s5, s6, s7, s8, s9, s10, s11, s12, s13, s14, s15, s16, s17, s18, s19, s20, s21, s22, s23, s24, s25, s26, s27, s28, s29, s30, s31, s32, s33, s34, s35, s36, s37, s38, s39, s40, s41, s42, s43, s44, s45, sel b0 (.pointer (some ⟨XB, 3, none⟩)) (s46), sel b1 (.slice aL L.length cL) (s47), s48, sel b3 (.pointer (some ⟨c, 0, none⟩)) (s49), sel b4 (.int .i64 (R4 : Int)) (s50), s51, s52, sel b7 (.slice (some ⟨X7, 0, none⟩) 4 4) (s53), sel b8 (.pointer (some ⟨c, 0, none⟩)) (s54), sel b9 (.int .i64 (R9 : Int)) (s55), sel b10 (.pointer (some ⟨X7, R9, none⟩)) (s56), sel b11 (.string x11) (s57), s58, s59, s60, s61, s62, s63, s64, s65, s66, s67, s68, s69, s70, s71], defers := [] } w := by
  refine wpOp_step (o := { dst := some 48, op := Op.buildSlice 86 4 #[(0, Operand.const (Value.string { data := #[] })), (1, Operand.const (Value.string { data := #[65] })), (2, Operand.const (Value.string { data := #[108, 101, 110, 103, 116, 104] })), (3, Operand.const (Value.string { data := #[97] }))], type := 86, pos := "l10_request.go:399", after := #[], guard := none }) rfl (fun K hK => ?_)
  replace hK := hid hK
  go_simp
  exact hK.out _ _ ⟨b0, b1, true, b3, b4, false, false, b7, b8, b9, b10, b11, false, false, false, false, false, w.heap.size, R4, x6, X7, R9, x11, X13, G, CP, pp, rfl, rfl, hS.alloc _, hp, grown_al hg _, hbox.alloc _, hR.alloc _, by simp only [World.size_alloc]; omega, hst, fun h => World.ownsRow.alloc (ho1 h) _, fun h => Bool.noConfusion h, hLn, ⟨World.ownsRow.alloc hoO.1 _, hoO.2⟩, fun _ _ => ⟨RowAt.new w _ _, hBz⟩, hR4, hx6, fun h e => ⟨(hX7 h e).1.alloc _, (hX7 h e).2⟩, hR9, hx11, fun h => Bool.noConfusion h⟩
set_option maxRecDepth 20000 in
set_option maxHeartbeats 1000000 in
theorem ra10_s3 {Q : Exit → Act → World → Prop} (W0 w0 : World) (c : Nat) (a : Option Addr) (len cap p XR XB B : Nat) (zr : Array Value) (y0 y1 y2 y4 : Value) (aL : Option Addr) (cL : Nat) (L : List Hp) (BO : Nat) (aO : Option Addr) (nO cO : Nat) (LO : List Hp) (s1 s4 s5 s6 s7 s8 s9 s10 s11 s12 s13 s14 s15 s16 s17 s18 s19 s20 s21 s22 s23 s24 s25 s26 s27 s28 s29 s30 s31 s32 s33 s34 s35 s36 s37 s38 s39 s40 s41 s42 s43 s44 s45 s46 s47 s48 s49 s50 s51 s52 s53 s54 s55 s56 s57 s58 s59 s60 s61 s62 s63 s64 s65 s66 s67 s68 s69 s70 s71 : Value) (b0 b1 b2 b7 b8 : Bool) (X2 : Nat) (R4 : Nat) (x6 : ByteArray) (X7 : Nat) (R9 : Nat) (x11 : ByteArray) (X13 : Nat) (G : Nat) (CP : Nat) (pp : Nat) (w : World) (hS : Src W0 w c a len cap pp) (hp : pp ≤ p + 40 * (0 + 0)) (hg : w0.grownBy w (some c)) (hbox : RowAt w XB 25 (cond false #[y0, y1, y2, .slice (some ⟨G, 0, none⟩) (L.length + 1) CP, y4] #[y0, y1, y2, .slice aL L.length cL, y4])) (hR : RowAt w XR 25 zr) (hBz : B ≤ w.heap.size) (hst : c < XB ∧ c < B ∧ w0.heap.size ≤ B ∧ XR ≠ XB ∧ w0.heap.size ≤ XB ∧ W0.heap.size ≤ c ∧ p ≤ 900000 ∧ c ≠ XR) (ho1 : false = false → OwnHp w B (.slice aL L.length cL) L) (ho2 : false = true → OwnHp w B (.slice (some ⟨G, 0, none⟩) (L.length + 1) CP) (L ++ [(⟨x6, x11⟩ : Hp)])) (hLn : L.length ≤ 1000) (hoO : OwnHp w BO (.slice aO nO cO) LO ∧ c < BO ∧ ((Value.slice aO nO cO).ownBlock = none ∨ (Value.slice aO nO cO).ownBlock ≠ (Value.slice aL L.length cL).ownBlock)) (hX2 : b2 = true → false = false → RowAt w X2 9 #[.string ⟨#[]⟩, .string ⟨#[65]⟩, .string ⟨#[108, 101, 110, 103, 116, 104]⟩, .string ⟨#[97]⟩] ∧ B ≤ X2) (hR4 : false = true → R4 < 4) (hx6 : false = true → x6.size ≤ 6) (hX7 : b7 = true → false = false → RowAt w X7 9 #[.string ⟨#[32, 120]⟩, .string ⟨#[120, 32]⟩, .string ⟨#[10]⟩, .string ⟨#[120]⟩] ∧ B ≤ X7) (hR9 : false = true → R9 < 4) (hx11 : false = true → x11.size ≤ 2) (hX13 : false = true → false = false → RowAt w X13 54 #[.string x6, .string x11] ∧ B ≤ X13) :
    wpOp Tryz.prog ra10O Q 3 (ra10I W0 w0 c a len cap p XR XB B zr y0 y1 y2 y4 aL cL L BO aO nO cO LO s1 s4 s5 s6 s7 s8 s9 s10 s11 s12 s13 s14 s15 s16 s17 s18 s19 s20 s21 s22 s23 s24 s25 s26 s27 s28 s29 s30 s31 s32 s33 s34 s35 s36 s37 s38 s39 s40 s41 s42 s43 s44 s45 s46 s47 s48 s49 s50 s51 s52 s53 s54 s55 s56 s57 s58 s59 s60 s61 s62 s63 s64 s65 s66 s67 s68 s69 s70 s71 #[b0, b1, b2, true, false, false, false, b7, b8, false, false, false, false, false, false, false, false]) { tmps := #[.pointer (some ⟨c, 0, none⟩), s1, .pointer (some ⟨XR, 0, none⟩), .pointer (some ⟨XB, 0, none⟩), s4, s5, s6, s7, s8, s9, s10, s11, s12, s13, s14, s15, s16, s17, s18, s19, s20, s21, s22, s23, s24, s25, s26, s27, s28, s29, s30, s31, s32, s33, s34, s35, s36, s37, s38, s39, s40, s41, s42, s43, s44, s45, sel b0 (.pointer (some ⟨XB, 3, none⟩)) (s46), sel b1 (.slice aL L.length cL) (s47), sel b2 (.slice (some ⟨X2, 0, none⟩) 4 4) (s48), s49, s50, s51, s52, sel b7 (.slice (some ⟨X7, 0, none⟩) 4 4) (s53), sel b8 (.pointer (some ⟨c, 0, none⟩)) (s54), s55, s56, s57, s58, s59, s60, s61, s62, s63, s64, s65, s66, s67, s68, s69, s70, s71], defers := [] } w := by
  refine wpOp_step (o := { dst := some 49, op := Op.move (Operand.tmp 0), type := 43, pos := "l10_request.go:399", after := #[], guard := none }) rfl (fun K hK => ?_)
  replace hK := hid hK
  go_simp
  exact hK.out _ _ ⟨b0, b1, b2, true, false, false, false, b7, b8, false, false, false, false, false, false, false, false, X2, R4, x6, X7, R9, x11, X13, G, CP, pp, rfl, rfl, hS, hp, hg, hbox, hR, hBz, hst, ho1, ho2, hLn, hoO, hX2, hR4, hx6, hX7, hR9, hx11, hX13⟩
set_option maxRecDepth 20000 in
set_option maxHeartbeats 1000000 in
theorem ra10_s4 {Q : Exit → Act → World → Prop} (W0 w0 : World) (c : Nat) (a : Option Addr) (len cap p XR XB B : Nat) (zr : Array Value) (y0 y1 y2 y4 : Value) (aL : Option Addr) (cL : Nat) (L : List Hp) (BO : Nat) (aO : Option Addr) (nO cO : Nat) (LO : List Hp) (s1 s4 s5 s6 s7 s8 s9 s10 s11 s12 s13 s14 s15 s16 s17 s18 s19 s20 s21 s22 s23 s24 s25 s26 s27 s28 s29 s30 s31 s32 s33 s34 s35 s36 s37 s38 s39 s40 s41 s42 s43 s44 s45 s46 s47 s48 s49 s50 s51 s52 s53 s54 s55 s56 s57 s58 s59 s60 s61 s62 s63 s64 s65 s66 s67 s68 s69 s70 s71 : Value) (b0 b1 b2 b7 b8 : Bool) (X2 : Nat) (R4 : Nat) (x6 : ByteArray) (X7 : Nat) (R9 : Nat) (x11 : ByteArray) (X13 : Nat) (G : Nat) (CP : Nat) (pp : Nat) (w : World) (hS : Src W0 w c a len cap pp) (hp : pp ≤ p + 40 * (0 + 0)) (hg : w0.grownBy w (some c)) (hbox : RowAt w XB 25 (cond false #[y0, y1, y2, .slice (some ⟨G, 0, none⟩) (L.length + 1) CP, y4] #[y0, y1, y2, .slice aL L.length cL, y4])) (hR : RowAt w XR 25 zr) (hBz : B ≤ w.heap.size) (hst : c < XB ∧ c < B ∧ w0.heap.size ≤ B ∧ XR ≠ XB ∧ w0.heap.size ≤ XB ∧ W0.heap.size ≤ c ∧ p ≤ 900000 ∧ c ≠ XR) (ho1 : false = false → OwnHp w B (.slice aL L.length cL) L) (ho2 : false = true → OwnHp w B (.slice (some ⟨G, 0, none⟩) (L.length + 1) CP) (L ++ [(⟨x6, x11⟩ : Hp)])) (hLn : L.length ≤ 1000) (hoO : OwnHp w BO (.slice aO nO cO) LO ∧ c < BO ∧ ((Value.slice aO nO cO).ownBlock = none ∨ (Value.slice aO nO cO).ownBlock ≠ (Value.slice aL L.length cL).ownBlock)) (hX2 : b2 = true → false = false → RowAt w X2 9 #[.string ⟨#[]⟩, .string ⟨#[65]⟩, .string ⟨#[108, 101, 110, 103, 116, 104]⟩, .string ⟨#[97]⟩] ∧ B ≤ X2) (hR4 : false = true → R4 < 4) (hx6 : false = true → x6.size ≤ 6) (hX7 : b7 = true → false = false → RowAt w X7 9 #[.string ⟨#[32, 120]⟩, .string ⟨#[120, 32]⟩, .string ⟨#[10]⟩, .string ⟨#[120]⟩] ∧ B ≤ X7) (hR9 : false = true → R9 < 4) (hx11 : false = true → x11.size ≤ 2) (hX13 : false = true → false = false → RowAt w X13 54 #[.string x6, .string x11] ∧ B ≤ X13) :
    wpOp Tryz.prog ra10O Q 4 (ra10I W0 w0 c a len cap p XR XB B zr y0 y1 y2 y4 aL cL L BO aO nO cO LO s1 s4 s5 s6 s7 s8 s9 s10 s11 s12 s13 s14 s15 s16 s17 s18 s19 s20 s21 s22 s23 s24 s25 s26 s27 s28 s29 s30 s31 s32 s33 s34 s35 s36 s37 s38 s39 s40 s41 s42 s43 s44 s45 s46 s47 s48 s49 s50 s51 s52 s53 s54 s55 s56 s57 s58 s59 s60 s61 s62 s63 s64 s65 s66 s67 s68 s69 s70 s71 #[b0, b1, b2, true, true, false, false, b7, b8, false, false, false, false, false, false, false, false]) { tmps := #[.pointer (some ⟨c, 0, none⟩), s1, .pointer (some ⟨XR, 0, none⟩), .pointer (some ⟨XB, 0, none⟩), s4, s5, s6, s7, s8, s9, s10, s11, s12, s13, s14, s15, s16, s17, s18, s19, s20, s21, s22, s23, s24, s25, s26, s27, s28, s29, s30, s31, s32, s33, s34, s35, s36, s37, s38, s39, s40, s41, s42, s43, s44, s45, sel b0 (.pointer (some ⟨XB, 3, none⟩)) (s46), sel b1 (.slice aL L.length cL) (s47), sel b2 (.slice (some ⟨X2, 0, none⟩) 4 4) (s48), .pointer (some ⟨c, 0, none⟩), s50, s51, s52, sel b7 (.slice (some ⟨X7, 0, none⟩) 4 4) (s53), sel b8 (.pointer (some ⟨c, 0, none⟩)) (s54), s55, s56, s57, s58, s59, s60, s61, s62, s63, s64, s65, s66, s67, s68, s69, s70, s71], defers := [] } w := by
  have hcB : c < B := by omega
  refine wpOp_step (o := { dst := some 50, op := Op.call { callee := Callee.value (Operand.func 52), args := #[Operand.tmp 49, Operand.const (Value.int IntKind.i64 4)], argTypes := #[43, 2] }, type := 2, pos := "l10_request.go:399", after := #[{ on := 3, ground := Ground.data }], guard := none }) rfl (fun K hK => ?_)
  replace hK := hid hK
  go_simp
  refine (n_all W0 _ c a len cap pp 4 hS (by omega) (by omega) (by omega)).mono ?_
  rintro e w2 ⟨⟨r, rfl, h20, h21⟩, hs2, hg2⟩
  obtain ⟨R, rfl⟩ := Int.eq_ofNat_of_zero_le h20
  dsimp only
  exact hK.out _ _ ⟨b0, b1, b2, true, true, false, false, b7, b8, false, false, false, false, false, false, false, false, X2, R, x6, X7, R9, x11, X13, G, CP, pp + 1, rfl, rfl, hs2, by show pp + 1 ≤ p + 40 * (1 + 0); omega, grown_trans hg hg2, rowF hbox hg2 hst.1, rowF2 hR hg2 hst.2.2.2.2.2.2.2, Nat.le_trans hBz hg2.size, hst, fun h => OwnHp.keptC (ho1 h) hg2 (by omega), fun h => Bool.noConfusion h, hLn, ⟨OwnHp.keptC hoO.1 hg2 hoO.2.1, hoO.2⟩, fun h e => ⟨rowF (hX2 h e).1 hg2 (by have := (hX2 h e).2; omega), (hX2 h e).2⟩, fun _ => by omega, hx6, fun h e => ⟨rowF (hX7 h e).1 hg2 (by have := (hX7 h e).2; omega), (hX7 h e).2⟩, hR9, hx11, fun h => Bool.noConfusion h⟩
set_option maxRecDepth 20000 in
set_option maxHeartbeats 1000000 in
theorem ra10_s5 {Q : Exit → Act → World → Prop} (W0 w0 : World) (c : Nat) (a : Option Addr) (len cap p XR XB B : Nat) (zr : Array Value) (y0 y1 y2 y4 : Value) (aL : Option Addr) (cL : Nat) (L : List Hp) (BO : Nat) (aO : Option Addr) (nO cO : Nat) (LO : List Hp) (s1 s4 s5 s6 s7 s8 s9 s10 s11 s12 s13 s14 s15 s16 s17 s18 s19 s20 s21 s22 s23 s24 s25 s26 s27 s28 s29 s30 s31 s32 s33 s34 s35 s36 s37 s38 s39 s40 s41 s42 s43 s44 s45 s46 s47 s48 s49 s50 s51 s52 s53 s54 s55 s56 s57 s58 s59 s60 s61 s62 s63 s64 s65 s66 s67 s68 s69 s70 s71 : Value) (b0 b1 b7 b8 b9 b10 b11 : Bool) (X2 : Nat) (R4 : Nat) (x6 : ByteArray) (X7 : Nat) (R9 : Nat) (x11 : ByteArray) (X13 : Nat) (G : Nat) (CP : Nat) (pp : Nat) (w : World) (hS : Src W0 w c a len cap pp) (hp : pp ≤ p + 40 * (1 + b9.toNat)) (hg : w0.grownBy w (some c)) (hbox : RowAt w XB 25 (cond false #[y0, y1, y2, .slice (some ⟨G, 0, none⟩) (L.length + 1) CP, y4] #[y0, y1, y2, .slice aL L.length cL, y4])) (hR : RowAt w XR 25 zr) (hBz : B ≤ w.heap.size) (hst : c < XB ∧ c < B ∧ w0.heap.size ≤ B ∧ XR ≠ XB ∧ w0.heap.size ≤ XB ∧ W0.heap.size ≤ c ∧ p ≤ 900000 ∧ c ≠ XR) (ho1 : false = false → OwnHp w B (.slice aL L.length cL) L) (ho2 : false = true → OwnHp w B (.slice (some ⟨G, 0, none⟩) (L.length + 1) CP) (L ++ [(⟨x6, x11⟩ : Hp)])) (hLn : L.length ≤ 1000) (hoO : OwnHp w BO (.slice aO nO cO) LO ∧ c < BO ∧ ((Value.slice aO nO cO).ownBlock = none ∨ (Value.slice aO nO cO).ownBlock ≠ (Value.slice aL L.length cL).ownBlock)) (hX2 : true = true → false = false → RowAt w X2 9 #[.string ⟨#[]⟩, .string ⟨#[65]⟩, .string ⟨#[108, 101, 110, 103, 116, 104]⟩, .string ⟨#[97]⟩] ∧ B ≤ X2) (hR4 : true = true → R4 < 4) (hx6 : false = true → x6.size ≤ 6) (hX7 : b7 = true → false = false → RowAt w X7 9 #[.string ⟨#[32, 120]⟩, .string ⟨#[120, 32]⟩, .string ⟨#[10]⟩, .string ⟨#[120]⟩] ∧ B ≤ X7) (hR9 : b9 = true → R9 < 4) (hx11 : b11 = true → x11.size ≤ 2) (hX13 : false = true → false = false → RowAt w X13 54 #[.string x6, .string x11] ∧ B ≤ X13) :
    wpOp Tryz.prog ra10O Q 5 (ra10I W0 w0 c a len cap p XR XB B zr y0 y1 y2 y4 aL cL L BO aO nO cO LO s1 s4 s5 s6 s7 s8 s9 s10 s11 s12 s13 s14 s15 s16 s17 s18 s19 s20 s21 s22 s23 s24 s25 s26 s27 s28 s29 s30 s31 s32 s33 s34 s35 s36 s37 s38 s39 s40 s41 s42 s43 s44 s45 s46 s47 s48 s49 s50 s51 s52 s53 s54 s55 s56 s57 s58 s59 s60 s61 s62 s63 s64 s65 s66 s67 s68 s69 s70 s71 #[b0, b1, true, true, true, true, false, b7, b8, b9, b10, b11, false, false, false, false, false]) { tmps := #[.pointer (some ⟨c, 0, none⟩), s1, .pointer (some ⟨XR, 0, none⟩), .pointer (some ⟨XB, 0, none⟩), s4, s5, s6, s7, s8, s9, s10, s11, s12, s13, s14, s15, s16, s17, s18, s19, s20, s21, s22, s23, s24, s25, s26, s27, s28, s29, s30, s31, s32, s33, s34, s35, s36, s37, s38, s39, s40, s41, s42, s43, s44, s45, sel b0 (.pointer (some ⟨XB, 3, none⟩)) (s46), sel b1 (.slice aL L.length cL) (s47), .slice (some ⟨X2, 0, none⟩) 4 4, .pointer (some ⟨c, 0, none⟩), .int .i64 (R4 : Int), s51, s52, sel b7 (.slice (some ⟨X7, 0, none⟩) 4 4) (s53), sel b8 (.pointer (some ⟨c, 0, none⟩)) (s54), sel b9 (.int .i64 (R9 : Int)) (s55), sel b10 (.pointer (some ⟨X7, R9, none⟩)) (s56), sel b11 (.string x11) (s57), s58, s59, s60, s61, s62, s63, s64, s65, s66, s67, s68, s69, s70, s71], defers := [] } w := by
  have r := hR4 rfl
  have r0 : (R4 : Int) < 4 := by omega
  refine wpOp_step (o := { dst := some 51, op := Op.indexAddr 86 (Operand.tmp 48) (Operand.tmp 50), type := 0, pos := "l10_request.go:399", after := #[{ on := 2, ground := Ground.data }, { on := 4, ground := Ground.data }], guard := none }) rfl (fun K hK => ?_)
  replace hK := hid hK
  go_simp
  exact hK.out _ _ ⟨b0, b1, true, true, true, true, false, b7, b8, b9, b10, b11, false, false, false, false, false, X2, R4, x6, X7, R9, x11, X13, G, CP, pp, rfl, rfl, hS, hp, hg, hbox, hR, hBz, hst, ho1, ho2, hLn, hoO, hX2, hR4, hx6, hX7, hR9, hx11, hX13⟩
set_option maxRecDepth 20000 in
set_option maxHeartbeats 1000000 in
theorem ra10_s6 {Q : Exit → Act → World → Prop} (W0 w0 : World) (c : Nat) (a : Option Addr) (len cap p XR XB B : Nat) (zr : Array Value) (y0 y1 y2 y4 : Value) (aL : Option Addr) (cL : Nat) (L : List Hp) (BO : Nat) (aO : Option Addr) (nO cO : Nat) (LO : List Hp) (s1 s4 s5 s6 s7 s8 s9 s10 s11 s12 s13 s14 s15 s16 s17 s18 s19 s20 s21 s22 s23 s24 s25 s26 s27 s28 s29 s30 s31 s32 s33 s34 s35 s36 s37 s38 s39 s40 s41 s42 s43 s44 s45 s46 s47 s48 s49 s50 s51 s52 s53 s54 s55 s56 s57 s58 s59 s60 s61 s62 s63 s64 s65 s66 s67 s68 s69 s70 s71 : Value) (b0 b1 b7 b8 b9 b10 b11 : Bool) (X2 : Nat) (R4 : Nat) (x6 : ByteArray) (X7 : Nat) (R9 : Nat) (x11 : ByteArray) (X13 : Nat) (G : Nat) (CP : Nat) (pp : Nat) (w : World) (hS : Src W0 w c a len cap pp) (hp : pp ≤ p + 40 * (1 + b9.toNat)) (hg : w0.grownBy w (some c)) (hbox : RowAt w XB 25 (cond false #[y0, y1, y2, .slice (some ⟨G, 0, none⟩) (L.length + 1) CP, y4] #[y0, y1, y2, .slice aL L.length cL, y4])) (hR : RowAt w XR 25 zr) (hBz : B ≤ w.heap.size) (hst : c < XB ∧ c < B ∧ w0.heap.size ≤ B ∧ XR ≠ XB ∧ w0.heap.size ≤ XB ∧ W0.heap.size ≤ c ∧ p ≤ 900000 ∧ c ≠ XR) (ho1 : false = false → OwnHp w B (.slice aL L.length cL) L) (ho2 : false = true → OwnHp w B (.slice (some ⟨G, 0, none⟩) (L.length + 1) CP) (L ++ [(⟨x6, x11⟩ : Hp)])) (hLn : L.length ≤ 1000) (hoO : OwnHp w BO (.slice aO nO cO) LO ∧ c < BO ∧ ((Value.slice aO nO cO).ownBlock = none ∨ (Value.slice aO nO cO).ownBlock ≠ (Value.slice aL L.length cL).ownBlock)) (hX2 : true = true → false = false → RowAt w X2 9 #[.string ⟨#[]⟩, .string ⟨#[65]⟩, .string ⟨#[108, 101, 110, 103, 116, 104]⟩, .string ⟨#[97]⟩] ∧ B ≤ X2) (hR4 : true = true → R4 < 4) (hx6 : false = true → x6.size ≤ 6) (hX7 : b7 = true → false = false → RowAt w X7 9 #[.string ⟨#[32, 120]⟩, .string ⟨#[120, 32]⟩, .string ⟨#[10]⟩, .string ⟨#[120]⟩] ∧ B ≤ X7) (hR9 : b9 = true → R9 < 4) (hx11 : b11 = true → x11.size ≤ 2) (hX13 : false = true → false = false → RowAt w X13 54 #[.string x6, .string x11] ∧ B ≤ X13) :
    wpOp Tryz.prog ra10O Q 6 (ra10I W0 w0 c a len cap p XR XB B zr y0 y1 y2 y4 aL cL L BO aO nO cO LO s1 s4 s5 s6 s7 s8 s9 s10 s11 s12 s13 s14 s15 s16 s17 s18 s19 s20 s21 s22 s23 s24 s25 s26 s27 s28 s29 s30 s31 s32 s33 s34 s35 s36 s37 s38 s39 s40 s41 s42 s43 s44 s45 s46 s47 s48 s49 s50 s51 s52 s53 s54 s55 s56 s57 s58 s59 s60 s61 s62 s63 s64 s65 s66 s67 s68 s69 s70 s71 #[b0, b1, true, true, true, true, true, b7, b8, b9, b10, b11, false, false, false, false, false]) { tmps := #[.pointer (some ⟨c, 0, none⟩), s1, .pointer (some ⟨XR, 0, none⟩), .pointer (some ⟨XB, 0, none⟩), s4, s5, s6, s7, s8, s9, s10, s11, s12, s13, s14, s15, s16, s17, s18, s19, s20, s21, s22, s23, s24, s25, s26, s27, s28, s29, s30, s31, s32, s33, s34, s35, s36, s37, s38, s39, s40, s41, s42, s43, s44, s45, sel b0 (.pointer (some ⟨XB, 3, none⟩)) (s46), sel b1 (.slice aL L.length cL) (s47), .slice (some ⟨X2, 0, none⟩) 4 4, .pointer (some ⟨c, 0, none⟩), .int .i64 (R4 : Int), .pointer (some ⟨X2, R4, none⟩), s52, sel b7 (.slice (some ⟨X7, 0, none⟩) 4 4) (s53), sel b8 (.pointer (some ⟨c, 0, none⟩)) (s54), sel b9 (.int .i64 (R9 : Int)) (s55), sel b10 (.pointer (some ⟨X7, R9, none⟩)) (s56), sel b11 (.string x11) (s57), s58, s59, s60, s61, s62, s63, s64, s65, s66, s67, s68, s69, s70, s71], defers := [] } w := by
  obtain ⟨tt, hk2, htt⟩ := ra10_tab2  R4 (hR4 rfl)
  have c2 := ((hX2 rfl rfl).1.cell R4).trans hk2
  refine wpOp_step (o := { dst := some 52, op := Op.load 9 (Operand.tmp 51), type := 9, pos := "l10_request.go:399", after := #[{ on := 5, ground := Ground.data }], guard := none }) rfl (fun K hK => ?_)
  replace hK := hid hK
  go_simp
  exact hK.out _ _ ⟨b0, b1, true, true, true, true, true, b7, b8, b9, b10, b11, false, false, false, false, false, X2, R4, tt, X7, R9, x11, X13, G, CP, pp, rfl, rfl, hS, hp, hg, hbox, hR, hBz, hst, ho1, fun h => Bool.noConfusion h, hLn, hoO, hX2, hR4, fun _ => htt, hX7, hR9, hx11, fun h => Bool.noConfusion h⟩
set_option maxRecDepth 20000 in
set_option maxHeartbeats 1000000 in
theorem ra10_s7 {Q : Exit → Act → World → Prop} (W0 w0 : World) (c : Nat) (a : Option Addr) (len cap p XR XB B : Nat) (zr : Array Value) (y0 y1 y2 y4 : Value) (aL : Option Addr) (cL : Nat) (L : List Hp) (BO : Nat) (aO : Option Addr) (nO cO : Nat) (LO : List Hp) (s1 s4 s5 s6 s7 s8 s9 s10 s11 s12 s13 s14 s15 s16 s17 s18 s19 s20 s21 s22 s23 s24 s25 s26 s27 s28 s29 s30 s31 s32 s33 s34 s35 s36 s37 s38 s39 s40 s41 s42 s43 s44 s45 s46 s47 s48 s49 s50 s51 s52 s53 s54 s55 s56 s57 s58 s59 s60 s61 s62 s63 s64 s65 s66 s67 s68 s69 s70 s71 : Value) (b0 b1 b2 b3 b4 b5 b6 b8 b9 : Bool) (X2 : Nat) (R4 : Nat) (x6 : ByteArray) (X7 : Nat) (R9 : Nat) (x11 : ByteArray) (X13 : Nat) (G : Nat) (CP : Nat) (pp : Nat) (w : World) (hS : Src W0 w c a len cap pp) (hp : pp ≤ p + 40 * (b4.toNat + b9.toNat)) (hg : w0.grownBy w (some c)) (hbox : RowAt w XB 25 (cond false #[y0, y1, y2, .slice (some ⟨G, 0, none⟩) (L.length + 1) CP, y4] #[y0, y1, y2, .slice aL L.length cL, y4])) (hR : RowAt w XR 25 zr) (hBz : B ≤ w.heap.size) (hst : c < XB ∧ c < B ∧ w0.heap.size ≤ B ∧ XR ≠ XB ∧ w0.heap.size ≤ XB ∧ W0.heap.size ≤ c ∧ p ≤ 900000 ∧ c ≠ XR) (ho1 : false = false → OwnHp w B (.slice aL L.length cL) L) (ho2 : false = true → OwnHp w B (.slice (some ⟨G, 0, none⟩) (L.length + 1) CP) (L ++ [(⟨x6, x11⟩ : Hp)])) (hLn : L.length ≤ 1000) (hoO : OwnHp w BO (.slice aO nO cO) LO ∧ c < BO ∧ ((Value.slice aO nO cO).ownBlock = none ∨ (Value.slice aO nO cO).ownBlock ≠ (Value.slice aL L.length cL).ownBlock)) (hX2 : b2 = true → false = false → RowAt w X2 9 #[.string ⟨#[]⟩, .string ⟨#[65]⟩, .string ⟨#[108, 101, 110, 103, 116, 104]⟩, .string ⟨#[97]⟩] ∧ B ≤ X2) (hR4 : b4 = true → R4 < 4) (hx6 : b6 = true → x6.size ≤ 6) (hX7 : false = true → false = false → RowAt w X7 9 #[.string ⟨#[32, 120]⟩, .string ⟨#[120, 32]⟩, .string ⟨#[10]⟩, .string ⟨#[120]⟩] ∧ B ≤ X7) (hR9 : b9 = true → R9 < 4) (hx11 : false = true → x11.size ≤ 2) (hX13 : false = true → false = false → RowAt w X13 54 #[.string x6, .string x11] ∧ B ≤ X13) :
    wpOp Tryz.prog ra10O Q 7 (ra10I W0 w0 c a len cap p XR XB B zr y0 y1 y2 y4 aL cL L BO aO nO cO LO s1 s4 s5 s6 s7 s8 s9 s10 s11 s12 s13 s14 s15 s16 s17 s18 s19 s20 s21 s22 s23 s24 s25 s26 s27 s28 s29 s30 s31 s32 s33 s34 s35 s36 s37 s38 s39 s40 s41 s42 s43 s44 s45 s46 s47 s48 s49 s50 s51 s52 s53 s54 s55 s56 s57 s58 s59 s60 s61 s62 s63 s64 s65 s66 s67 s68 s69 s70 s71 #[b0, b1, b2, b3, b4, b5, b6, true, b8, b9, false, false, false, false, false, false, false]) { tmps := #[.pointer (some ⟨c, 0, none⟩), s1, .pointer (some ⟨XR, 0, none⟩), .pointer (some ⟨XB, 0, none⟩), s4, s5, s6, s7, s8, s9, s10, s11, s12, s13, s14, s15, s16, s17, s18, s19, s20, s21, s22, s23, s24, s25, s26, s27, s28, s29, s30, s31, s32, s33, s34, s35, s36, s37, s38, s39, s40, s41, s42, s43, s44, s45, sel b0 (.pointer (some ⟨XB, 3, none⟩)) (s46), sel b1 (.slice aL L.length cL) (s47), sel b2 (.slice (some ⟨X2, 0, none⟩) 4 4) (s48), sel b3 (.pointer (some ⟨c, 0, none⟩)) (s49), sel b4 (.int .i64 (R4 : Int)) (s50), sel b5 (.pointer (some ⟨X2, R4, none⟩)) (s51), sel b6 (.string x6) (s52), s53, sel b8 (.pointer (some ⟨c, 0, none⟩)) (s54), sel b9 (.int .i64 (R9 : Int)) (s55), s56, s57, s58, s59, s60, s61, s62, s63, s64, s65, s66, s67, s68, s69, s70, s71], defers := [] } w := by
  refine wpOp_step (o := { dst := some 53, op := Op.buildSlice 86 4 #[(0, Operand.const (Value.string { data := #[32, 120] })), (1, Operand.const (Value.string { data := #[120, 32] })), (2, Operand.const (Value.string { data := #[10] })), (3, Operand.const (Value.string { data := #[120] }))], type := 86, pos := "l10_request.go:399", after := #[], guard := none }) rfl (fun K hK => ?_)
  replace hK := hid hK
  go_simp
  exact hK.out _ _ ⟨b0, b1, b2, b3, b4, b5, b6, true, b8, b9, false, false, false, false, false, false, false, X2, R4, x6, w.heap.size, R9, x11, X13, G, CP, pp, rfl, rfl, hS.alloc _, hp, grown_al hg _, hbox.alloc _, hR.alloc _, by simp only [World.size_alloc]; omega, hst, fun h => World.ownsRow.alloc (ho1 h) _, fun h => Bool.noConfusion h, hLn, ⟨World.ownsRow.alloc hoO.1 _, hoO.2⟩, fun h e => ⟨(hX2 h e).1.alloc _, (hX2 h e).2⟩, hR4, hx6, fun _ _ => ⟨RowAt.new w _ _, hBz⟩, hR9, hx11, fun h => Bool.noConfusion h⟩
set_option maxRecDepth 20000 in
set_option maxHeartbeats 1000000 in
theorem ra10_s8 {Q : Exit → Act → World → Prop} (W0 w0 : World) (c : Nat) (a : Option Addr) (len cap p XR XB B : Nat) (zr : Array Value) (y0 y1 y2 y4 : Value) (aL : Option Addr) (cL : Nat) (L : List Hp) (BO : Nat) (aO : Option Addr) (nO cO : Nat) (LO : List Hp) (s1 s4 s5 s6 s7 s8 s9 s10 s11 s12 s13 s14 s15 s16 s17 s18 s19 s20 s21 s22 s23 s24 s25 s26 s27 s28 s29 s30 s31 s32 s33 s34 s35 s36 s37 s38 s39 s40 s41 s42 s43 s44 s45 s46 s47 s48 s49 s50 s51 s52 s53 s54 s55 s56 s57 s58 s59 s60 s61 s62 s63 s64 s65 s66 s67 s68 s69 s70 s71 : Value) (b0 b1 b2 b3 b4 b5 b6 b7 : Bool) (X2 : Nat) (R4 : Nat) (x6 : ByteArray) (X7 : Nat) (R9 : Nat) (x11 : ByteArray) (X13 : Nat) (G : Nat) (CP : Nat) (pp : Nat) (w : World) (hS : Src W0 w c a len cap pp) (hp : pp ≤ p + 40 * (b4.toNat + 0)) (hg : w0.grownBy w (some c)) (hbox : RowAt w XB 25 (cond false #[y0, y1, y2, .slice (some ⟨G, 0, none⟩) (L.length + 1) CP, y4] #[y0, y1, y2, .slice aL L.length cL, y4])) (hR : RowAt w XR 25 zr) (hBz : B ≤ w.heap.size) (hst : c < XB ∧ c < B ∧ w0.heap.size ≤ B ∧ XR ≠ XB ∧ w0.heap.size ≤ XB ∧ W0.heap.size ≤ c ∧ p ≤ 900000 ∧ c ≠ XR) (ho1 : false = false → OwnHp w B (.slice aL L.length cL) L) (ho2 : false = true → OwnHp w B (.slice (some ⟨G, 0, none⟩) (L.length + 1) CP) (L ++ [(⟨x6, x11⟩ : Hp)])) (hLn : L.length ≤ 1000) (hoO : OwnHp w BO (.slice aO nO cO) LO ∧ c < BO ∧ ((Value.slice aO nO cO).ownBlock = none ∨ (Value.slice aO nO cO).ownBlock ≠ (Value.slice aL L.length cL).ownBlock)) (hX2 : b2 = true → false = false → RowAt w X2 9 #[.string ⟨#[]⟩, .string ⟨#[65]⟩, .string ⟨#[108, 101, 110, 103, 116, 104]⟩, .string ⟨#[97]⟩] ∧ B ≤ X2) (hR4 : b4 = true → R4 < 4) (hx6 : b6 = true → x6.size ≤ 6) (hX7 : b7 = true → false = false → RowAt w X7 9 #[.string ⟨#[32, 120]⟩, .string ⟨#[120, 32]⟩, .string ⟨#[10]⟩, .string ⟨#[120]⟩] ∧ B ≤ X7) (hR9 : false = true → R9 < 4) (hx11 : false = true → x11.size ≤ 2) (hX13 : false = true → false = false → RowAt w X13 54 #[.string x6, .string x11] ∧ B ≤ X13) :
    wpOp Tryz.prog ra10O Q 8 (ra10I W0 w0 c a len cap p XR XB B zr y0 y1 y2 y4 aL cL L BO aO nO cO LO s1 s4 s5 s6 s7 s8 s9 s10 s11 s12 s13 s14 s15 s16 s17 s18 s19 s20 s21 s22 s23 s24 s25 s26 s27 s28 s29 s30 s31 s32 s33 s34 s35 s36 s37 s38 s39 s40 s41 s42 s43 s44 s45 s46 s47 s48 s49 s50 s51 s52 s53 s54 s55 s56 s57 s58 s59 s60 s61 s62 s63 s64 s65 s66 s67 s68 s69 s70 s71 #[b0, b1, b2, b3, b4, b5, b6, b7, true, false, false, false, false, false, false, false, false]) { tmps := #[.pointer (some ⟨c, 0, none⟩), s1, .pointer (some ⟨XR, 0, none⟩), .pointer (some ⟨XB, 0, none⟩), s4, s5, s6, s7, s8, s9, s10, s11, s12, s13, s14, s15, s16, s17, s18, s19, s20, s21, s22, s23, s24, s25, s26, s27, s28, s29, s30, s31, s32, s33, s34, s35, s36, s37, s38, s39, s40, s41, s42, s43, s44, s45, sel b0 (.pointer (some ⟨XB, 3, none⟩)) (s46), sel b1 (.slice aL L.length cL) (s47), sel b2 (.slice (some ⟨X2, 0, none⟩) 4 4) (s48), sel b3 (.pointer (some ⟨c, 0, none⟩)) (s49), sel b4 (.int .i64 (R4 : Int)) (s50), sel b5 (.pointer (some ⟨X2, R4, none⟩)) (s51), sel b6 (.string x6) (s52), sel b7 (.slice (some ⟨X7, 0, none⟩) 4 4) (s53), s54, s55, s56, s57, s58, s59, s60, s61, s62, s63, s64, s65, s66, s67, s68, s69, s70, s71], defers := [] } w := by
  refine wpOp_step (o := { dst := some 54, op := Op.move (Operand.tmp 0), type := 43, pos := "l10_request.go:399", after := #[], guard := none }) rfl (fun K hK => ?_)
  replace hK := hid hK
  go_simp
  exact hK.out _ _ ⟨b0, b1, b2, b3, b4, b5, b6, b7, true, false, false, false, false, false, false, false, false, X2, R4, x6, X7, R9, x11, X13, G, CP, pp, rfl, rfl, hS, hp, hg, hbox, hR, hBz, hst, ho1, ho2, hLn, hoO, hX2, hR4, hx6, hX7, hR9, hx11, hX13⟩
set_option maxRecDepth 20000 in
set_option maxHeartbeats 1000000 in
theorem ra10_s9 {Q : Exit → Act → World → Prop} (W0 w0 : World) (c : Nat) (a : Option Addr) (len cap p XR XB B : Nat) (zr : Array Value) (y0 y1 y2 y4 : Value) (aL : Option Addr) (cL : Nat) (L : List Hp) (BO : Nat) (aO : Option Addr) (nO cO : Nat) (LO : List Hp) (s1 s4 s5 s6 s7 s8 s9 s10 s11 s12 s13 s14 s15 s16 s17 s18 s19 s20 s21 s22 s23 s24 s25 s26 s27 s28 s29 s30 s31 s32 s33 s34 s35 s36 s37 s38 s39 s40 s41 s42 s43 s44 s45 s46 s47 s48 s49 s50 s51 s52 s53 s54 s55 s56 s57 s58 s59 s60 s61 s62 s63 s64 s65 s66 s67 s68 s69 s70 s71 : Value) (b0 b1 b2 b5 b6 b7 : Bool) (X2 : Nat) (R4 : Nat) (x6 : ByteArray) (X7 : Nat) (R9 : Nat) (x11 : ByteArray) (X13 : Nat) (G : Nat) (CP : Nat) (pp : Nat) (w : World) (hS : Src W0 w c a len cap pp) (hp : pp ≤ p + 40 * (1 + 0)) (hg : w0.grownBy w (some c)) (hbox : RowAt w XB 25 (cond false #[y0, y1, y2, .slice (some ⟨G, 0, none⟩) (L.length + 1) CP, y4] #[y0, y1, y2, .slice aL L.length cL, y4])) (hR : RowAt w XR 25 zr) (hBz : B ≤ w.heap.size) (hst : c < XB ∧ c < B ∧ w0.heap.size ≤ B ∧ XR ≠ XB ∧ w0.heap.size ≤ XB ∧ W0.heap.size ≤ c ∧ p ≤ 900000 ∧ c ≠ XR) (ho1 : false = false → OwnHp w B (.slice aL L.length cL) L) (ho2 : false = true → OwnHp w B (.slice (some ⟨G, 0, none⟩) (L.length + 1) CP) (L ++ [(⟨x6, x11⟩ : Hp)])) (hLn : L.length ≤ 1000) (hoO : OwnHp w BO (.slice aO nO cO) LO ∧ c < BO ∧ ((Value.slice aO nO cO).ownBlock = none ∨ (Value.slice aO nO cO).ownBlock ≠ (Value.slice aL L.length cL).ownBlock)) (hX2 : b2 = true → false = false → RowAt w X2 9 #[.string ⟨#[]⟩, .string ⟨#[65]⟩, .string ⟨#[108, 101, 110, 103, 116, 104]⟩, .string ⟨#[97]⟩] ∧ B ≤ X2) (hR4 : true = true → R4 < 4) (hx6 : b6 = true → x6.size ≤ 6) (hX7 : b7 = true → false = false → RowAt w X7 9 #[.string ⟨#[32, 120]⟩, .string ⟨#[120, 32]⟩, .string ⟨#[10]⟩, .string ⟨#[120]⟩] ∧ B ≤ X7) (hR9 : false = true → R9 < 4) (hx11 : false = true → x11.size ≤ 2) (hX13 : false = true → false = false → RowAt w X13 54 #[.string x6, .string x11] ∧ B ≤ X13) :
    wpOp Tryz.prog ra10O Q 9 (ra10I W0 w0 c a len cap p XR XB B zr y0 y1 y2 y4 aL cL L BO aO nO cO LO s1 s4 s5 s6 s7 s8 s9 s10 s11 s12 s13 s14 s15 s16 s17 s18 s19 s20 s21 s22 s23 s24 s25 s26 s27 s28 s29 s30 s31 s32 s33 s34 s35 s36 s37 s38 s39 s40 s41 s42 s43 s44 s45 s46 s47 s48 s49 s50 s51 s52 s53 s54 s55 s56 s57 s58 s59 s60 s61 s62 s63 s64 s65 s66 s67 s68 s69 s70 s71 #[b0, b1, b2, true, true, b5, b6, b7, true, true, false, false, false, false, false, false, false]) { tmps := #[.pointer (some ⟨c, 0, none⟩), s1, .pointer (some ⟨XR, 0, none⟩), .pointer (some ⟨XB, 0, none⟩), s4, s5, s6, s7, s8, s9, s10, s11, s12, s13, s14, s15, s16, s17, s18, s19, s20, s21, s22, s23, s24, s25, s26, s27, s28, s29, s30, s31, s32, s33, s34, s35, s36, s37, s38, s39, s40, s41, s42, s43, s44, s45, sel b0 (.pointer (some ⟨XB, 3, none⟩)) (s46), sel b1 (.slice aL L.length cL) (s47), sel b2 (.slice (some ⟨X2, 0, none⟩) 4 4) (s48), .pointer (some ⟨c, 0, none⟩), .int .i64 (R4 : Int), sel b5 (.pointer (some ⟨X2, R4, none⟩)) (s51), sel b6 (.string x6) (s52), sel b7 (.slice (some ⟨X7, 0, none⟩) 4 4) (s53), .pointer (some ⟨c, 0, none⟩), s55, s56, s57, s58, s59, s60, s61, s62, s63, s64, s65, s66, s67, s68, s69, s70, s71], defers := [] } w := by
  have hcB : c < B := by omega
  refine wpOp_step (o := { dst := some 55, op := Op.call { callee := Callee.value (Operand.func 52), args := #[Operand.tmp 54, Operand.const (Value.int IntKind.i64 4)], argTypes := #[43, 2] }, type := 2, pos := "l10_request.go:399", after := #[{ on := 8, ground := Ground.data }, { on := 4, ground := Ground.chain }], guard := none }) rfl (fun K hK => ?_)
  replace hK := hid hK
  go_simp
  refine (n_all W0 _ c a len cap pp 4 hS (by omega) (by omega) (by omega)).mono ?_
  rintro e w2 ⟨⟨r, rfl, h20, h21⟩, hs2, hg2⟩
  obtain ⟨R, rfl⟩ := Int.eq_ofNat_of_zero_le h20
  dsimp only
  exact hK.out _ _ ⟨b0, b1, b2, true, true, b5, b6, b7, true, true, false, false, false, false, false, false, false, X2, R4, x6, X7, R, x11, X13, G, CP, pp + 1, rfl, rfl, hs2, by show pp + 1 ≤ p + 40 * (1 + 1); omega, grown_trans hg hg2, rowF hbox hg2 hst.1, rowF2 hR hg2 hst.2.2.2.2.2.2.2, Nat.le_trans hBz hg2.size, hst, fun h => OwnHp.keptC (ho1 h) hg2 (by omega), fun h => Bool.noConfusion h, hLn, ⟨OwnHp.keptC hoO.1 hg2 hoO.2.1, hoO.2⟩, fun h e => ⟨rowF (hX2 h e).1 hg2 (by have := (hX2 h e).2; omega), (hX2 h e).2⟩, hR4, hx6, fun h e => ⟨rowF (hX7 h e).1 hg2 (by have := (hX7 h e).2; omega), (hX7 h e).2⟩, fun _ => by omega, hx11, fun h => Bool.noConfusion h⟩
set_option maxRecDepth 20000 in
set_option maxHeartbeats 1000000 in
theorem ra10_s10 {Q : Exit → Act → World → Prop} (W0 w0 : World) (c : Nat) (a : Option Addr) (len cap p XR XB B : Nat) (zr : Array Value) (y0 y1 y2 y4 : Value) (aL : Option Addr) (cL : Nat) (L : List Hp) (BO : Nat) (aO : Option Addr) (nO cO : Nat) (LO : List Hp) (s1 s4 s5 s6 s7 s8 s9 s10 s11 s12 s13 s14 s15 s16 s17 s18 s19 s20 s21 s22 s23 s24 s25 s26 s27 s28 s29 s30 s31 s32 s33 s34 s35 s36 s37 s38 s39 s40 s41 s42 s43 s44 s45 s46 s47 s48 s49 s50 s51 s52 s53 s54 s55 s56 s57 s58 s59 s60 s61 s62 s63 s64 s65 s66 s67 s68 s69 s70 s71 : Value) (b0 b1 b2 b5 b6 : Bool) (X2 : Nat) (R4 : Nat) (x6 : ByteArray) (X7 : Nat) (R9 : Nat) (x11 : ByteArray) (X13 : Nat) (G : Nat) (CP : Nat) (pp : Nat) (w : World) (hS : Src W0 w c a len cap pp) (hp : pp ≤ p + 40 * (1 + 1)) (hg : w0.grownBy w (some c)) (hbox : RowAt w XB 25 (cond false #[y0, y1, y2, .slice (some ⟨G, 0, none⟩) (L.length + 1) CP, y4] #[y0, y1, y2, .slice aL L.length cL, y4])) (hR : RowAt w XR 25 zr) (hBz : B ≤ w.heap.size) (hst : c < XB ∧ c < B ∧ w0.heap.size ≤ B ∧ XR ≠ XB ∧ w0.heap.size ≤ XB ∧ W0.heap.size ≤ c ∧ p ≤ 900000 ∧ c ≠ XR) (ho1 : false = false → OwnHp w B (.slice aL L.length cL) L) (ho2 : false = true → OwnHp w B (.slice (some ⟨G, 0, none⟩) (L.length + 1) CP) (L ++ [(⟨x6, x11⟩ : Hp)])) (hLn : L.length ≤ 1000) (hoO : OwnHp w BO (.slice aO nO cO) LO ∧ c < BO ∧ ((Value.slice aO nO cO).ownBlock = none ∨ (Value.slice aO nO cO).ownBlock ≠ (Value.slice aL L.length cL).ownBlock)) (hX2 : b2 = true → false = false → RowAt w X2 9 #[.string ⟨#[]⟩, .string ⟨#[65]⟩, .string ⟨#[108, 101, 110, 103, 116, 104]⟩, .string ⟨#[97]⟩] ∧ B ≤ X2) (hR4 : true = true → R4 < 4) (hx6 : b6 = true → x6.size ≤ 6) (hX7 : true = true → false = false → RowAt w X7 9 #[.string ⟨#[32, 120]⟩, .string ⟨#[120, 32]⟩, .string ⟨#[10]⟩, .string ⟨#[120]⟩] ∧ B ≤ X7) (hR9 : true = true → R9 < 4) (hx11 : false = true → x11.size ≤ 2) (hX13 : false = true → false = false → RowAt w X13 54 #[.string x6, .string x11] ∧ B ≤ X13) :
    wpOp Tryz.prog ra10O Q 10 (ra10I W0 w0 c a len cap p XR XB B zr y0 y1 y2 y4 aL cL L BO aO nO cO LO s1 s4 s5 s6 s7 s8 s9 s10 s11 s12 s13 s14 s15 s16 s17 s18 s19 s20 s21 s22 s23 s24 s25 s26 s27 s28 s29 s30 s31 s32 s33 s34 s35 s36 s37 s38 s39 s40 s41 s42 s43 s44 s45 s46 s47 s48 s49 s50 s51 s52 s53 s54 s55 s56 s57 s58 s59 s60 s61 s62 s63 s64 s65 s66 s67 s68 s69 s70 s71 #[b0, b1, b2, true, true, b5, b6, true, true, true, true, false, false, false, false, false, false]) { tmps := #[.pointer (some ⟨c, 0, none⟩), s1, .pointer (some ⟨XR, 0, none⟩), .pointer (some ⟨XB, 0, none⟩), s4, s5, s6, s7, s8, s9, s10, s11, s12, s13, s14, s15, s16, s17, s18, s19, s20, s21, s22, s23, s24, s25, s26, s27, s28, s29, s30, s31, s32, s33, s34, s35, s36, s37, s38, s39, s40, s41, s42, s43, s44, s45, sel b0 (.pointer (some ⟨XB, 3, none⟩)) (s46), sel b1 (.slice aL L.length cL) (s47), sel b2 (.slice (some ⟨X2, 0, none⟩) 4 4) (s48), .pointer (some ⟨c, 0, none⟩), .int .i64 (R4 : Int), sel b5 (.pointer (some ⟨X2, R4, none⟩)) (s51), sel b6 (.string x6) (s52), .slice (some ⟨X7, 0, none⟩) 4 4, .pointer (some ⟨c, 0, none⟩), .int .i64 (R9 : Int), s56, s57, s58, s59, s60, s61, s62, s63, s64, s65, s66, s67, s68, s69, s70, s71], defers := [] } w := by
  have r := hR9 rfl
  have r0 : (R9 : Int) < 4 := by omega
  refine wpOp_step (o := { dst := some 56, op := Op.indexAddr 86 (Operand.tmp 53) (Operand.tmp 55), type := 0, pos := "l10_request.go:399", after := #[{ on := 7, ground := Ground.data }, { on := 9, ground := Ground.data }], guard := none }) rfl (fun K hK => ?_)
  replace hK := hid hK
  go_simp
  exact hK.out _ _ ⟨b0, b1, b2, true, true, b5, b6, true, true, true, true, false, false, false, false, false, false, X2, R4, x6, X7, R9, x11, X13, G, CP, pp, rfl, rfl, hS, hp, hg, hbox, hR, hBz, hst, ho1, ho2, hLn, hoO, hX2, hR4, hx6, hX7, hR9, hx11, hX13⟩
set_option maxRecDepth 20000 in
set_option maxHeartbeats 1000000 in
theorem ra10_s11 {Q : Exit → Act → World → Prop} (W0 w0 : World) (c : Nat) (a : Option Addr) (len cap p XR XB B : Nat) (zr : Array Value) (y0 y1 y2 y4 : Value) (aL : Option Addr) (cL : Nat) (L : List Hp) (BO : Nat) (aO : Option Addr) (nO cO : Nat) (LO : List Hp) (s1 s4 s5 s6 s7 s8 s9 s10 s11 s12 s13 s14 s15 s16 s17 s18 s19 s20 s21 s22 s23 s24 s25 s26 s27 s28 s29 s30 s31 s32 s33 s34 s35 s36 s37 s38 s39 s40 s41 s42 s43 s44 s45 s46 s47 s48 s49 s50 s51 s52 s53 s54 s55 s56 s57 s58 s59 s60 s61 s62 s63 s64 s65 s66 s67 s68 s69 s70 s71 : Value) (b0 b1 b2 b5 b6 : Bool) (X2 : Nat) (R4 : Nat) (x6 : ByteArray) (X7 : Nat) (R9 : Nat) (x11 : ByteArray) (X13 : Nat) (G : Nat) (CP : Nat) (pp : Nat) (w : World) (hS : Src W0 w c a len cap pp) (hp : pp ≤ p + 40 * (1 + 1)) (hg : w0.grownBy w (some c)) (hbox : RowAt w XB 25 (cond false #[y0, y1, y2, .slice (some ⟨G, 0, none⟩) (L.length + 1) CP, y4] #[y0, y1, y2, .slice aL L.length cL, y4])) (hR : RowAt w XR 25 zr) (hBz : B ≤ w.heap.size) (hst : c < XB ∧ c < B ∧ w0.heap.size ≤ B ∧ XR ≠ XB ∧ w0.heap.size ≤ XB ∧ W0.heap.size ≤ c ∧ p ≤ 900000 ∧ c ≠ XR) (ho1 : false = false → OwnHp w B (.slice aL L.length cL) L) (ho2 : false = true → OwnHp w B (.slice (some ⟨G, 0, none⟩) (L.length + 1) CP) (L ++ [(⟨x6, x11⟩ : Hp)])) (hLn : L.length ≤ 1000) (hoO : OwnHp w BO (.slice aO nO cO) LO ∧ c < BO ∧ ((Value.slice aO nO cO).ownBlock = none ∨ (Value.slice aO nO cO).ownBlock ≠ (Value.slice aL L.length cL).ownBlock)) (hX2 : b2 = true → false = false → RowAt w X2 9 #[.string ⟨#[]⟩, .string ⟨#[65]⟩, .string ⟨#[108, 101, 110, 103, 116, 104]⟩, .string ⟨#[97]⟩] ∧ B ≤ X2) (hR4 : true = true → R4 < 4) (hx6 : b6 = true → x6.size ≤ 6) (hX7 : true = true → false = false → RowAt w X7 9 #[.string ⟨#[32, 120]⟩, .string ⟨#[120, 32]⟩, .string ⟨#[10]⟩, .string ⟨#[120]⟩] ∧ B ≤ X7) (hR9 : true = true → R9 < 4) (hx11 : false = true → x11.size ≤ 2) (hX13 : false = true → false = false → RowAt w X13 54 #[.string x6, .string x11] ∧ B ≤ X13) :
    wpOp Tryz.prog ra10O Q 11 (ra10I W0 w0 c a len cap p XR XB B zr y0 y1 y2 y4 aL cL L BO aO nO cO LO s1 s4 s5 s6 s7 s8 s9 s10 s11 s12 s13 s14 s15 s16 s17 s18 s19 s20 s21 s22 s23 s24 s25 s26 s27 s28 s29 s30 s31 s32 s33 s34 s35 s36 s37 s38 s39 s40 s41 s42 s43 s44 s45 s46 s47 s48 s49 s50 s51 s52 s53 s54 s55 s56 s57 s58 s59 s60 s61 s62 s63 s64 s65 s66 s67 s68 s69 s70 s71 #[b0, b1, b2, true, true, b5, b6, true, true, true, true, true, false, false, false, false, false]) { tmps := #[.pointer (some ⟨c, 0, none⟩), s1, .pointer (some ⟨XR, 0, none⟩), .pointer (some ⟨XB, 0, none⟩), s4, s5, s6, s7, s8, s9, s10, s11, s12, s13, s14, s15, s16, s17, s18, s19, s20, s21, s22, s23, s24, s25, s26, s27, s28, s29, s30, s31, s32, s33, s34, s35, s36, s37, s38, s39, s40, s41, s42, s43, s44, s45, sel b0 (.pointer (some ⟨XB, 3, none⟩)) (s46), sel b1 (.slice aL L.length cL) (s47), sel b2 (.slice (some ⟨X2, 0, none⟩) 4 4) (s48), .pointer (some ⟨c, 0, none⟩), .int .i64 (R4 : Int), sel b5 (.pointer (some ⟨X2, R4, none⟩)) (s51), sel b6 (.string x6) (s52), .slice (some ⟨X7, 0, none⟩) 4 4, .pointer (some ⟨c, 0, none⟩), .int .i64 (R9 : Int), .pointer (some ⟨X7, R9, none⟩), s57, s58, s59, s60, s61, s62, s63, s64, s65, s66, s67, s68, s69, s70, s71], defers := [] } w := by
  obtain ⟨tt, hk2, htt⟩ := ra10_tab7  R9 (hR9 rfl)
  have c2 := ((hX7 rfl rfl).1.cell R9).trans hk2
  refine wpOp_step (o := { dst := some 57, op := Op.load 9 (Operand.tmp 56), type := 9, pos := "l10_request.go:399", after := #[{ on := 10, ground := Ground.data }], guard := none }) rfl (fun K hK => ?_)
  replace hK := hid hK
  go_simp
  exact hK.out _ _ ⟨b0, b1, b2, true, true, b5, b6, true, true, true, true, true, false, false, false, false, false, X2, R4, x6, X7, R9, tt, X13, G, CP, pp, rfl, rfl, hS, hp, hg, hbox, hR, hBz, hst, ho1, fun h => Bool.noConfusion h, hLn, hoO, hX2, hR4, hx6, hX7, hR9, fun _ => htt, fun h => Bool.noConfusion h⟩
set_option maxRecDepth 20000 in
set_option maxHeartbeats 1000000 in
theorem ra10_s12 {Q : Exit → Act → World → Prop} (W0 w0 : World) (c : Nat) (a : Option Addr) (len cap p XR XB B : Nat) (zr : Array Value) (y0 y1 y2 y4 : Value) (aL : Option Addr) (cL : Nat) (L : List Hp) (BO : Nat) (aO : Option Addr) (nO cO : Nat) (LO : List Hp) (s1 s4 s5 s6 s7 s8 s9 s10 s11 s12 s13 s14 s15 s16 s17 s18 s19 s20 s21 s22 s23 s24 s25 s26 s27 s28 s29 s30 s31 s32 s33 s34 s35 s36 s37 s38 s39 s40 s41 s42 s43 s44 s45 s46 s47 s48 s49 s50 s51 s52 s53 s54 s55 s56 s57 s58 s59 s60 s61 s62 s63 s64 s65 s66 s67 s68 s69 s70 s71 : Value) (b0 b1 : Bool) (X2 : Nat) (R4 : Nat) (x6 : ByteArray) (X7 : Nat) (R9 : Nat) (x11 : ByteArray) (X13 : Nat) (G : Nat) (CP : Nat) (pp : Nat) (w : World) (hS : Src W0 w c a len cap pp) (hp : pp ≤ p + 40 * (1 + 1)) (hg : w0.grownBy w (some c)) (hbox : RowAt w XB 25 (cond false #[y0, y1, y2, .slice (some ⟨G, 0, none⟩) (L.length + 1) CP, y4] #[y0, y1, y2, .slice aL L.length cL, y4])) (hR : RowAt w XR 25 zr) (hBz : B ≤ w.heap.size) (hst : c < XB ∧ c < B ∧ w0.heap.size ≤ B ∧ XR ≠ XB ∧ w0.heap.size ≤ XB ∧ W0.heap.size ≤ c ∧ p ≤ 900000 ∧ c ≠ XR) (ho1 : false = false → OwnHp w B (.slice aL L.length cL) L) (ho2 : false = true → OwnHp w B (.slice (some ⟨G, 0, none⟩) (L.length + 1) CP) (L ++ [(⟨x6, x11⟩ : Hp)])) (hLn : L.length ≤ 1000) (hoO : OwnHp w BO (.slice aO nO cO) LO ∧ c < BO ∧ ((Value.slice aO nO cO).ownBlock = none ∨ (Value.slice aO nO cO).ownBlock ≠ (Value.slice aL L.length cL).ownBlock)) (hX2 : true = true → false = false → RowAt w X2 9 #[.string ⟨#[]⟩, .string ⟨#[65]⟩, .string ⟨#[108, 101, 110, 103, 116, 104]⟩, .string ⟨#[97]⟩] ∧ B ≤ X2) (hR4 : true = true → R4 < 4) (hx6 : true = true → x6.size ≤ 6) (hX7 : true = true → false = false → RowAt w X7 9 #[.string ⟨#[32, 120]⟩, .string ⟨#[120, 32]⟩, .string ⟨#[10]⟩, .string ⟨#[120]⟩] ∧ B ≤ X7) (hR9 : true = true → R9 < 4) (hx11 : true = true → x11.size ≤ 2) (hX13 : false = true → false = false → RowAt w X13 54 #[.string x6, .string x11] ∧ B ≤ X13) :
    wpOp Tryz.prog ra10O Q 12 (ra10I W0 w0 c a len cap p XR XB B zr y0 y1 y2 y4 aL cL L BO aO nO cO LO s1 s4 s5 s6 s7 s8 s9 s10 s11 s12 s13 s14 s15 s16 s17 s18 s19 s20 s21 s22 s23 s24 s25 s26 s27 s28 s29 s30 s31 s32 s33 s34 s35 s36 s37 s38 s39 s40 s41 s42 s43 s44 s45 s46 s47 s48 s49 s50 s51 s52 s53 s54 s55 s56 s57 s58 s59 s60 s61 s62 s63 s64 s65 s66 s67 s68 s69 s70 s71 #[b0, b1, true, true, true, true, true, true, true, true, true, true, true, false, false, false, false]) { tmps := #[.pointer (some ⟨c, 0, none⟩), s1, .pointer (some ⟨XR, 0, none⟩), .pointer (some ⟨XB, 0, none⟩), s4, s5, s6, s7, s8, s9, s10, s11, s12, s13, s14, s15, s16, s17, s18, s19, s20, s21, s22, s23, s24, s25, s26, s27, s28, s29, s30, s31, s32, s33, s34, s35, s36, s37, s38, s39, s40, s41, s42, s43, s44, s45, sel b0 (.pointer (some ⟨XB, 3, none⟩)) (s46), sel b1 (.slice aL L.length cL) (s47), .slice (some ⟨X2, 0, none⟩) 4 4, .pointer (some ⟨c, 0, none⟩), .int .i64 (R4 : Int), .pointer (some ⟨X2, R4, none⟩), .string x6, .slice (some ⟨X7, 0, none⟩) 4 4, .pointer (some ⟨c, 0, none⟩), .int .i64 (R9 : Int), .pointer (some ⟨X7, R9, none⟩), .string x11, s58, s59, s60, s61, s62, s63, s64, s65, s66, s67, s68, s69, s70, s71], defers := [] } w := by
  refine wpOp_step (o := { dst := some 58, op := Op.build 54 #[(0, Operand.tmp 52), (1, Operand.tmp 57)], type := 54, pos := "l10_request.go:399", after := #[{ on := 6, ground := Ground.data }, { on := 11, ground := Ground.data }], guard := none }) rfl (fun K hK => ?_)
  replace hK := hid hK
  go_simp
  exact hK.out _ _ ⟨b0, b1, true, true, true, true, true, true, true, true, true, true, true, false, false, false, false, X2, R4, x6, X7, R9, x11, X13, G, CP, pp, rfl, rfl, hS, hp, hg, hbox, hR, hBz, hst, ho1, ho2, hLn, hoO, hX2, hR4, hx6, hX7, hR9, hx11, hX13⟩
set_option maxRecDepth 20000 in
set_option maxHeartbeats 1000000 in
theorem ra10_s13 {Q : Exit → Act → World → Prop} (W0 w0 : World) (c : Nat) (a : Option Addr) (len cap p XR XB B : Nat) (zr : Array Value) (y0 y1 y2 y4 : Value) (aL : Option Addr) (cL : Nat) (L : List Hp) (BO : Nat) (aO : Option Addr) (nO cO : Nat) (LO : List Hp) (s1 s4 s5 s6 s7 s8 s9 s10 s11 s12 s13 s14 s15 s16 s17 s18 s19 s20 s21 s22 s23 s24 s25 s26 s27 s28 s29 s30 s31 s32 s33 s34 s35 s36 s37 s38 s39 s40 s41 s42 s43 s44 s45 s46 s47 s48 s49 s50 s51 s52 s53 s54 s55 s56 s57 s58 s59 s60 s61 s62 s63 s64 s65 s66 s67 s68 s69 s70 s71 : Value) (b0 b1 : Bool) (X2 : Nat) (R4 : Nat) (x6 : ByteArray) (X7 : Nat) (R9 : Nat) (x11 : ByteArray) (X13 : Nat) (G : Nat) (CP : Nat) (pp : Nat) (w : World) (hS : Src W0 w c a len cap pp) (hp : pp ≤ p + 40 * (1 + 1)) (hg : w0.grownBy w (some c)) (hbox : RowAt w XB 25 (cond false #[y0, y1, y2, .slice (some ⟨G, 0, none⟩) (L.length + 1) CP, y4] #[y0, y1, y2, .slice aL L.length cL, y4])) (hR : RowAt w XR 25 zr) (hBz : B ≤ w.heap.size) (hst : c < XB ∧ c < B ∧ w0.heap.size ≤ B ∧ XR ≠ XB ∧ w0.heap.size ≤ XB ∧ W0.heap.size ≤ c ∧ p ≤ 900000 ∧ c ≠ XR) (ho1 : false = false → OwnHp w B (.slice aL L.length cL) L) (ho2 : false = true → OwnHp w B (.slice (some ⟨G, 0, none⟩) (L.length + 1) CP) (L ++ [(⟨x6, x11⟩ : Hp)])) (hLn : L.length ≤ 1000) (hoO : OwnHp w BO (.slice aO nO cO) LO ∧ c < BO ∧ ((Value.slice aO nO cO).ownBlock = none ∨ (Value.slice aO nO cO).ownBlock ≠ (Value.slice aL L.length cL).ownBlock)) (hX2 : true = true → false = false → RowAt w X2 9 #[.string ⟨#[]⟩, .string ⟨#[65]⟩, .string ⟨#[108, 101, 110, 103, 116, 104]⟩, .string ⟨#[97]⟩] ∧ B ≤ X2) (hR4 : true = true → R4 < 4) (hx6 : true = true → x6.size ≤ 6) (hX7 : true = true → false = false → RowAt w X7 9 #[.string ⟨#[32, 120]⟩, .string ⟨#[120, 32]⟩, .string ⟨#[10]⟩, .string ⟨#[120]⟩] ∧ B ≤ X7) (hR9 : true = true → R9 < 4) (hx11 : true = true → x11.size ≤ 2) (hX13 : false = true → false = false → RowAt w X13 54 #[.string x6, .string x11] ∧ B ≤ X13) :
    wpOp Tryz.prog ra10O Q 13 (ra10I W0 w0 c a len cap p XR XB B zr y0 y1 y2 y4 aL cL L BO aO nO cO LO s1 s4 s5 s6 s7 s8 s9 s10 s11 s12 s13 s14 s15 s16 s17 s18 s19 s20 s21 s22 s23 s24 s25 s26 s27 s28 s29 s30 s31 s32 s33 s34 s35 s36 s37 s38 s39 s40 s41 s42 s43 s44 s45 s46 s47 s48 s49 s50 s51 s52 s53 s54 s55 s56 s57 s58 s59 s60 s61 s62 s63 s64 s65 s66 s67 s68 s69 s70 s71 #[b0, b1, true, true, true, true, true, true, true, true, true, true, true, true, false, false, false]) { tmps := #[.pointer (some ⟨c, 0, none⟩), s1, .pointer (some ⟨XR, 0, none⟩), .pointer (some ⟨XB, 0, none⟩), s4, s5, s6, s7, s8, s9, s10, s11, s12, s13, s14, s15, s16, s17, s18, s19, s20, s21, s22, s23, s24, s25, s26, s27, s28, s29, s30, s31, s32, s33, s34, s35, s36, s37, s38, s39, s40, s41, s42, s43, s44, s45, sel b0 (.pointer (some ⟨XB, 3, none⟩)) (s46), sel b1 (.slice aL L.length cL) (s47), .slice (some ⟨X2, 0, none⟩) 4 4, .pointer (some ⟨c, 0, none⟩), .int .i64 (R4 : Int), .pointer (some ⟨X2, R4, none⟩), .string x6, .slice (some ⟨X7, 0, none⟩) 4 4, .pointer (some ⟨c, 0, none⟩), .int .i64 (R9 : Int), .pointer (some ⟨X7, R9, none⟩), .string x11, .agg #[.string x6, .string x11], s59, s60, s61, s62, s63, s64, s65, s66, s67, s68, s69, s70, s71], defers := [] } w := by
  refine wpOp_step (o := { dst := some 59, op := Op.buildSlice 23 1 #[(0, Operand.tmp 58)], type := 23, pos := "l10_request.go:399", after := #[{ on := 12, ground := Ground.data }], guard := none }) rfl (fun K hK => ?_)
  replace hK := hid hK
  go_simp
  exact hK.out _ _ ⟨b0, b1, true, true, true, true, true, true, true, true, true, true, true, true, false, false, false, X2, R4, x6, X7, R9, x11, w.heap.size, G, CP, pp, rfl, rfl, hS.alloc _, hp, grown_al hg _, hbox.alloc _, hR.alloc _, by simp only [World.size_alloc]; omega, hst, fun h => World.ownsRow.alloc (ho1 h) _, fun h => Bool.noConfusion h, hLn, ⟨World.ownsRow.alloc hoO.1 _, hoO.2⟩, fun h e => ⟨(hX2 h e).1.alloc _, (hX2 h e).2⟩, hR4, hx6, fun h e => ⟨(hX7 h e).1.alloc _, (hX7 h e).2⟩, hR9, hx11, fun _ _ => ⟨RowAt.new w _ _, hBz⟩⟩
set_option maxRecDepth 20000 in
set_option maxHeartbeats 1000000 in
theorem ra10_s14 {Q : Exit → Act → World → Prop} (W0 w0 : World) (c : Nat) (a : Option Addr) (len cap p XR XB B : Nat) (zr : Array Value) (y0 y1 y2 y4 : Value) (aL : Option Addr) (cL : Nat) (L : List Hp) (BO : Nat) (aO : Option Addr) (nO cO : Nat) (LO : List Hp) (s1 s4 s5 s6 s7 s8 s9 s10 s11 s12 s13 s14 s15 s16 s17 s18 s19 s20 s21 s22 s23 s24 s25 s26 s27 s28 s29 s30 s31 s32 s33 s34 s35 s36 s37 s38 s39 s40 s41 s42 s43 s44 s45 s46 s47 s48 s49 s50 s51 s52 s53 s54 s55 s56 s57 s58 s59 s60 s61 s62 s63 s64 s65 s66 s67 s68 s69 s70 s71 : Value) (X2 : Nat) (R4 : Nat) (x6 : ByteArray) (X7 : Nat) (R9 : Nat) (x11 : ByteArray) (X13 : Nat) (G : Nat) (CP : Nat) (pp : Nat) (w : World) (hS : Src W0 w c a len cap pp) (hp : pp ≤ p + 40 * (1 + 1)) (hg : w0.grownBy w (some c)) (hbox : RowAt w XB 25 (cond false #[y0, y1, y2, .slice (some ⟨G, 0, none⟩) (L.length + 1) CP, y4] #[y0, y1, y2, .slice aL L.length cL, y4])) (hR : RowAt w XR 25 zr) (hBz : B ≤ w.heap.size) (hst : c < XB ∧ c < B ∧ w0.heap.size ≤ B ∧ XR ≠ XB ∧ w0.heap.size ≤ XB ∧ W0.heap.size ≤ c ∧ p ≤ 900000 ∧ c ≠ XR) (ho1 : false = false → OwnHp w B (.slice aL L.length cL) L) (ho2 : false = true → OwnHp w B (.slice (some ⟨G, 0, none⟩) (L.length + 1) CP) (L ++ [(⟨x6, x11⟩ : Hp)])) (hLn : L.length ≤ 1000) (hoO : OwnHp w BO (.slice aO nO cO) LO ∧ c < BO ∧ ((Value.slice aO nO cO).ownBlock = none ∨ (Value.slice aO nO cO).ownBlock ≠ (Value.slice aL L.length cL).ownBlock)) (hX2 : true = true → false = false → RowAt w X2 9 #[.string ⟨#[]⟩, .string ⟨#[65]⟩, .string ⟨#[108, 101, 110, 103, 116, 104]⟩, .string ⟨#[97]⟩] ∧ B ≤ X2) (hR4 : true = true → R4 < 4) (hx6 : true = true → x6.size ≤ 6) (hX7 : true = true → false = false → RowAt w X7 9 #[.string ⟨#[32, 120]⟩, .string ⟨#[120, 32]⟩, .string ⟨#[10]⟩, .string ⟨#[120]⟩] ∧ B ≤ X7) (hR9 : true = true → R9 < 4) (hx11 : true = true → x11.size ≤ 2) (hX13 : true = true → false = false → RowAt w X13 54 #[.string x6, .string x11] ∧ B ≤ X13) :
    wpOp Tryz.prog ra10O Q 14 (ra10I W0 w0 c a len cap p XR XB B zr y0 y1 y2 y4 aL cL L BO aO nO cO LO s1 s4 s5 s6 s7 s8 s9 s10 s11 s12 s13 s14 s15 s16 s17 s18 s19 s20 s21 s22 s23 s24 s25 s26 s27 s28 s29 s30 s31 s32 s33 s34 s35 s36 s37 s38 s39 s40 s41 s42 s43 s44 s45 s46 s47 s48 s49 s50 s51 s52 s53 s54 s55 s56 s57 s58 s59 s60 s61 s62 s63 s64 s65 s66 s67 s68 s69 s70 s71 #[true, true, true, true, true, true, true, true, true, true, true, true, true, true, true, false, false]) { tmps := #[.pointer (some ⟨c, 0, none⟩), s1, .pointer (some ⟨XR, 0, none⟩), .pointer (some ⟨XB, 0, none⟩), s4, s5, s6, s7, s8, s9, s10, s11, s12, s13, s14, s15, s16, s17, s18, s19, s20, s21, s22, s23, s24, s25, s26, s27, s28, s29, s30, s31, s32, s33, s34, s35, s36, s37, s38, s39, s40, s41, s42, s43, s44, s45, .pointer (some ⟨XB, 3, none⟩), .slice aL L.length cL, .slice (some ⟨X2, 0, none⟩) 4 4, .pointer (some ⟨c, 0, none⟩), .int .i64 (R4 : Int), .pointer (some ⟨X2, R4, none⟩), .string x6, .slice (some ⟨X7, 0, none⟩) 4 4, .pointer (some ⟨c, 0, none⟩), .int .i64 (R9 : Int), .pointer (some ⟨X7, R9, none⟩), .string x11, .agg #[.string x6, .string x11], .slice (some ⟨X13, 0, none⟩) 1 1, s60, s61, s62, s63, s64, s65, s66, s67, s68, s69, s70, s71], defers := [] } w := by
  refine wpOp_step (o := { dst := some 60, op := Op.call { callee := Callee.builtin Builtin.append, args := #[Operand.tmp 47, Operand.tmp 59], argTypes := #[23, 23] }, type := 23, pos := "l10_request.go:399", after := #[{ on := 1, ground := Ground.data }, { on := 13, ground := Ground.data }, { on := 9, ground := Ground.chain }], guard := none }) rfl (fun K hK => ?_)
  replace hK := hid hK
  have hO := ho1 rfl
  refine step_append_hpD B _ (by rfl) _ _ 23 (by rfl) Tryz.underlying23 Tryz.infoHpF _ L x6 x11 (by rfl) hO hBz X13 (hX13 rfl rfl).1 (by rfl) (by omega) ?_
  intro g3 c3 w3 hO3 hg3
  exact hK.out _ _ ⟨true, true, true, true, true, true, true, true, true, true, true, true, true, true, true, false, false, X2, R4, x6, X7, R9, x11, X13, g3, c3, pp, rfl, rfl, hS.far hg3 (OwnHp.apart hO (by omega)) (fun g hg => by have := (World.ownsRow.lt hO _ hg).1; omega), hp, grown_own hg hg3 (fun g hg => (World.ownsRow.lt hO _ hg).1) (by omega), row_grown hbox hg3 (OwnHp.neRow hO hbox (by decide)), row_grown hR hg3 (OwnHp.neRow hO hR (by decide)), Nat.le_trans hBz hg3.size, hst, fun h => Bool.noConfusion h, fun _ => hO3, hLn, ⟨World.ownsRow.kept hoO.1 hg3 hoO.2.2, hoO.2⟩, fun h e => Bool.noConfusion e, hR4, hx6, fun h e => Bool.noConfusion e, hR9, hx11, fun h e => Bool.noConfusion e⟩
set_option maxRecDepth 20000 in
set_option maxHeartbeats 1000000 in
theorem ra10_s15 {Q : Exit → Act → World → Prop} (W0 w0 : World) (c : Nat) (a : Option Addr) (len cap p XR XB B : Nat) (zr : Array Value) (y0 y1 y2 y4 : Value) (aL : Option Addr) (cL : Nat) (L : List Hp) (BO : Nat) (aO : Option Addr) (nO cO : Nat) (LO : List Hp) (s1 s4 s5 s6 s7 s8 s9 s10 s11 s12 s13 s14 s15 s16 s17 s18 s19 s20 s21 s22 s23 s24 s25 s26 s27 s28 s29 s30 s31 s32 s33 s34 s35 s36 s37 s38 s39 s40 s41 s42 s43 s44 s45 s46 s47 s48 s49 s50 s51 s52 s53 s54 s55 s56 s57 s58 s59 s60 s61 s62 s63 s64 s65 s66 s67 s68 s69 s70 s71 : Value) (X2 : Nat) (R4 : Nat) (x6 : ByteArray) (X7 : Nat) (R9 : Nat) (x11 : ByteArray) (X13 : Nat) (G : Nat) (CP : Nat) (pp : Nat) (w : World) (hS : Src W0 w c a len cap pp) (hp : pp ≤ p + 40 * (1 + 1)) (hg : w0.grownBy w (some c)) (hbox : RowAt w XB 25 (cond false #[y0, y1, y2, .slice (some ⟨G, 0, none⟩) (L.length + 1) CP, y4] #[y0, y1, y2, .slice aL L.length cL, y4])) (hR : RowAt w XR 25 zr) (hBz : B ≤ w.heap.size) (hst : c < XB ∧ c < B ∧ w0.heap.size ≤ B ∧ XR ≠ XB ∧ w0.heap.size ≤ XB ∧ W0.heap.size ≤ c ∧ p ≤ 900000 ∧ c ≠ XR) (ho1 : true = false → OwnHp w B (.slice aL L.length cL) L) (ho2 : true = true → OwnHp w B (.slice (some ⟨G, 0, none⟩) (L.length + 1) CP) (L ++ [(⟨x6, x11⟩ : Hp)])) (hLn : L.length ≤ 1000) (hoO : OwnHp w BO (.slice aO nO cO) LO ∧ c < BO ∧ ((Value.slice aO nO cO).ownBlock = none ∨ (Value.slice aO nO cO).ownBlock ≠ (Value.slice aL L.length cL).ownBlock)) (hX2 : true = true → true = false → RowAt w X2 9 #[.string ⟨#[]⟩, .string ⟨#[65]⟩, .string ⟨#[108, 101, 110, 103, 116, 104]⟩, .string ⟨#[97]⟩] ∧ B ≤ X2) (hR4 : true = true → R4 < 4) (hx6 : true = true → x6.size ≤ 6) (hX7 : true = true → true = false → RowAt w X7 9 #[.string ⟨#[32, 120]⟩, .string ⟨#[120, 32]⟩, .string ⟨#[10]⟩, .string ⟨#[120]⟩] ∧ B ≤ X7) (hR9 : true = true → R9 < 4) (hx11 : true = true → x11.size ≤ 2) (hX13 : true = true → true = false → RowAt w X13 54 #[.string x6, .string x11] ∧ B ≤ X13) :
    wpOp Tryz.prog ra10O Q 15 (ra10I W0 w0 c a len cap p XR XB B zr y0 y1 y2 y4 aL cL L BO aO nO cO LO s1 s4 s5 s6 s7 s8 s9 s10 s11 s12 s13 s14 s15 s16 s17 s18 s19 s20 s21 s22 s23 s24 s25 s26 s27 s28 s29 s30 s31 s32 s33 s34 s35 s36 s37 s38 s39 s40 s41 s42 s43 s44 s45 s46 s47 s48 s49 s50 s51 s52 s53 s54 s55 s56 s57 s58 s59 s60 s61 s62 s63 s64 s65 s66 s67 s68 s69 s70 s71 #[true, true, true, true, true, true, true, true, true, true, true, true, true, true, true, true, false]) { tmps := #[.pointer (some ⟨c, 0, none⟩), s1, .pointer (some ⟨XR, 0, none⟩), .pointer (some ⟨XB, 0, none⟩), s4, s5, s6, s7, s8, s9, s10, s11, s12, s13, s14, s15, s16, s17, s18, s19, s20, s21, s22, s23, s24, s25, s26, s27, s28, s29, s30, s31, s32, s33, s34, s35, s36, s37, s38, s39, s40, s41, s42, s43, s44, s45, .pointer (some ⟨XB, 3, none⟩), .slice aL L.length cL, .slice (some ⟨X2, 0, none⟩) 4 4, .pointer (some ⟨c, 0, none⟩), .int .i64 (R4 : Int), .pointer (some ⟨X2, R4, none⟩), .string x6, .slice (some ⟨X7, 0, none⟩) 4 4, .pointer (some ⟨c, 0, none⟩), .int .i64 (R9 : Int), .pointer (some ⟨X7, R9, none⟩), .string x11, .agg #[.string x6, .string x11], .slice (some ⟨X13, 0, none⟩) 1 1, .slice (some ⟨G, 0, none⟩) (L.length + 1) CP, s61, s62, s63, s64, s65, s66, s67, s68, s69, s70, s71], defers := [] } w := by
  refine wpOp_step (o := { dst := some 61, op := Op.fieldAddr 25 (Operand.tmp 3) 3, type := 0, pos := "l10_request.go:399", after := #[{ on := 0, ground := Ground.phase }, { on := 1, ground := Ground.phase }, { on := 2, ground := Ground.phase }, { on := 3, ground := Ground.phase }, { on := 4, ground := Ground.phase }, { on := 5, ground := Ground.phase }, { on := 6, ground := Ground.phase }, { on := 7, ground := Ground.phase }, { on := 8, ground := Ground.phase }, { on := 9, ground := Ground.phase }, { on := 10, ground := Ground.phase }, { on := 11, ground := Ground.phase }, { on := 12, ground := Ground.phase }, { on := 13, ground := Ground.phase }, { on := 14, ground := Ground.phase }], guard := none }) rfl (fun K hK => ?_)
  replace hK := hid hK
  go_simp
  exact hK.out _ _ ⟨true, true, true, true, true, true, true, true, true, true, true, true, true, true, true, true, false, X2, R4, x6, X7, R9, x11, X13, G, CP, pp, rfl, rfl, hS, hp, hg, hbox, hR, hBz, hst, ho1, ho2, hLn, hoO, hX2, hR4, hx6, hX7, hR9, hx11, hX13⟩
set_option maxRecDepth 20000 in
set_option maxHeartbeats 1000000 in
theorem ra10_s16 {Q : Exit → Act → World → Prop} (W0 w0 : World) (c : Nat) (a : Option Addr) (len cap p XR XB B : Nat) (zr : Array Value) (y0 y1 y2 y4 : Value) (aL : Option Addr) (cL : Nat) (L : List Hp) (BO : Nat) (aO : Option Addr) (nO cO : Nat) (LO : List Hp) (s1 s4 s5 s6 s7 s8 s9 s10 s11 s12 s13 s14 s15 s16 s17 s18 s19 s20 s21 s22 s23 s24 s25 s26 s27 s28 s29 s30 s31 s32 s33 s34 s35 s36 s37 s38 s39 s40 s41 s42 s43 s44 s45 s46 s47 s48 s49 s50 s51 s52 s53 s54 s55 s56 s57 s58 s59 s60 s61 s62 s63 s64 s65 s66 s67 s68 s69 s70 s71 : Value) (X2 : Nat) (R4 : Nat) (x6 : ByteArray) (X7 : Nat) (R9 : Nat) (x11 : ByteArray) (X13 : Nat) (G : Nat) (CP : Nat) (pp : Nat) (w : World) (hS : Src W0 w c a len cap pp) (hp : pp ≤ p + 40 * (1 + 1)) (hg : w0.grownBy w (some c)) (hbox : RowAt w XB 25 (cond false #[y0, y1, y2, .slice (some ⟨G, 0, none⟩) (L.length + 1) CP, y4] #[y0, y1, y2, .slice aL L.length cL, y4])) (hR : RowAt w XR 25 zr) (hBz : B ≤ w.heap.size) (hst : c < XB ∧ c < B ∧ w0.heap.size ≤ B ∧ XR ≠ XB ∧ w0.heap.size ≤ XB ∧ W0.heap.size ≤ c ∧ p ≤ 900000 ∧ c ≠ XR) (ho1 : true = false → OwnHp w B (.slice aL L.length cL) L) (ho2 : true = true → OwnHp w B (.slice (some ⟨G, 0, none⟩) (L.length + 1) CP) (L ++ [(⟨x6, x11⟩ : Hp)])) (hLn : L.length ≤ 1000) (hoO : OwnHp w BO (.slice aO nO cO) LO ∧ c < BO ∧ ((Value.slice aO nO cO).ownBlock = none ∨ (Value.slice aO nO cO).ownBlock ≠ (Value.slice aL L.length cL).ownBlock)) (hX2 : true = true → true = false → RowAt w X2 9 #[.string ⟨#[]⟩, .string ⟨#[65]⟩, .string ⟨#[108, 101, 110, 103, 116, 104]⟩, .string ⟨#[97]⟩] ∧ B ≤ X2) (hR4 : true = true → R4 < 4) (hx6 : true = true → x6.size ≤ 6) (hX7 : true = true → true = false → RowAt w X7 9 #[.string ⟨#[32, 120]⟩, .string ⟨#[120, 32]⟩, .string ⟨#[10]⟩, .string ⟨#[120]⟩] ∧ B ≤ X7) (hR9 : true = true → R9 < 4) (hx11 : true = true → x11.size ≤ 2) (hX13 : true = true → true = false → RowAt w X13 54 #[.string x6, .string x11] ∧ B ≤ X13) :
    wpOp Tryz.prog ra10O Q 16 (ra10I W0 w0 c a len cap p XR XB B zr y0 y1 y2 y4 aL cL L BO aO nO cO LO s1 s4 s5 s6 s7 s8 s9 s10 s11 s12 s13 s14 s15 s16 s17 s18 s19 s20 s21 s22 s23 s24 s25 s26 s27 s28 s29 s30 s31 s32 s33 s34 s35 s36 s37 s38 s39 s40 s41 s42 s43 s44 s45 s46 s47 s48 s49 s50 s51 s52 s53 s54 s55 s56 s57 s58 s59 s60 s61 s62 s63 s64 s65 s66 s67 s68 s69 s70 s71 #[true, true, true, true, true, true, true, true, true, true, true, true, true, true, true, true, true]) { tmps := #[.pointer (some ⟨c, 0, none⟩), s1, .pointer (some ⟨XR, 0, none⟩), .pointer (some ⟨XB, 0, none⟩), s4, s5, s6, s7, s8, s9, s10, s11, s12, s13, s14, s15, s16, s17, s18, s19, s20, s21, s22, s23, s24, s25, s26, s27, s28, s29, s30, s31, s32, s33, s34, s35, s36, s37, s38, s39, s40, s41, s42, s43, s44, s45, .pointer (some ⟨XB, 3, none⟩), .slice aL L.length cL, .slice (some ⟨X2, 0, none⟩) 4 4, .pointer (some ⟨c, 0, none⟩), .int .i64 (R4 : Int), .pointer (some ⟨X2, R4, none⟩), .string x6, .slice (some ⟨X7, 0, none⟩) 4 4, .pointer (some ⟨c, 0, none⟩), .int .i64 (R9 : Int), .pointer (some ⟨X7, R9, none⟩), .string x11, .agg #[.string x6, .string x11], .slice (some ⟨X13, 0, none⟩) 1 1, .slice (some ⟨G, 0, none⟩) (L.length + 1) CP, .pointer (some ⟨XB, 3, none⟩), s62, s63, s64, s65, s66, s67, s68, s69, s70, s71], defers := [] } w := by
  have hbx : RowAt w XB 25 #[y0, y1, y2, .slice aL L.length cL, y4] := hbox
  have q := hbx.cell 3
  have f := hbx.free 3
  refine wpOp_step (o := { dst := none, op := Op.store 23 (Operand.tmp 61) (Operand.tmp 60), type := 0, pos := "l10_request.go:399", after := #[{ on := 15, ground := Ground.data }, { on := 14, ground := Ground.data }, { on := 14, ground := Ground.chain }, { on := 0, ground := Ground.phase }, { on := 1, ground := Ground.phase }, { on := 2, ground := Ground.phase }, { on := 3, ground := Ground.phase }, { on := 4, ground := Ground.phase }, { on := 5, ground := Ground.phase }, { on := 6, ground := Ground.phase }, { on := 7, ground := Ground.phase }, { on := 8, ground := Ground.phase }, { on := 9, ground := Ground.phase }, { on := 10, ground := Ground.phase }, { on := 11, ground := Ground.phase }, { on := 12, ground := Ground.phase }, { on := 13, ground := Ground.phase }, { on := 14, ground := Ground.phase }], guard := none }) rfl (fun K hK => ?_)
  replace hK := hid hK
  go_simp
  exact hK.out _ _ ⟨true, true, true, true, true, true, true, true, true, true, true, true, true, true, true, true, true, X2, R4, x6, X7, R9, x11, X13, G, CP, pp, rfl, rfl, hS.set hst.1 3 _, hp, grown_far hg hst.2.2.2.2.1 3 _, hbx.set 3 _, hR.other ⟨XB, 3, none⟩ _ hst.2.2.2.1, by simp; omega, hst, fun h => Bool.noConfusion h, fun h => OwnHp.setCellN (ho2 h) (OwnHp.neRow (ho2 h) hbx (by decide)), hLn, ⟨OwnHp.setCellN hoO.1 (OwnHp.neRow hoO.1 hbx (by decide)), hoO.2⟩, fun h e => Bool.noConfusion e, hR4, hx6, fun h e => Bool.noConfusion e, hR9, hx11, fun h e => Bool.noConfusion e⟩
set_option maxRecDepth 20000 in
set_option maxHeartbeats 2000000 in
theorem ra10_step {Q : Exit → Act → World → Prop} (W0 w0 : World) (c : Nat) (a : Option Addr) (len cap p XR XB B : Nat) (zr : Array Value) (y0 y1 y2 y4 : Value) (aL : Option Addr) (cL : Nat) (L : List Hp) (BO : Nat) (aO : Option Addr) (nO cO : Nat) (LO : List Hp) (s1 s4 s5 s6 s7 s8 s9 s10 s11 s12 s13 s14 s15 s16 s17 s18 s19 s20 s21 s22 s23 s24 s25 s26 s27 s28 s29 s30 s31 s32 s33 s34 s35 s36 s37 s38 s39 s40 s41 s42 s43 s44 s45 s46 s47 s48 s49 s50 s51 s52 s53 s54 s55 s56 s57 s58 s59 s60 s61 s62 s63 s64 s65 s66 s67 s68 s69 s70 s71 : Value) (l : Array Bool) (f : Act) (w : World) (hC : Closed ra10O l) (hI : ra10I W0 w0 c a len cap p XR XB B zr y0 y1 y2 y4 aL cL L BO aO nO cO LO s1 s4 s5 s6 s7 s8 s9 s10 s11 s12 s13 s14 s15 s16 s17 s18 s19 s20 s21 s22 s23 s24 s25 s26 s27 s28 s29 s30 s31 s32 s33 s34 s35 s36 s37 s38 s39 s40 s41 s42 s43 s44 s45 s46 s47 s48 s49 s50 s51 s52 s53 s54 s55 s56 s57 s58 s59 s60 s61 s62 s63 s64 s65 s66 s67 s68 s69 s70 s71 l f w) (i : Nat) (h0 : l.getD i true = false) (o : Oper) (ho : ra10O[i]? = some o) (h1 : ∀ e ∈ o.after, Region.binds .any e = true → l.getD e.on false = true) : wpOp Tryz.prog ra10O Q i (ra10I W0 w0 c a len cap p XR XB B zr y0 y1 y2 y4 aL cL L BO aO nO cO LO s1 s4 s5 s6 s7 s8 s9 s10 s11 s12 s13 s14 s15 s16 s17 s18 s19 s20 s21 s22 s23 s24 s25 s26 s27 s28 s29 s30 s31 s32 s33 s34 s35 s36 s37 s38 s39 s40 s41 s42 s43 s44 s45 s46 s47 s48 s49 s50 s51 s52 s53 s54 s55 s56 s57 s58 s59 s60 s61 s62 s63 s64 s65 s66 s67 s68 s69 s70 s71 (l.setIfInBounds i true)) f w := by
  obtain ⟨b0, b1, b2, b3, b4, b5, b6, b7, b8, b9, b10, b11, b12, b13, b14, b15, b16, X2, R4, x6, X7, R9, x11, X13, G, CP, pp, rfl, rfl, hS, hp, hg, hbox, hR, hBz, hst, ho1, ho2, hLn, hoO, hX2, hR4, hx6, hX7, hR9, hx11, hX13⟩ := hI
  have hi : i < 17 := by
    rcases Nat.lt_or_ge i 17 with h | h
    · exact h
    · rw [show ra10O[i]? = none from Array.getElem?_eq_none h] at ho; cases ho
  rcases (by omega : i = 0 ∨ i = 1 ∨ i = 2 ∨ i = 3 ∨ i = 4 ∨ i = 5 ∨ i = 6 ∨ i = 7 ∨ i = 8 ∨ i = 9 ∨ i = 10 ∨ i = 11 ∨ i = 12 ∨ i = 13 ∨ i = 14 ∨ i = 15 ∨ i = 16) with rfl | rfl | rfl | rfl | rfl | rfl | rfl | rfl | rfl | rfl | rfl | rfl | rfl | rfl | rfl | rfl | rfl
  · obtain rfl : ra10o0 = o := Option.some.inj ho
    obtain rfl : b0 = false := h0
    obtain rfl : b1 = false := by
      cases b1 with
      | false => rfl
      | true => exact Bool.noConfusion (show false = true from hC 1 ra10o1 rfl rfl ⟨0, .data⟩ (by simp [ra10o1]) rfl)
    obtain rfl : b14 = false := by
      cases b14 with
      | false => rfl
      | true => exact Bool.noConfusion (show false = true from hC 14 ra10o14 rfl rfl ⟨1, .data⟩ (by simp [ra10o14]) rfl)
    obtain rfl : b15 = false := by
      cases b15 with
      | false => rfl
      | true => exact Bool.noConfusion (show false = true from hC 15 ra10o15 rfl rfl ⟨0, .phase⟩ (by simp [ra10o15]) rfl)
    obtain rfl : b16 = false := by
      cases b16 with
      | false => rfl
      | true => exact Bool.noConfusion (show false = true from hC 16 ra10o16 rfl rfl ⟨0, .phase⟩ (by simp [ra10o16]) rfl)
    exact ra10_s0 W0 w0 c a len cap p XR XB B zr y0 y1 y2 y4 aL cL L BO aO nO cO LO s1 s4 s5 s6 s7 s8 s9 s10 s11 s12 s13 s14 s15 s16 s17 s18 s19 s20 s21 s22 s23 s24 s25 s26 s27 s28 s29 s30 s31 s32 s33 s34 s35 s36 s37 s38 s39 s40 s41 s42 s43 s44 s45 s46 s47 s48 s49 s50 s51 s52 s53 s54 s55 s56 s57 s58 s59 s60 s61 s62 s63 s64 s65 s66 s67 s68 s69 s70 s71 b2 b3 b4 b5 b6 b7 b8 b9 b10 b11 b12 b13 X2 R4 x6 X7 R9 x11 X13 G CP pp w hS hp hg hbox hR hBz hst ho1 ho2 hLn hoO hX2 hR4 hx6 hX7 hR9 hx11 hX13
  · obtain rfl : ra10o1 = o := Option.some.inj ho
    obtain rfl : b1 = false := h0
    obtain rfl : b0 = true := h1 ⟨0, .data⟩ (by simp [ra10o1]) rfl
    obtain rfl : b14 = false := by
      cases b14 with
      | false => rfl
      | true => exact Bool.noConfusion (show false = true from hC 14 ra10o14 rfl rfl ⟨1, .data⟩ (by simp [ra10o14]) rfl)
    obtain rfl : b15 = false := by
      cases b15 with
      | false => rfl
      | true => exact Bool.noConfusion (show false = true from hC 15 ra10o15 rfl rfl ⟨1, .phase⟩ (by simp [ra10o15]) rfl)
    obtain rfl : b16 = false := by
      cases b16 with
      | false => rfl
      | true => exact Bool.noConfusion (show false = true from hC 16 ra10o16 rfl rfl ⟨1, .phase⟩ (by simp [ra10o16]) rfl)
    exact ra10_s1 W0 w0 c a len cap p XR XB B zr y0 y1 y2 y4 aL cL L BO aO nO cO LO s1 s4 s5 s6 s7 s8 s9 s10 s11 s12 s13 s14 s15 s16 s17 s18 s19 s20 s21 s22 s23 s24 s25 s26 s27 s28 s29 s30 s31 s32 s33 s34 s35 s36 s37 s38 s39 s40 s41 s42 s43 s44 s45 s46 s47 s48 s49 s50 s51 s52 s53 s54 s55 s56 s57 s58 s59 s60 s61 s62 s63 s64 s65 s66 s67 s68 s69 s70 s71 b2 b3 b4 b5 b6 b7 b8 b9 b10 b11 b12 b13 X2 R4 x6 X7 R9 x11 X13 G CP pp w hS hp hg hbox hR hBz hst ho1 ho2 hLn hoO hX2 hR4 hx6 hX7 hR9 hx11 hX13
  · obtain rfl : ra10o2 = o := Option.some.inj ho
    obtain rfl : b2 = false := h0
    obtain rfl : b5 = false := by
      cases b5 with
      | false => rfl
      | true => exact Bool.noConfusion (show false = true from hC 5 ra10o5 rfl rfl ⟨2, .data⟩ (by simp [ra10o5]) rfl)
    obtain rfl : b6 = false := by
      cases b6 with
      | false => rfl
      | true => exact Bool.noConfusion (show false = true from hC 6 ra10o6 rfl rfl ⟨5, .data⟩ (by simp [ra10o6]) rfl)
    obtain rfl : b12 = false := by
      cases b12 with
      | false => rfl
      | true => exact Bool.noConfusion (show false = true from hC 12 ra10o12 rfl rfl ⟨6, .data⟩ (by simp [ra10o12]) rfl)
    obtain rfl : b13 = false := by
      cases b13 with
      | false => rfl
      | true => exact Bool.noConfusion (show false = true from hC 13 ra10o13 rfl rfl ⟨12, .data⟩ (by simp [ra10o13]) rfl)
    obtain rfl : b14 = false := by
      cases b14 with
      | false => rfl
      | true => exact Bool.noConfusion (show false = true from hC 14 ra10o14 rfl rfl ⟨13, .data⟩ (by simp [ra10o14]) rfl)
    obtain rfl : b15 = false := by
      cases b15 with
      | false => rfl
      | true => exact Bool.noConfusion (show false = true from hC 15 ra10o15 rfl rfl ⟨2, .phase⟩ (by simp [ra10o15]) rfl)
    obtain rfl : b16 = false := by
      cases b16 with
      | false => rfl
      | true => exact Bool.noConfusion (show false = true from hC 16 ra10o16 rfl rfl ⟨2, .phase⟩ (by simp [ra10o16]) rfl)
    exact ra10_s2 W0 w0 c a len cap p XR XB B zr y0 y1 y2 y4 aL cL L BO aO nO cO LO s1 s4 s5 s6 s7 s8 s9 s10 s11 s12 s13 s14 s15 s16 s17 s18 s19 s20 s21 s22 s23 s24 s25 s26 s27 s28 s29 s30 s31 s32 s33 s34 s35 s36 s37 s38 s39 s40 s41 s42 s43 s44 s45 s46 s47 s48 s49 s50 s51 s52 s53 s54 s55 s56 s57 s58 s59 s60 s61 s62 s63 s64 s65 s66 s67 s68 s69 s70 s71 b0 b1 b3 b4 b7 b8 b9 b10 b11 X2 R4 x6 X7 R9 x11 X13 G CP pp w hS hp hg hbox hR hBz hst ho1 ho2 hLn hoO hX2 hR4 hx6 hX7 hR9 hx11 hX13
  · obtain rfl : ra10o3 = o := Option.some.inj ho
    obtain rfl : b3 = false := h0
    obtain rfl : b4 = false := by
      cases b4 with
      | false => rfl
      | true => exact Bool.noConfusion (show false = true from hC 4 ra10o4 rfl rfl ⟨3, .data⟩ (by simp [ra10o4]) rfl)
    obtain rfl : b5 = false := by
      cases b5 with
      | false => rfl
      | true => exact Bool.noConfusion (show false = true from hC 5 ra10o5 rfl rfl ⟨4, .data⟩ (by simp [ra10o5]) rfl)
    obtain rfl : b6 = false := by
      cases b6 with
      | false => rfl
      | true => exact Bool.noConfusion (show false = true from hC 6 ra10o6 rfl rfl ⟨5, .data⟩ (by simp [ra10o6]) rfl)
    obtain rfl : b9 = false := by
      cases b9 with
      | false => rfl
      | true => exact Bool.noConfusion (show false = true from hC 9 ra10o9 rfl rfl ⟨4, .chain⟩ (by simp [ra10o9]) rfl)
    obtain rfl : b10 = false := by
      cases b10 with
      | false => rfl
      | true => exact Bool.noConfusion (show false = true from hC 10 ra10o10 rfl rfl ⟨9, .data⟩ (by simp [ra10o10]) rfl)
    obtain rfl : b11 = false := by
      cases b11 with
      | false => rfl
      | true => exact Bool.noConfusion (show false = true from hC 11 ra10o11 rfl rfl ⟨10, .data⟩ (by simp [ra10o11]) rfl)
    obtain rfl : b12 = false := by
      cases b12 with
      | false => rfl
      | true => exact Bool.noConfusion (show false = true from hC 12 ra10o12 rfl rfl ⟨6, .data⟩ (by simp [ra10o12]) rfl)
    obtain rfl : b13 = false := by
      cases b13 with
      | false => rfl
      | true => exact Bool.noConfusion (show false = true from hC 13 ra10o13 rfl rfl ⟨12, .data⟩ (by simp [ra10o13]) rfl)
    obtain rfl : b14 = false := by
      cases b14 with
      | false => rfl
      | true => exact Bool.noConfusion (show false = true from hC 14 ra10o14 rfl rfl ⟨9, .chain⟩ (by simp [ra10o14]) rfl)
    obtain rfl : b15 = false := by
      cases b15 with
      | false => rfl
      | true => exact Bool.noConfusion (show false = true from hC 15 ra10o15 rfl rfl ⟨3, .phase⟩ (by simp [ra10o15]) rfl)
    obtain rfl : b16 = false := by
      cases b16 with
      | false => rfl
      | true => exact Bool.noConfusion (show false = true from hC 16 ra10o16 rfl rfl ⟨3, .phase⟩ (by simp [ra10o16]) rfl)
    exact ra10_s3 W0 w0 c a len cap p XR XB B zr y0 y1 y2 y4 aL cL L BO aO nO cO LO s1 s4 s5 s6 s7 s8 s9 s10 s11 s12 s13 s14 s15 s16 s17 s18 s19 s20 s21 s22 s23 s24 s25 s26 s27 s28 s29 s30 s31 s32 s33 s34 s35 s36 s37 s38 s39 s40 s41 s42 s43 s44 s45 s46 s47 s48 s49 s50 s51 s52 s53 s54 s55 s56 s57 s58 s59 s60 s61 s62 s63 s64 s65 s66 s67 s68 s69 s70 s71 b0 b1 b2 b7 b8 X2 R4 x6 X7 R9 x11 X13 G CP pp w hS hp hg hbox hR hBz hst ho1 ho2 hLn hoO hX2 hR4 hx6 hX7 hR9 hx11 hX13
  · obtain rfl : ra10o4 = o := Option.some.inj ho
    obtain rfl : b4 = false := h0
    obtain rfl : b3 = true := h1 ⟨3, .data⟩ (by simp [ra10o4]) rfl
    obtain rfl : b5 = false := by
      cases b5 with
      | false => rfl
      | true => exact Bool.noConfusion (show false = true from hC 5 ra10o5 rfl rfl ⟨4, .data⟩ (by simp [ra10o5]) rfl)
    obtain rfl : b6 = false := by
      cases b6 with
      | false => rfl
      | true => exact Bool.noConfusion (show false = true from hC 6 ra10o6 rfl rfl ⟨5, .data⟩ (by simp [ra10o6]) rfl)
    obtain rfl : b9 = false := by
      cases b9 with
      | false => rfl
      | true => exact Bool.noConfusion (show false = true from hC 9 ra10o9 rfl rfl ⟨4, .chain⟩ (by simp [ra10o9]) rfl)
    obtain rfl : b10 = false := by
      cases b10 with
      | false => rfl
      | true => exact Bool.noConfusion (show false = true from hC 10 ra10o10 rfl rfl ⟨9, .data⟩ (by simp [ra10o10]) rfl)
    obtain rfl : b11 = false := by
      cases b11 with
      | false => rfl
      | true => exact Bool.noConfusion (show false = true from hC 11 ra10o11 rfl rfl ⟨10, .data⟩ (by simp [ra10o11]) rfl)
    obtain rfl : b12 = false := by
      cases b12 with
      | false => rfl
      | true => exact Bool.noConfusion (show false = true from hC 12 ra10o12 rfl rfl ⟨6, .data⟩ (by simp [ra10o12]) rfl)
    obtain rfl : b13 = false := by
      cases b13 with
      | false => rfl
      | true => exact Bool.noConfusion (show false = true from hC 13 ra10o13 rfl rfl ⟨12, .data⟩ (by simp [ra10o13]) rfl)
    obtain rfl : b14 = false := by
      cases b14 with
      | false => rfl
      | true => exact Bool.noConfusion (show false = true from hC 14 ra10o14 rfl rfl ⟨9, .chain⟩ (by simp [ra10o14]) rfl)
    obtain rfl : b15 = false := by
      cases b15 with
      | false => rfl
      | true => exact Bool.noConfusion (show false = true from hC 15 ra10o15 rfl rfl ⟨4, .phase⟩ (by simp [ra10o15]) rfl)
    obtain rfl : b16 = false := by
      cases b16 with
      | false => rfl
      | true => exact Bool.noConfusion (show false = true from hC 16 ra10o16 rfl rfl ⟨4, .phase⟩ (by simp [ra10o16]) rfl)
    exact ra10_s4 W0 w0 c a len cap p XR XB B zr y0 y1 y2 y4 aL cL L BO aO nO cO LO s1 s4 s5 s6 s7 s8 s9 s10 s11 s12 s13 s14 s15 s16 s17 s18 s19 s20 s21 s22 s23 s24 s25 s26 s27 s28 s29 s30 s31 s32 s33 s34 s35 s36 s37 s38 s39 s40 s41 s42 s43 s44 s45 s46 s47 s48 s49 s50 s51 s52 s53 s54 s55 s56 s57 s58 s59 s60 s61 s62 s63 s64 s65 s66 s67 s68 s69 s70 s71 b0 b1 b2 b7 b8 X2 R4 x6 X7 R9 x11 X13 G CP pp w hS hp hg hbox hR hBz hst ho1 ho2 hLn hoO hX2 hR4 hx6 hX7 hR9 hx11 hX13
  · obtain rfl : ra10o5 = o := Option.some.inj ho
    obtain rfl : b5 = false := h0
    obtain rfl : b4 = true := h1 ⟨4, .data⟩ (by simp [ra10o5]) rfl
    obtain rfl : b2 = true := h1 ⟨2, .data⟩ (by simp [ra10o5]) rfl
    obtain rfl : b3 = true := hC 4 ra10o4 rfl rfl ⟨3, .data⟩ (by simp [ra10o4]) rfl
    obtain rfl : b6 = false := by
      cases b6 with
      | false => rfl
      | true => exact Bool.noConfusion (show false = true from hC 6 ra10o6 rfl rfl ⟨5, .data⟩ (by simp [ra10o6]) rfl)
    obtain rfl : b12 = false := by
      cases b12 with
      | false => rfl
      | true => exact Bool.noConfusion (show false = true from hC 12 ra10o12 rfl rfl ⟨6, .data⟩ (by simp [ra10o12]) rfl)
    obtain rfl : b13 = false := by
      cases b13 with
      | false => rfl
      | true => exact Bool.noConfusion (show false = true from hC 13 ra10o13 rfl rfl ⟨12, .data⟩ (by simp [ra10o13]) rfl)
    obtain rfl : b14 = false := by
      cases b14 with
      | false => rfl
      | true => exact Bool.noConfusion (show false = true from hC 14 ra10o14 rfl rfl ⟨13, .data⟩ (by simp [ra10o14]) rfl)
    obtain rfl : b15 = false := by
      cases b15 with
      | false => rfl
      | true => exact Bool.noConfusion (show false = true from hC 15 ra10o15 rfl rfl ⟨5, .phase⟩ (by simp [ra10o15]) rfl)
    obtain rfl : b16 = false := by
      cases b16 with
      | false => rfl
      | true => exact Bool.noConfusion (show false = true from hC 16 ra10o16 rfl rfl ⟨5, .phase⟩ (by simp [ra10o16]) rfl)
    exact ra10_s5 W0 w0 c a len cap p XR XB B zr y0 y1 y2 y4 aL cL L BO aO nO cO LO s1 s4 s5 s6 s7 s8 s9 s10 s11 s12 s13 s14 s15 s16 s17 s18 s19 s20 s21 s22 s23 s24 s25 s26 s27 s28 s29 s30 s31 s32 s33 s34 s35 s36 s37 s38 s39 s40 s41 s42 s43 s44 s45 s46 s47 s48 s49 s50 s51 s52 s53 s54 s55 s56 s57 s58 s59 s60 s61 s62 s63 s64 s65 s66 s67 s68 s69 s70 s71 b0 b1 b7 b8 b9 b10 b11 X2 R4 x6 X7 R9 x11 X13 G CP pp w hS hp hg hbox hR hBz hst ho1 ho2 hLn hoO hX2 hR4 hx6 hX7 hR9 hx11 hX13
  · obtain rfl : ra10o6 = o := Option.some.inj ho
    obtain rfl : b6 = false := h0
    obtain rfl : b5 = true := h1 ⟨5, .data⟩ (by simp [ra10o6]) rfl
    obtain rfl : b2 = true := hC 5 ra10o5 rfl rfl ⟨2, .data⟩ (by simp [ra10o5]) rfl
    obtain rfl : b4 = true := hC 5 ra10o5 rfl rfl ⟨4, .data⟩ (by simp [ra10o5]) rfl
    obtain rfl : b3 = true := hC 4 ra10o4 rfl rfl ⟨3, .data⟩ (by simp [ra10o4]) rfl
    obtain rfl : b12 = false := by
      cases b12 with
      | false => rfl
      | true => exact Bool.noConfusion (show false = true from hC 12 ra10o12 rfl rfl ⟨6, .data⟩ (by simp [ra10o12]) rfl)
    obtain rfl : b13 = false := by
      cases b13 with
      | false => rfl
      | true => exact Bool.noConfusion (show false = true from hC 13 ra10o13 rfl rfl ⟨12, .data⟩ (by simp [ra10o13]) rfl)
    obtain rfl : b14 = false := by
      cases b14 with
      | false => rfl
      | true => exact Bool.noConfusion (show false = true from hC 14 ra10o14 rfl rfl ⟨13, .data⟩ (by simp [ra10o14]) rfl)
    obtain rfl : b15 = false := by
      cases b15 with
      | false => rfl
      | true => exact Bool.noConfusion (show false = true from hC 15 ra10o15 rfl rfl ⟨6, .phase⟩ (by simp [ra10o15]) rfl)
    obtain rfl : b16 = false := by
      cases b16 with
      | false => rfl
      | true => exact Bool.noConfusion (show false = true from hC 16 ra10o16 rfl rfl ⟨6, .phase⟩ (by simp [ra10o16]) rfl)
    exact ra10_s6 W0 w0 c a len cap p XR XB B zr y0 y1 y2 y4 aL cL L BO aO nO cO LO s1 s4 s5 s6 s7 s8 s9 s10 s11 s12 s13 s14 s15 s16 s17 s18 s19 s20 s21 s22 s23 s24 s25 s26 s27 s28 s29 s30 s31 s32 s33 s34 s35 s36 s37 s38 s39 s40 s41 s42 s43 s44 s45 s46 s47 s48 s49 s50 s51 s52 s53 s54 s55 s56 s57 s58 s59 s60 s61 s62 s63 s64 s65 s66 s67 s68 s69 s70 s71 b0 b1 b7 b8 b9 b10 b11 X2 R4 x6 X7 R9 x11 X13 G CP pp w hS hp hg hbox hR hBz hst ho1 ho2 hLn hoO hX2 hR4 hx6 hX7 hR9 hx11 hX13
  · obtain rfl : ra10o7 = o := Option.some.inj ho
    obtain rfl : b7 = false := h0
    obtain rfl : b10 = false := by
      cases b10 with
      | false => rfl
      | true => exact Bool.noConfusion (show false = true from hC 10 ra10o10 rfl rfl ⟨7, .data⟩ (by simp [ra10o10]) rfl)
    obtain rfl : b11 = false := by
      cases b11 with
      | false => rfl
      | true => exact Bool.noConfusion (show false = true from hC 11 ra10o11 rfl rfl ⟨10, .data⟩ (by simp [ra10o11]) rfl)
    obtain rfl : b12 = false := by
      cases b12 with
      | false => rfl
      | true => exact Bool.noConfusion (show false = true from hC 12 ra10o12 rfl rfl ⟨11, .data⟩ (by simp [ra10o12]) rfl)
    obtain rfl : b13 = false := by
      cases b13 with
      | false => rfl
      | true => exact Bool.noConfusion (show false = true from hC 13 ra10o13 rfl rfl ⟨12, .data⟩ (by simp [ra10o13]) rfl)
    obtain rfl : b14 = false := by
      cases b14 with
      | false => rfl
      | true => exact Bool.noConfusion (show false = true from hC 14 ra10o14 rfl rfl ⟨13, .data⟩ (by simp [ra10o14]) rfl)
    obtain rfl : b15 = false := by
      cases b15 with
      | false => rfl
      | true => exact Bool.noConfusion (show false = true from hC 15 ra10o15 rfl rfl ⟨7, .phase⟩ (by simp [ra10o15]) rfl)
    obtain rfl : b16 = false := by
      cases b16 with
      | false => rfl
      | true => exact Bool.noConfusion (show false = true from hC 16 ra10o16 rfl rfl ⟨7, .phase⟩ (by simp [ra10o16]) rfl)
    exact ra10_s7 W0 w0 c a len cap p XR XB B zr y0 y1 y2 y4 aL cL L BO aO nO cO LO s1 s4 s5 s6 s7 s8 s9 s10 s11 s12 s13 s14 s15 s16 s17 s18 s19 s20 s21 s22 s23 s24 s25 s26 s27 s28 s29 s30 s31 s32 s33 s34 s35 s36 s37 s38 s39 s40 s41 s42 s43 s44 s45 s46 s47 s48 s49 s50 s51 s52 s53 s54 s55 s56 s57 s58 s59 s60 s61 s62 s63 s64 s65 s66 s67 s68 s69 s70 s71 b0 b1 b2 b3 b4 b5 b6 b8 b9 X2 R4 x6 X7 R9 x11 X13 G CP pp w hS hp hg hbox hR hBz hst ho1 ho2 hLn hoO hX2 hR4 hx6 hX7 hR9 hx11 hX13
  · obtain rfl : ra10o8 = o := Option.some.inj ho
    obtain rfl : b8 = false := h0
    obtain rfl : b9 = false := by
      cases b9 with
      | false => rfl
      | true => exact Bool.noConfusion (show false = true from hC 9 ra10o9 rfl rfl ⟨8, .data⟩ (by simp [ra10o9]) rfl)
    obtain rfl : b10 = false := by
      cases b10 with
      | false => rfl
      | true => exact Bool.noConfusion (show false = true from hC 10 ra10o10 rfl rfl ⟨9, .data⟩ (by simp [ra10o10]) rfl)
    obtain rfl : b11 = false := by
      cases b11 with
      | false => rfl
      | true => exact Bool.noConfusion (show false = true from hC 11 ra10o11 rfl rfl ⟨10, .data⟩ (by simp [ra10o11]) rfl)
    obtain rfl : b12 = false := by
      cases b12 with
      | false => rfl
      | true => exact Bool.noConfusion (show false = true from hC 12 ra10o12 rfl rfl ⟨11, .data⟩ (by simp [ra10o12]) rfl)
    obtain rfl : b13 = false := by
      cases b13 with
      | false => rfl
      | true => exact Bool.noConfusion (show false = true from hC 13 ra10o13 rfl rfl ⟨12, .data⟩ (by simp [ra10o13]) rfl)
    obtain rfl : b14 = false := by
      cases b14 with
      | false => rfl
      | true => exact Bool.noConfusion (show false = true from hC 14 ra10o14 rfl rfl ⟨9, .chain⟩ (by simp [ra10o14]) rfl)
    obtain rfl : b15 = false := by
      cases b15 with
      | false => rfl
      | true => exact Bool.noConfusion (show false = true from hC 15 ra10o15 rfl rfl ⟨8, .phase⟩ (by simp [ra10o15]) rfl)
    obtain rfl : b16 = false := by
      cases b16 with
      | false => rfl
      | true => exact Bool.noConfusion (show false = true from hC 16 ra10o16 rfl rfl ⟨8, .phase⟩ (by simp [ra10o16]) rfl)
    exact ra10_s8 W0 w0 c a len cap p XR XB B zr y0 y1 y2 y4 aL cL L BO aO nO cO LO s1 s4 s5 s6 s7 s8 s9 s10 s11 s12 s13 s14 s15 s16 s17 s18 s19 s20 s21 s22 s23 s24 s25 s26 s27 s28 s29 s30 s31 s32 s33 s34 s35 s36 s37 s38 s39 s40 s41 s42 s43 s44 s45 s46 s47 s48 s49 s50 s51 s52 s53 s54 s55 s56 s57 s58 s59 s60 s61 s62 s63 s64 s65 s66 s67 s68 s69 s70 s71 b0 b1 b2 b3 b4 b5 b6 b7 X2 R4 x6 X7 R9 x11 X13 G CP pp w hS hp hg hbox hR hBz hst ho1 ho2 hLn hoO hX2 hR4 hx6 hX7 hR9 hx11 hX13
  · obtain rfl : ra10o9 = o := Option.some.inj ho
    obtain rfl : b9 = false := h0
    obtain rfl : b8 = true := h1 ⟨8, .data⟩ (by simp [ra10o9]) rfl
    obtain rfl : b4 = true := h1 ⟨4, .chain⟩ (by simp [ra10o9]) rfl
    obtain rfl : b3 = true := hC 4 ra10o4 rfl rfl ⟨3, .data⟩ (by simp [ra10o4]) rfl
    obtain rfl : b10 = false := by
      cases b10 with
      | false => rfl
      | true => exact Bool.noConfusion (show false = true from hC 10 ra10o10 rfl rfl ⟨9, .data⟩ (by simp [ra10o10]) rfl)
    obtain rfl : b11 = false := by
      cases b11 with
      | false => rfl
      | true => exact Bool.noConfusion (show false = true from hC 11 ra10o11 rfl rfl ⟨10, .data⟩ (by simp [ra10o11]) rfl)
    obtain rfl : b12 = false := by
      cases b12 with
      | false => rfl
      | true => exact Bool.noConfusion (show false = true from hC 12 ra10o12 rfl rfl ⟨11, .data⟩ (by simp [ra10o12]) rfl)
    obtain rfl : b13 = false := by
      cases b13 with
      | false => rfl
      | true => exact Bool.noConfusion (show false = true from hC 13 ra10o13 rfl rfl ⟨12, .data⟩ (by simp [ra10o13]) rfl)
    obtain rfl : b14 = false := by
      cases b14 with
      | false => rfl
      | true => exact Bool.noConfusion (show false = true from hC 14 ra10o14 rfl rfl ⟨9, .chain⟩ (by simp [ra10o14]) rfl)
    obtain rfl : b15 = false := by
      cases b15 with
      | false => rfl
      | true => exact Bool.noConfusion (show false = true from hC 15 ra10o15 rfl rfl ⟨9, .phase⟩ (by simp [ra10o15]) rfl)
    obtain rfl : b16 = false := by
      cases b16 with
      | false => rfl
      | true => exact Bool.noConfusion (show false = true from hC 16 ra10o16 rfl rfl ⟨9, .phase⟩ (by simp [ra10o16]) rfl)
    exact ra10_s9 W0 w0 c a len cap p XR XB B zr y0 y1 y2 y4 aL cL L BO aO nO cO LO s1 s4 s5 s6 s7 s8 s9 s10 s11 s12 s13 s14 s15 s16 s17 s18 s19 s20 s21 s22 s23 s24 s25 s26 s27 s28 s29 s30 s31 s32 s33 s34 s35 s36 s37 s38 s39 s40 s41 s42 s43 s44 s45 s46 s47 s48 s49 s50 s51 s52 s53 s54 s55 s56 s57 s58 s59 s60 s61 s62 s63 s64 s65 s66 s67 s68 s69 s70 s71 b0 b1 b2 b5 b6 b7 X2 R4 x6 X7 R9 x11 X13 G CP pp w hS hp hg hbox hR hBz hst ho1 ho2 hLn hoO hX2 hR4 hx6 hX7 hR9 hx11 hX13
  · obtain rfl : ra10o10 = o := Option.some.inj ho
    obtain rfl : b10 = false := h0
    obtain rfl : b9 = true := h1 ⟨9, .data⟩ (by simp [ra10o10]) rfl
    obtain rfl : b7 = true := h1 ⟨7, .data⟩ (by simp [ra10o10]) rfl
    obtain rfl : b4 = true := hC 9 ra10o9 rfl rfl ⟨4, .chain⟩ (by simp [ra10o9]) rfl
    obtain rfl : b8 = true := hC 9 ra10o9 rfl rfl ⟨8, .data⟩ (by simp [ra10o9]) rfl
    obtain rfl : b3 = true := hC 4 ra10o4 rfl rfl ⟨3, .data⟩ (by simp [ra10o4]) rfl
    obtain rfl : b11 = false := by
      cases b11 with
      | false => rfl
      | true => exact Bool.noConfusion (show false = true from hC 11 ra10o11 rfl rfl ⟨10, .data⟩ (by simp [ra10o11]) rfl)
    obtain rfl : b12 = false := by
      cases b12 with
      | false => rfl
      | true => exact Bool.noConfusion (show false = true from hC 12 ra10o12 rfl rfl ⟨11, .data⟩ (by simp [ra10o12]) rfl)
    obtain rfl : b13 = false := by
      cases b13 with
      | false => rfl
      | true => exact Bool.noConfusion (show false = true from hC 13 ra10o13 rfl rfl ⟨12, .data⟩ (by simp [ra10o13]) rfl)
    obtain rfl : b14 = false := by
      cases b14 with
      | false => rfl
      | true => exact Bool.noConfusion (show false = true from hC 14 ra10o14 rfl rfl ⟨13, .data⟩ (by simp [ra10o14]) rfl)
    obtain rfl : b15 = false := by
      cases b15 with
      | false => rfl
      | true => exact Bool.noConfusion (show false = true from hC 15 ra10o15 rfl rfl ⟨10, .phase⟩ (by simp [ra10o15]) rfl)
    obtain rfl : b16 = false := by
      cases b16 with
      | false => rfl
      | true => exact Bool.noConfusion (show false = true from hC 16 ra10o16 rfl rfl ⟨10, .phase⟩ (by simp [ra10o16]) rfl)
    exact ra10_s10 W0 w0 c a len cap p XR XB B zr y0 y1 y2 y4 aL cL L BO aO nO cO LO s1 s4 s5 s6 s7 s8 s9 s10 s11 s12 s13 s14 s15 s16 s17 s18 s19 s20 s21 s22 s23 s24 s25 s26 s27 s28 s29 s30 s31 s32 s33 s34 s35 s36 s37 s38 s39 s40 s41 s42 s43 s44 s45 s46 s47 s48 s49 s50 s51 s52 s53 s54 s55 s56 s57 s58 s59 s60 s61 s62 s63 s64 s65 s66 s67 s68 s69 s70 s71 b0 b1 b2 b5 b6 X2 R4 x6 X7 R9 x11 X13 G CP pp w hS hp hg hbox hR hBz hst ho1 ho2 hLn hoO hX2 hR4 hx6 hX7 hR9 hx11 hX13
  · obtain rfl : ra10o11 = o := Option.some.inj ho
    obtain rfl : b11 = false := h0
    obtain rfl : b10 = true := h1 ⟨10, .data⟩ (by simp [ra10o11]) rfl
    obtain rfl : b7 = true := hC 10 ra10o10 rfl rfl ⟨7, .data⟩ (by simp [ra10o10]) rfl
    obtain rfl : b9 = true := hC 10 ra10o10 rfl rfl ⟨9, .data⟩ (by simp [ra10o10]) rfl
    obtain rfl : b4 = true := hC 9 ra10o9 rfl rfl ⟨4, .chain⟩ (by simp [ra10o9]) rfl
    obtain rfl : b8 = true := hC 9 ra10o9 rfl rfl ⟨8, .data⟩ (by simp [ra10o9]) rfl
    obtain rfl : b3 = true := hC 4 ra10o4 rfl rfl ⟨3, .data⟩ (by simp [ra10o4]) rfl
    obtain rfl : b12 = false := by
      cases b12 with
      | false => rfl
      | true => exact Bool.noConfusion (show false = true from hC 12 ra10o12 rfl rfl ⟨11, .data⟩ (by simp [ra10o12]) rfl)
    obtain rfl : b13 = false := by
      cases b13 with
      | false => rfl
      | true => exact Bool.noConfusion (show false = true from hC 13 ra10o13 rfl rfl ⟨12, .data⟩ (by simp [ra10o13]) rfl)
    obtain rfl : b14 = false := by
      cases b14 with
      | false => rfl
      | true => exact Bool.noConfusion (show false = true from hC 14 ra10o14 rfl rfl ⟨13, .data⟩ (by simp [ra10o14]) rfl)
    obtain rfl : b15 = false := by
      cases b15 with
      | false => rfl
      | true => exact Bool.noConfusion (show false = true from hC 15 ra10o15 rfl rfl ⟨11, .phase⟩ (by simp [ra10o15]) rfl)
    obtain rfl : b16 = false := by
      cases b16 with
      | false => rfl
      | true => exact Bool.noConfusion (show false = true from hC 16 ra10o16 rfl rfl ⟨11, .phase⟩ (by simp [ra10o16]) rfl)
    exact ra10_s11 W0 w0 c a len cap p XR XB B zr y0 y1 y2 y4 aL cL L BO aO nO cO LO s1 s4 s5 s6 s7 s8 s9 s10 s11 s12 s13 s14 s15 s16 s17 s18 s19 s20 s21 s22 s23 s24 s25 s26 s27 s28 s29 s30 s31 s32 s33 s34 s35 s36 s37 s38 s39 s40 s41 s42 s43 s44 s45 s46 s47 s48 s49 s50 s51 s52 s53 s54 s55 s56 s57 s58 s59 s60 s61 s62 s63 s64 s65 s66 s67 s68 s69 s70 s71 b0 b1 b2 b5 b6 X2 R4 x6 X7 R9 x11 X13 G CP pp w hS hp hg hbox hR hBz hst ho1 ho2 hLn hoO hX2 hR4 hx6 hX7 hR9 hx11 hX13
  · obtain rfl : ra10o12 = o := Option.some.inj ho
    obtain rfl : b12 = false := h0
    obtain rfl : b11 = true := h1 ⟨11, .data⟩ (by simp [ra10o12]) rfl
    obtain rfl : b6 = true := h1 ⟨6, .data⟩ (by simp [ra10o12]) rfl
    obtain rfl : b10 = true := hC 11 ra10o11 rfl rfl ⟨10, .data⟩ (by simp [ra10o11]) rfl
    obtain rfl : b7 = true := hC 10 ra10o10 rfl rfl ⟨7, .data⟩ (by simp [ra10o10]) rfl
    obtain rfl : b9 = true := hC 10 ra10o10 rfl rfl ⟨9, .data⟩ (by simp [ra10o10]) rfl
    obtain rfl : b4 = true := hC 9 ra10o9 rfl rfl ⟨4, .chain⟩ (by simp [ra10o9]) rfl
    obtain rfl : b8 = true := hC 9 ra10o9 rfl rfl ⟨8, .data⟩ (by simp [ra10o9]) rfl
    obtain rfl : b5 = true := hC 6 ra10o6 rfl rfl ⟨5, .data⟩ (by simp [ra10o6]) rfl
    obtain rfl : b2 = true := hC 5 ra10o5 rfl rfl ⟨2, .data⟩ (by simp [ra10o5]) rfl
    obtain rfl : b3 = true := hC 4 ra10o4 rfl rfl ⟨3, .data⟩ (by simp [ra10o4]) rfl
    obtain rfl : b13 = false := by
      cases b13 with
      | false => rfl
      | true => exact Bool.noConfusion (show false = true from hC 13 ra10o13 rfl rfl ⟨12, .data⟩ (by simp [ra10o13]) rfl)
    obtain rfl : b14 = false := by
      cases b14 with
      | false => rfl
      | true => exact Bool.noConfusion (show false = true from hC 14 ra10o14 rfl rfl ⟨13, .data⟩ (by simp [ra10o14]) rfl)
    obtain rfl : b15 = false := by
      cases b15 with
      | false => rfl
      | true => exact Bool.noConfusion (show false = true from hC 15 ra10o15 rfl rfl ⟨12, .phase⟩ (by simp [ra10o15]) rfl)
    obtain rfl : b16 = false := by
      cases b16 with
      | false => rfl
      | true => exact Bool.noConfusion (show false = true from hC 16 ra10o16 rfl rfl ⟨12, .phase⟩ (by simp [ra10o16]) rfl)
    exact ra10_s12 W0 w0 c a len cap p XR XB B zr y0 y1 y2 y4 aL cL L BO aO nO cO LO s1 s4 s5 s6 s7 s8 s9 s10 s11 s12 s13 s14 s15 s16 s17 s18 s19 s20 s21 s22 s23 s24 s25 s26 s27 s28 s29 s30 s31 s32 s33 s34 s35 s36 s37 s38 s39 s40 s41 s42 s43 s44 s45 s46 s47 s48 s49 s50 s51 s52 s53 s54 s55 s56 s57 s58 s59 s60 s61 s62 s63 s64 s65 s66 s67 s68 s69 s70 s71 b0 b1 X2 R4 x6 X7 R9 x11 X13 G CP pp w hS hp hg hbox hR hBz hst ho1 ho2 hLn hoO hX2 hR4 hx6 hX7 hR9 hx11 hX13
  · obtain rfl : ra10o13 = o := Option.some.inj ho
    obtain rfl : b13 = false := h0
    obtain rfl : b12 = true := h1 ⟨12, .data⟩ (by simp [ra10o13]) rfl
    obtain rfl : b6 = true := hC 12 ra10o12 rfl rfl ⟨6, .data⟩ (by simp [ra10o12]) rfl
    obtain rfl : b11 = true := hC 12 ra10o12 rfl rfl ⟨11, .data⟩ (by simp [ra10o12]) rfl
    obtain rfl : b10 = true := hC 11 ra10o11 rfl rfl ⟨10, .data⟩ (by simp [ra10o11]) rfl
    obtain rfl : b7 = true := hC 10 ra10o10 rfl rfl ⟨7, .data⟩ (by simp [ra10o10]) rfl
    obtain rfl : b9 = true := hC 10 ra10o10 rfl rfl ⟨9, .data⟩ (by simp [ra10o10]) rfl
    obtain rfl : b4 = true := hC 9 ra10o9 rfl rfl ⟨4, .chain⟩ (by simp [ra10o9]) rfl
    obtain rfl : b8 = true := hC 9 ra10o9 rfl rfl ⟨8, .data⟩ (by simp [ra10o9]) rfl
    obtain rfl : b5 = true := hC 6 ra10o6 rfl rfl ⟨5, .data⟩ (by simp [ra10o6]) rfl
    obtain rfl : b2 = true := hC 5 ra10o5 rfl rfl ⟨2, .data⟩ (by simp [ra10o5]) rfl
    obtain rfl : b3 = true := hC 4 ra10o4 rfl rfl ⟨3, .data⟩ (by simp [ra10o4]) rfl
    obtain rfl : b14 = false := by
      cases b14 with
      | false => rfl
      | true => exact Bool.noConfusion (show false = true from hC 14 ra10o14 rfl rfl ⟨13, .data⟩ (by simp [ra10o14]) rfl)
    obtain rfl : b15 = false := by
      cases b15 with
      | false => rfl
      | true => exact Bool.noConfusion (show false = true from hC 15 ra10o15 rfl rfl ⟨13, .phase⟩ (by simp [ra10o15]) rfl)
    obtain rfl : b16 = false := by
      cases b16 with
      | false => rfl
      | true => exact Bool.noConfusion (show false = true from hC 16 ra10o16 rfl rfl ⟨13, .phase⟩ (by simp [ra10o16]) rfl)
    exact ra10_s13 W0 w0 c a len cap p XR XB B zr y0 y1 y2 y4 aL cL L BO aO nO cO LO s1 s4 s5 s6 s7 s8 s9 s10 s11 s12 s13 s14 s15 s16 s17 s18 s19 s20 s21 s22 s23 s24 s25 s26 s27 s28 s29 s30 s31 s32 s33 s34 s35 s36 s37 s38 s39 s40 s41 s42 s43 s44 s45 s46 s47 s48 s49 s50 s51 s52 s53 s54 s55 s56 s57 s58 s59 s60 s61 s62 s63 s64 s65 s66 s67 s68 s69 s70 s71 b0 b1 X2 R4 x6 X7 R9 x11 X13 G CP pp w hS hp hg hbox hR hBz hst ho1 ho2 hLn hoO hX2 hR4 hx6 hX7 hR9 hx11 hX13
  · obtain rfl : ra10o14 = o := Option.some.inj ho
    obtain rfl : b14 = false := h0
    obtain rfl : b13 = true := h1 ⟨13, .data⟩ (by simp [ra10o14]) rfl
    obtain rfl : b9 = true := h1 ⟨9, .chain⟩ (by simp [ra10o14]) rfl
    obtain rfl : b1 = true := h1 ⟨1, .data⟩ (by simp [ra10o14]) rfl
    obtain rfl : b12 = true := hC 13 ra10o13 rfl rfl ⟨12, .data⟩ (by simp [ra10o13]) rfl
    obtain rfl : b6 = true := hC 12 ra10o12 rfl rfl ⟨6, .data⟩ (by simp [ra10o12]) rfl
    obtain rfl : b11 = true := hC 12 ra10o12 rfl rfl ⟨11, .data⟩ (by simp [ra10o12]) rfl
    obtain rfl : b10 = true := hC 11 ra10o11 rfl rfl ⟨10, .data⟩ (by simp [ra10o11]) rfl
    obtain rfl : b7 = true := hC 10 ra10o10 rfl rfl ⟨7, .data⟩ (by simp [ra10o10]) rfl
    obtain rfl : b4 = true := hC 9 ra10o9 rfl rfl ⟨4, .chain⟩ (by simp [ra10o9]) rfl
    obtain rfl : b8 = true := hC 9 ra10o9 rfl rfl ⟨8, .data⟩ (by simp [ra10o9]) rfl
    obtain rfl : b5 = true := hC 6 ra10o6 rfl rfl ⟨5, .data⟩ (by simp [ra10o6]) rfl
    obtain rfl : b2 = true := hC 5 ra10o5 rfl rfl ⟨2, .data⟩ (by simp [ra10o5]) rfl
    obtain rfl : b3 = true := hC 4 ra10o4 rfl rfl ⟨3, .data⟩ (by simp [ra10o4]) rfl
    obtain rfl : b0 = true := hC 1 ra10o1 rfl rfl ⟨0, .data⟩ (by simp [ra10o1]) rfl
    obtain rfl : b15 = false := by
      cases b15 with
      | false => rfl
      | true => exact Bool.noConfusion (show false = true from hC 15 ra10o15 rfl rfl ⟨14, .phase⟩ (by simp [ra10o15]) rfl)
    obtain rfl : b16 = false := by
      cases b16 with
      | false => rfl
      | true => exact Bool.noConfusion (show false = true from hC 16 ra10o16 rfl rfl ⟨14, .chain⟩ (by simp [ra10o16]) rfl)
    exact ra10_s14 W0 w0 c a len cap p XR XB B zr y0 y1 y2 y4 aL cL L BO aO nO cO LO s1 s4 s5 s6 s7 s8 s9 s10 s11 s12 s13 s14 s15 s16 s17 s18 s19 s20 s21 s22 s23 s24 s25 s26 s27 s28 s29 s30 s31 s32 s33 s34 s35 s36 s37 s38 s39 s40 s41 s42 s43 s44 s45 s46 s47 s48 s49 s50 s51 s52 s53 s54 s55 s56 s57 s58 s59 s60 s61 s62 s63 s64 s65 s66 s67 s68 s69 s70 s71  X2 R4 x6 X7 R9 x11 X13 G CP pp w hS hp hg hbox hR hBz hst ho1 ho2 hLn hoO hX2 hR4 hx6 hX7 hR9 hx11 hX13
  · obtain rfl : ra10o15 = o := Option.some.inj ho
    obtain rfl : b15 = false := h0
    obtain rfl : b14 = true := h1 ⟨14, .phase⟩ (by simp [ra10o15]) rfl
    obtain rfl : b13 = true := h1 ⟨13, .phase⟩ (by simp [ra10o15]) rfl
    obtain rfl : b12 = true := h1 ⟨12, .phase⟩ (by simp [ra10o15]) rfl
    obtain rfl : b11 = true := h1 ⟨11, .phase⟩ (by simp [ra10o15]) rfl
    obtain rfl : b10 = true := h1 ⟨10, .phase⟩ (by simp [ra10o15]) rfl
    obtain rfl : b9 = true := h1 ⟨9, .phase⟩ (by simp [ra10o15]) rfl
    obtain rfl : b8 = true := h1 ⟨8, .phase⟩ (by simp [ra10o15]) rfl
    obtain rfl : b7 = true := h1 ⟨7, .phase⟩ (by simp [ra10o15]) rfl
    obtain rfl : b6 = true := h1 ⟨6, .phase⟩ (by simp [ra10o15]) rfl
    obtain rfl : b5 = true := h1 ⟨5, .phase⟩ (by simp [ra10o15]) rfl
    obtain rfl : b4 = true := h1 ⟨4, .phase⟩ (by simp [ra10o15]) rfl
    obtain rfl : b3 = true := h1 ⟨3, .phase⟩ (by simp [ra10o15]) rfl
    obtain rfl : b2 = true := h1 ⟨2, .phase⟩ (by simp [ra10o15]) rfl
    obtain rfl : b1 = true := h1 ⟨1, .phase⟩ (by simp [ra10o15]) rfl
    obtain rfl : b0 = true := h1 ⟨0, .phase⟩ (by simp [ra10o15]) rfl
    obtain rfl : b16 = false := by
      cases b16 with
      | false => rfl
      | true => exact Bool.noConfusion (show false = true from hC 16 ra10o16 rfl rfl ⟨15, .data⟩ (by simp [ra10o16]) rfl)
    exact ra10_s15 W0 w0 c a len cap p XR XB B zr y0 y1 y2 y4 aL cL L BO aO nO cO LO s1 s4 s5 s6 s7 s8 s9 s10 s11 s12 s13 s14 s15 s16 s17 s18 s19 s20 s21 s22 s23 s24 s25 s26 s27 s28 s29 s30 s31 s32 s33 s34 s35 s36 s37 s38 s39 s40 s41 s42 s43 s44 s45 s46 s47 s48 s49 s50 s51 s52 s53 s54 s55 s56 s57 s58 s59 s60 s61 s62 s63 s64 s65 s66 s67 s68 s69 s70 s71  X2 R4 x6 X7 R9 x11 X13 G CP pp w hS hp hg hbox hR hBz hst ho1 ho2 hLn hoO hX2 hR4 hx6 hX7 hR9 hx11 hX13
  · obtain rfl : ra10o16 = o := Option.some.inj ho
    obtain rfl : b16 = false := h0
    obtain rfl : b15 = true := h1 ⟨15, .data⟩ (by simp [ra10o16]) rfl
    obtain rfl : b14 = true := h1 ⟨14, .chain⟩ (by simp [ra10o16]) rfl
    obtain rfl : b13 = true := h1 ⟨13, .phase⟩ (by simp [ra10o16]) rfl
    obtain rfl : b12 = true := h1 ⟨12, .phase⟩ (by simp [ra10o16]) rfl
    obtain rfl : b11 = true := h1 ⟨11, .phase⟩ (by simp [ra10o16]) rfl
    obtain rfl : b10 = true := h1 ⟨10, .phase⟩ (by simp [ra10o16]) rfl
    obtain rfl : b9 = true := h1 ⟨9, .phase⟩ (by simp [ra10o16]) rfl
    obtain rfl : b8 = true := h1 ⟨8, .phase⟩ (by simp [ra10o16]) rfl
    obtain rfl : b7 = true := h1 ⟨7, .phase⟩ (by simp [ra10o16]) rfl
    obtain rfl : b6 = true := h1 ⟨6, .phase⟩ (by simp [ra10o16]) rfl
    obtain rfl : b5 = true := h1 ⟨5, .phase⟩ (by simp [ra10o16]) rfl
    obtain rfl : b4 = true := h1 ⟨4, .phase⟩ (by simp [ra10o16]) rfl
    obtain rfl : b3 = true := h1 ⟨3, .phase⟩ (by simp [ra10o16]) rfl
    obtain rfl : b2 = true := h1 ⟨2, .phase⟩ (by simp [ra10o16]) rfl
    obtain rfl : b1 = true := h1 ⟨1, .phase⟩ (by simp [ra10o16]) rfl
    obtain rfl : b0 = true := h1 ⟨0, .phase⟩ (by simp [ra10o16]) rfl
    exact ra10_s16 W0 w0 c a len cap p XR XB B zr y0 y1 y2 y4 aL cL L BO aO nO cO LO s1 s4 s5 s6 s7 s8 s9 s10 s11 s12 s13 s14 s15 s16 s17 s18 s19 s20 s21 s22 s23 s24 s25 s26 s27 s28 s29 s30 s31 s32 s33 s34 s35 s36 s37 s38 s39 s40 s41 s42 s43 s44 s45 s46 s47 s48 s49 s50 s51 s52 s53 s54 s55 s56 s57 s58 s59 s60 s61 s62 s63 s64 s65 s66 s67 s68 s69 s70 s71  X2 R4 x6 X7 R9 x11 X13 G CP pp w hS hp hg hbox hR hBz hst ho1 ho2 hLn hoO hX2 hR4 hx6 hX7 hR9 hx11 hX13
set_option maxRecDepth 20000 in
set_option maxHeartbeats 4000000 in
theorem ra10_wp {Q : Exit → Act → World → Prop} {id : Nat} (W0 w0 : World) (c : Nat) (a : Option Addr) (len cap p XR XB B : Nat) (zr : Array Value) (y0 y1 y2 y4 : Value) (aL : Option Addr) (cL : Nat) (L : List Hp) (BO : Nat) (aO : Option Addr) (nO cO : Nat) (LO : List Hp) {s1 s4 s5 s6 s7 s8 s9 s10 s11 s12 s13 s14 s15 s16 s17 s18 s19 s20 s21 s22 s23 s24 s25 s26 s27 s28 s29 s30 s31 s32 s33 s34 s35 s36 s37 s38 s39 s40 s41 s42 s43 s44 s45 s46 s47 s48 s49 s50 s51 s52 s53 s54 s55 s56 s57 s58 s59 s60 s61 s62 s63 s64 s65 s66 s67 s68 s69 s70 s71 : Value} (w : World) (hS : Src W0 w c a len cap p) (hg : w0.grownBy w (some c)) (hbox : RowAt w XB 25 #[y0, y1, y2, .slice aL L.length cL, y4]) (hR : RowAt w XR 25 zr) (hBz : B ≤ w.heap.size) (hst : c < XB ∧ c < B ∧ w0.heap.size ≤ B ∧ XR ≠ XB ∧ w0.heap.size ≤ XB ∧ W0.heap.size ≤ c ∧ p ≤ 900000 ∧ c ≠ XR) (ho1 : OwnHp w B (.slice aL L.length cL) L) (hLn : L.length ≤ 1000) (hoO : OwnHp w BO (.slice aO nO cO) LO ∧ c < BO ∧ ((Value.slice aO nO cO).ownBlock = none ∨ (Value.slice aO nO cO).ownBlock ≠ (Value.slice aL L.length cL).ownBlock))
    (fin : ∀ (X2 : Nat) (R4 : Nat) (x6 : ByteArray) (X7 : Nat) (R9 : Nat) (x11 : ByteArray) (X13 : Nat) (G : Nat) (CP : Nat) (pp : Nat) (w' : World), (Src W0 w' c a len cap pp) → (pp ≤ p + 40 * (1 + 1)) → (w0.grownBy w' (some c)) → (RowAt w' XB 25 #[y0, y1, y2, .slice (some ⟨G, 0, none⟩) (L.length + 1) CP, y4]) → (RowAt w' XR 25 zr) → (B ≤ w'.heap.size) → (c < XB ∧ c < B ∧ w0.heap.size ≤ B ∧ XR ≠ XB ∧ w0.heap.size ≤ XB ∧ W0.heap.size ≤ c ∧ p ≤ 900000 ∧ c ≠ XR) → (OwnHp w' B (.slice (some ⟨G, 0, none⟩) (L.length + 1) CP) (L ++ [(⟨x6, x11⟩ : Hp)])) → (L.length ≤ 1000) → (OwnHp w' BO (.slice aO nO cO) LO ∧ c < BO ∧ ((Value.slice aO nO cO).ownBlock = none ∨ (Value.slice aO nO cO).ownBlock ≠ (Value.slice aL L.length cL).ownBlock)) → (R4 < 4) → (x6.size ≤ 6) → (R9 < 4) → (x11.size ≤ 2) → Q .normal { tmps := #[.pointer (some ⟨c, 0, none⟩), s1, .pointer (some ⟨XR, 0, none⟩), .pointer (some ⟨XB, 0, none⟩), s4, s5, s6, s7, s8, s9, s10, s11, s12, s13, s14, s15, s16, s17, s18, s19, s20, s21, s22, s23, s24, s25, s26, s27, s28, s29, s30, s31, s32, s33, s34, s35, s36, s37, s38, s39, s40, s41, s42, s43, s44, s45, .pointer (some ⟨XB, 3, none⟩), .slice aL L.length cL, .slice (some ⟨X2, 0, none⟩) 4 4, .pointer (some ⟨c, 0, none⟩), .int .i64 (R4 : Int), .pointer (some ⟨X2, R4, none⟩), .string x6, .slice (some ⟨X7, 0, none⟩) 4 4, .pointer (some ⟨c, 0, none⟩), .int .i64 (R9 : Int), .pointer (some ⟨X7, R9, none⟩), .string x11, .agg #[.string x6, .string x11], .slice (some ⟨X13, 0, none⟩) 1 1, .slice (some ⟨G, 0, none⟩) (L.length + 1) CP, .pointer (some ⟨XB, 3, none⟩), s62, s63, s64, s65, s66, s67, s68, s69, s70, s71], defers := [] } w') :
    (Code.region id ra10O true).wp Tryz.prog Q { tmps := #[.pointer (some ⟨c, 0, none⟩), s1, .pointer (some ⟨XR, 0, none⟩), .pointer (some ⟨XB, 0, none⟩), s4, s5, s6, s7, s8, s9, s10, s11, s12, s13, s14, s15, s16, s17, s18, s19, s20, s21, s22, s23, s24, s25, s26, s27, s28, s29, s30, s31, s32, s33, s34, s35, s36, s37, s38, s39, s40, s41, s42, s43, s44, s45, s46, s47, s48, s49, s50, s51, s52, s53, s54, s55, s56, s57, s58, s59, s60, s61, s62, s63, s64, s65, s66, s67, s68, s69, s70, s71], defers := [] } w := by
  refine wp_region_inv (ops := ra10O) (ra10I W0 w0 c a len cap p XR XB B zr y0 y1 y2 y4 aL cL L BO aO nO cO LO s1 s4 s5 s6 s7 s8 s9 s10 s11 s12 s13 s14 s15 s16 s17 s18 s19 s20 s21 s22 s23 s24 s25 s26 s27 s28 s29 s30 s31 s32 s33 s34 s35 s36 s37 s38 s39 s40 s41 s42 s43 s44 s45 s46 s47 s48 s49 s50 s51 s52 s53 s54 s55 s56 s57 s58 s59 s60 s61 s62 s63 s64 s65 s66 s67 s68 s69 s70 s71) (by kernel_rfl) (by kernel_rfl) (fun l f v hI => ?_) (fun l f v hC hI i h0 o ho h1 => ra10_step W0 w0 c a len cap p XR XB B zr y0 y1 y2 y4 aL cL L BO aO nO cO LO s1 s4 s5 s6 s7 s8 s9 s10 s11 s12 s13 s14 s15 s16 s17 s18 s19 s20 s21 s22 s23 s24 s25 s26 s27 s28 s29 s30 s31 s32 s33 s34 s35 s36 s37 s38 s39 s40 s41 s42 s43 s44 s45 s46 s47 s48 s49 s50 s51 s52 s53 s54 s55 s56 s57 s58 s59 s60 s61 s62 s63 s64 s65 s66 s67 s68 s69 s70 s71 l f v hC hI i h0 o ho h1) (fun l f v hI hall => ?_) ?_
  · obtain ⟨_, _, _, _, _, _, _, _, _, _, _, _, _, _, _, _, _, _, _, _, _, _, _, _, _, _, _, rfl, _⟩ := hI; rfl
  · obtain ⟨b0, b1, b2, b3, b4, b5, b6, b7, b8, b9, b10, b11, b12, b13, b14, b15, b16, X2, R4, x6, X7, R9, x11, X13, G, CP, pp, rfl, rfl, hS, hp, hg, hbox, hR, hBz, hst, ho1, ho2, hLn, hoO, hX2, hR4, hx6, hX7, hR9, hx11, hX13⟩ := hI
    obtain rfl : b0 = true := hall 0 (by simp)
    obtain rfl : b1 = true := hall 1 (by simp)
    obtain rfl : b2 = true := hall 2 (by simp)
    obtain rfl : b3 = true := hall 3 (by simp)
    obtain rfl : b4 = true := hall 4 (by simp)
    obtain rfl : b5 = true := hall 5 (by simp)
    obtain rfl : b6 = true := hall 6 (by simp)
    obtain rfl : b7 = true := hall 7 (by simp)
    obtain rfl : b8 = true := hall 8 (by simp)
    obtain rfl : b9 = true := hall 9 (by simp)
    obtain rfl : b10 = true := hall 10 (by simp)
    obtain rfl : b11 = true := hall 11 (by simp)
    obtain rfl : b12 = true := hall 12 (by simp)
    obtain rfl : b13 = true := hall 13 (by simp)
    obtain rfl : b14 = true := hall 14 (by simp)
    obtain rfl : b15 = true := hall 15 (by simp)
    obtain rfl : b16 = true := hall 16 (by simp)
    exact fin X2 R4 x6 X7 R9 x11 X13 G CP pp v hS hp hg hbox hR hBz hst (ho2 rfl) hLn hoO (hR4 rfl) (hx6 rfl) (hR9 rfl) (hx11 rfl)
  · exact ⟨false, false, false, false, false, false, false, false, false, false, false, false, false, false, false, false, false, 0, 0, ⟨#[]⟩, 0, 0, ⟨#[]⟩, 0, 0, 0, p, rfl, rfl, hS.drew, by omega, grown_trans hg (grown_drewS _ _), hbox.drew, hR.drew, hBz, hst, fun _ => World.ownsRow.drew ho1, fun h => Bool.noConfusion h, hLn, ⟨World.ownsRow.drew hoO.1, hoO.2⟩, fun h => Bool.noConfusion h, fun h => Bool.noConfusion h, fun h => Bool.noConfusion h, fun h => Bool.noConfusion h, fun h => Bool.noConfusion h, fun h => Bool.noConfusion h, fun h => Bool.noConfusion h⟩
end Go.Proofs.YtgoplcjjoiiagaaGreatDoor
namespace Go.Proofs.YtgoplcjjoiiagaaGreatDoor
open Go.RowKit
attribute [local go_sem ↓] Go.wp_at_zero Go.wp_at_succ
/-! The draw of any request (by gendram.py). -/
def AnyRq (W0 w : World) (c : Nat) (a : Option Addr) (len cap : Nat) (e : Ending) (w' : World) : Prop :=
  ∃ (m pt b : ByteArray) (Q H : List Hp) (a1 : Option Addr) (c1 : Nat) (a2 : Option Addr) (c2 B1 B2 p' : Nat),
    e = .returned (.agg #[.string m, .string pt, .slice a1 Q.length c1, .slice a2 H.length c2, .string b]) ∧ (m.size ≤ 2000 ∧ pt.size ≤ 2000 ∧ b.size ≤ 2000 ∧ Q.length ≤ 10 ∧ H.length ≤ 10 ∧ (∀ x ∈ Q, x.nm.size ≤ 2000 ∧ x.vl.size ≤ 2000) ∧ ∀ x ∈ H, x.nm.size ≤ 2000 ∧ x.vl.size ≤ 2000) ∧
    OwnHp w' B1 (.slice a1 Q.length c1) Q ∧ OwnHp w' B2 (.slice a2 H.length c2) H ∧ Src W0 w' c a len cap p' ∧ w.grownBy w' (some c)
theorem tab3 (k : Nat) (hk : k < 3) : ∃ t : ByteArray, (#[.string ⟨#[]⟩, .string ⟨#[103, 101, 116]⟩, .string ⟨#[65, 66, 67, 68, 69, 70, 71, 72, 73, 74, 75]⟩] : Array Value)[k]? = some (.string t) ∧ t.size ≤ 2000 := by
  rcases (by omega : k = 0 ∨ k = 1 ∨ k = 2) with rfl | rfl | rfl
  all_goals exact ⟨_, rfl, by decide⟩
theorem hps_mono {L : List Hp} (h : ∀ x ∈ L, x.nm.size ≤ 20 ∧ x.vl.size ≤ 20) : ∀ x ∈ L, x.nm.size ≤ 2000 ∧ x.vl.size ≤ 2000 := fun x hx => by have := h x hx; omega
theorem apart3 {w : World} {B : Nat} {u v : Value} {L : List Hp} (h : ∀ g, u.ownBlock = some g → g < B) (hO : OwnHp w B v L) : v.ownBlock = none ∨ v.ownBlock ≠ u.ownBlock := by
  cases hv : v.ownBlock with
  | none => exact .inl rfl
  | some g => exact .inr fun e => by have := h g e.symm; have := (World.ownsRow.lt hO g hv).1; omega
set_option maxRecDepth 20000 in
set_option maxHeartbeats 8000000 in
theorem anyRequest_all (W0 w : World) (c : Nat) (a : Option Addr) (len cap p : Nat) (h : Src W0 w c a len cap p) (hp : p ≤ 700000) :
    Calls Tryz.prog 20 #[.pointer (some ⟨c, 0, none⟩)] w fun e w' => AnyRq W0 w c a len cap e w' := by
  have hcl := h.lt
  have hw0 := h.2.2.2.2
  obtain ⟨W1, hW1⟩ : ∃ W, W = w.alloc (.cells #[.string ⟨#[]⟩, .string ⟨#[]⟩, .slice none 0 0, .slice none 0 0, .string ⟨#[]⟩] 25) := ⟨_, rfl⟩
  have S0 : Hid (Src W0 W1 c a len cap p) := by rw [hW1]; exact h.alloc _
  have G0 : Hid (w.grownBy W1 (some c)) := by rw [hW1]; exact World.grownBy_alloc w _ _
  have RR : Hid (RowAt W1 w.heap.size 25 #[.string ⟨#[]⟩, .string ⟨#[]⟩, .slice none 0 0, .slice none 0 0, .string ⟨#[]⟩]) := by rw [hW1]; exact RowAt.new _ _ _
  have hs1 : w.heap.size < W1.heap.size := RR.out.lt
  have HW1 := hid hW1
  clear h hW1
  go_enter Tryz.func20, Tryz.ntmps20
  go_upto_region 1 with fail
  rw [← HW1.out]
  go_wp2_with fail
  refine (request_all W0 W1 c a len cap p S0.out (by omega)).mono ?_
  rintro e w2 ⟨m, pt, b, Q, H, a1, c1, a2, c2, B1, B2, p2, rfl, ⟨hm, hpt, hbb, hQl, hHl, hQs, hHs⟩, hOQ, hOH, hB1, hB2, hQB, ⟨hB1x0, hB2x0⟩, hS2, hp2, hg2⟩
  have hs2 : W1.heap.size ≤ w2.heap.size := hg2.size
  obtain ⟨XB, hXB⟩ : ∃ X, X = w2.heap.size := ⟨_, rfl⟩
  obtain ⟨W3, hW3⟩ : ∃ W, W = w2.alloc (.cells #[.string m, .string pt, .slice a1 Q.length c1, .slice a2 H.length c2, .string b] 25) := ⟨_, rfl⟩
  have S3 : Hid (Src W0 W3 c a len cap p2) := by rw [hW3]; exact hS2.alloc _
  have G3 : Hid (w.grownBy W3 (some c)) := by rw [hW3]; exact grown_al (grown_trans G0.out hg2) _
  have X3 : Hid (RowAt W3 XB 25 #[.string m, .string pt, .slice a1 Q.length c1, .slice a2 H.length c2, .string b]) := by rw [hW3, hXB]; exact RowAt.new _ _ _
  have R3 : Hid (RowAt W3 w.heap.size 25 #[.string ⟨#[]⟩, .string ⟨#[]⟩, .slice none 0 0, .slice none 0 0, .string ⟨#[]⟩]) := by rw [hW3]; exact (rowF2 RR.out hg2 (by omega)).alloc _
  have Q3 : Hid (OwnHp W3 B1 (.slice a1 Q.length c1) Q) := by rw [hW3]; exact World.ownsRow.alloc hOQ _
  have H3 : Hid (OwnHp W3 B2 (.slice a2 H.length c2) H) := by rw [hW3]; exact World.ownsRow.alloc hOH _
  have QB := hid hQB
  have hB1x : B1 ≤ W3.heap.size := by rw [hW3]; simp; omega
  have hB2x : B2 ≤ W3.heap.size := by rw [hW3]; simp; omega
  have hXw : w.heap.size < XB := by omega
  have HQs := hid (hps_mono hQs)
  have HHs := hid (hps_mono hHs)
  have HW3 := hid hW3
  have HXB := hid hXB
  clear hOQ hOH hS2 hg2 hW3 S0 G0 RR hQB hQs hHs hXB
  go_upto_region 2 with ((refine wpList_store_row rfl 25 (.tmp 3) (.tmp 5) rfl w2.heap.size #[.string m, .string pt, .slice a1 Q.length c1, .slice a2 H.length c2, .string b] rfl rfl _ _ (RowAt.new w2 _ _) (by kernel_rfl) rfl (by simp [Value.oneCell']) ?_); rw [World.setRow_alloc_new])
  rw [← HW3.out, ← HXB.out]
  go_wp2_with fail
  refine (n_all W0 _ c a len cap p2 14 S3.out (by omega) (by omega) (by omega)).mono ?_
  rintro e w4 ⟨⟨r4, rfl, h40, h41⟩, hs4, hg4⟩
  obtain ⟨R, rfl⟩ := Int.eq_ofNat_of_zero_le h40
  have S4 := hid hs4
  have G4 := hid (grown_trans G3.out hg4)
  have X4 := hid (rowF X3.out hg4 (by omega))
  have R4 := hid (rowF2 R3.out hg4 (by omega))
  have Q4 := hid (OwnHp.keptC Q3.out hg4 (by omega))
  have H4 := hid (OwnHp.keptC H3.out hg4 (by omega))
  have hB1w : B1 ≤ w4.heap.size := Nat.le_trans hB1x hg4.size
  have hB2w : B2 ≤ w4.heap.size := Nat.le_trans hB2x hg4.size
  clear hs4 hg4 S3 G3 X3 R3 Q3 H3 HW3 HXB
  by_cases e0 : R = 0
  · subst e0
    go_wp2_with fail
    refine (n_all W0 _ c a len cap (p2 + 1) 3 (S4.out.alloc _) (by omega) (by omega) (by omega)).mono ?_
    rintro e w5 ⟨⟨r5, rfl, h50, h51⟩, hs5, hg5⟩
    obtain ⟨R5, rfl⟩ := Int.eq_ofNat_of_zero_le h50
    obtain ⟨tt, hk, htt⟩ := tab3 R5 (by omega)
    have hc4 : c < w4.heap.size := S4.out.lt
    have ct := ((rowF (RowAt.new w4 9 #[.string ⟨#[]⟩, .string ⟨#[103, 101, 116]⟩, .string ⟨#[65, 66, 67, 68, 69, 70, 71, 72, 73, 74, 75]⟩]) hg5 hc4).cell R5).trans hk
    have r5 : (R5 : Int) < 3 := by omega
    have X5 := rowF (X4.out.alloc _) hg5 (by omega)
    obtain ⟨W6, hW6⟩ : ∃ W, W = w5.setCell ⟨XB, 0, none⟩ (.string tt) := ⟨_, rfl⟩
    have S6 : Hid (Src W0 W6 c a len cap (p2 + 1 + 1)) := by rw [hW6]; exact hs5.set (by omega) 0 _
    have G6 : Hid (w.grownBy W6 (some c)) := by rw [hW6]; exact grown_far (grown_trans (grown_al G4.out _) hg5) (by omega) 0 _
    have X6 : Hid (RowAt W6 XB 25 #[.string tt, .string pt, .slice a1 Q.length c1, .slice a2 H.length c2, .string b]) := by rw [hW6]; exact X5.set 0 _
    have R6 : Hid (RowAt W6 w.heap.size 25 #[.string ⟨#[]⟩, .string ⟨#[]⟩, .slice none 0 0, .slice none 0 0, .string ⟨#[]⟩]) := by rw [hW6]; exact (rowF2 (R4.out.alloc _) hg5 (by omega)).other ⟨XB, 0, none⟩ _ (by simp; omega)
    have Q5 := OwnHp.keptC (World.ownsRow.alloc Q4.out _) hg5 (by omega)
    have H5 := OwnHp.keptC (World.ownsRow.alloc H4.out _) hg5 (by omega)
    have Q6 : Hid (OwnHp W6 B1 (.slice a1 Q.length c1) Q) := by rw [hW6]; exact OwnHp.setCellN Q5 (OwnHp.neRow Q5 X5 (by decide))
    have H6 : Hid (OwnHp W6 B2 (.slice a2 H.length c2) H) := by rw [hW6]; exact OwnHp.setCellN H5 (OwnHp.neRow H5 X5 (by decide))
    have q0 := X5.cell 0
    have f0 := X5.free 0
    have HW6 := hid hW6
    clear hs5 hg5 hW6 X5 Q5 H5 S4 G4 X4 R4 Q4 H4
    go_upto_region 13 with fail
    rw [← HW6.out]
    clear q0 f0 HW6 ct hk
    have z0 := X6.out.cell 0
    have z1 := X6.out.cell 1
    have z2 := X6.out.cell 2
    have z3 := X6.out.cell 3
    have z4 := X6.out.cell 4
    go_wp2_with (refine wpList_store_row rfl 25 (.tmp 2) (.tmp 71) rfl w.heap.size #[.string tt, .string pt, .slice a1 Q.length c1, .slice a2 H.length c2, .string b] rfl rfl _ _ R6.out (by kernel_rfl) rfl (by simp [Value.oneCell']) ?_)
    refine bodyPost_ret (v := .agg #[.string tt, .string pt, .slice a1 Q.length c1, .slice a2 H.length c2, .string b]) ?_ rfl ⟨tt, pt, b, Q, H, a1, c1, a2, c2, B1, B2, _, rfl, ⟨by omega, by omega, by omega, by omega, by omega, HQs.out, HHs.out⟩, OwnHp.setRowN Q6.out (OwnHp.neRow Q6.out R6.out (by decide)) _, OwnHp.setRowN H6.out (OwnHp.neRow H6.out R6.out (by decide)) _, S6.out.setRowD (by omega) _, grown_setRowD G6.out (by omega) _⟩
    exact results_cell_row Tryz.results20 _ _ w.heap.size _ _ _ _ rfl (R6.out.setRow _) Tryz.underlying25 rfl (by kernel_rfl)
  have b0 : ((R : Int) == 0) = false := by simp; omega
  by_cases e1 : R = 1
  · subst e1
    go_upto_region 6 with fail
    refine ra6_wp W0 w c a len cap (p2 + 1) w.heap.size XB w4.heap.size #[.string ⟨#[]⟩, .string ⟨#[]⟩, .slice none 0 0, .slice none 0 0, .string ⟨#[]⟩] (.string m) (.string pt) (.slice a1 Q.length c1) (.slice a2 H.length c2) (.string b) B1 a1 Q.length c1 Q B2 a2 H.length c2 H w4 S4.out G4.out X4.out R4.out (Nat.le_refl _) ⟨by omega, S4.out.lt, G4.out.size, by omega, by omega, hw0, by omega, by omega⟩ ⟨Q4.out, by omega⟩ ⟨H4.out, by omega⟩ ?_
    intro X0 x1 X2 R4 x6 pp w5 hS5 hp5 hg5 hbx5 hR5 hBz5 _ hoO hoU hx1 _ hx6
    have S6 := hid hS5
    have G6 := hid hg5
    have X6 := hid hbx5
    have R6 := hid hR5
    have Q6 := hid hoO.1
    have H6 := hid hoU.1
    clear hS5 hg5 hbx5 hR5 hoO hoU
    go_upto_region 13 with fail
    have z0 := X6.out.cell 0
    have z1 := X6.out.cell 1
    have z2 := X6.out.cell 2
    have z3 := X6.out.cell 3
    have z4 := X6.out.cell 4
    go_wp2_with (refine wpList_store_row rfl 25 (.tmp 2) (.tmp 71) rfl w.heap.size #[.string m, .string x6, .slice a1 Q.length c1, .slice a2 H.length c2, .string b] rfl rfl _ _ R6.out (by kernel_rfl) rfl (by simp [Value.oneCell']) ?_)
    refine bodyPost_ret (v := .agg #[.string m, .string x6, .slice a1 Q.length c1, .slice a2 H.length c2, .string b]) ?_ rfl ⟨m, x6, b, Q, H, a1, c1, a2, c2, B1, B2, _, rfl, ⟨by omega, by omega, by omega, by omega, by omega, HQs.out, HHs.out⟩, OwnHp.setRowN Q6.out (OwnHp.neRow Q6.out R6.out (by decide)) _, OwnHp.setRowN H6.out (OwnHp.neRow H6.out R6.out (by decide)) _, S6.out.setRowD (by omega) _, grown_setRowD G6.out (by omega) _⟩
    exact results_cell_row Tryz.results20 _ _ w.heap.size _ _ _ _ rfl (R6.out.setRow _) Tryz.underlying25 rfl (by kernel_rfl)
  have b1 : ((R : Int) == 1) = false := by simp; omega
  by_cases e2 : R = 2
  · subst e2
    go_upto_region 8 with fail
    refine ra8_wp W0 w c a len cap (p2 + 1) w.heap.size XB B1 #[.string ⟨#[]⟩, .string ⟨#[]⟩, .slice none 0 0, .slice none 0 0, .string ⟨#[]⟩] (.string m) (.string pt) (.slice a2 H.length c2) (.string b) a1 c1 Q B2 a2 H.length c2 H w4 S4.out G4.out X4.out R4.out hB1w ⟨by omega, by omega, by omega, by omega, by omega, hw0, by omega, by omega⟩ Q4.out (by omega) ⟨H4.out, by omega, apart3 QB.out H4.out⟩ ?_
    intro R3 X5 x6 X7 R9 x11 X13 G CP pp w5 hS5 hp5 hg5 hbx5 hR5 hBz5 _ ho2 _ hoO _ hx6 _ hx11
    have S6 := hid hS5
    have G6 := hid hg5
    have X6 := hid hbx5
    have R6 := hid hR5
    have Q6 := hid ho2
    have H6 := hid hoO.1
    clear hS5 hg5 hbx5 hR5 hoO ho2
    go_upto_region 13 with fail
    have z0 := X6.out.cell 0
    have z1 := X6.out.cell 1
    have z2 := X6.out.cell 2
    have z3 := X6.out.cell 3
    have z4 := X6.out.cell 4
    go_wp2_with (refine wpList_store_row rfl 25 (.tmp 2) (.tmp 71) rfl w.heap.size #[.string m, .string pt, .slice (some ⟨G, 0, none⟩) (Q.length + 1) CP, .slice a2 H.length c2, .string b] rfl rfl _ _ R6.out (by kernel_rfl) rfl (by simp [Value.oneCell']) ?_)
    refine bodyPost_ret (v := .agg #[.string m, .string pt, .slice (some ⟨G, 0, none⟩) (Q.length + 1) CP, .slice a2 H.length c2, .string b]) ?_ rfl ⟨m, pt, b, (Q ++ [(⟨x11, ⟨#[120]⟩⟩ : Hp)]), H, some ⟨G, 0, none⟩, CP, a2, c2, B1, B2, _, by simp, ⟨by omega, by omega, by omega, by rw [hp_len]; omega, by omega, mem_app HQs.out ⟨by show x11.size ≤ 2000; omega, by show (1 : Nat) ≤ 2000; omega⟩, HHs.out⟩, by rw [hp_len]; exact OwnHp.setRowN Q6.out (OwnHp.neRow Q6.out R6.out (by decide)) _, OwnHp.setRowN H6.out (OwnHp.neRow H6.out R6.out (by decide)) _, S6.out.setRowD (by omega) _, grown_setRowD G6.out (by omega) _⟩
    exact results_cell_row Tryz.results20 _ _ w.heap.size _ _ _ _ rfl (R6.out.setRow _) Tryz.underlying25 rfl (by kernel_rfl)
  have b2 : ((R : Int) == 2) = false := by simp; omega
  by_cases e3 : R = 3
  · subst e3
    go_upto_region 10 with fail
    refine ra10_wp W0 w c a len cap (p2 + 1) w.heap.size XB B2 #[.string ⟨#[]⟩, .string ⟨#[]⟩, .slice none 0 0, .slice none 0 0, .string ⟨#[]⟩] (.string m) (.string pt) (.slice a1 Q.length c1) (.string b) a2 c2 H B1 a1 Q.length c1 Q w4 S4.out G4.out X4.out R4.out hB2w ⟨by omega, by omega, by omega, by omega, by omega, hw0, by omega, by omega⟩ H4.out (by omega) ⟨Q4.out, by omega, apart2 QB.out H4.out⟩ ?_
    intro X2 R4 x6 X7 R9 x11 X13 G CP pp w5 hS5 hp5 hg5 hbx5 hR5 hBz5 _ ho2 _ hoO _ hx6 _ hx11
    have S6 := hid hS5
    have G6 := hid hg5
    have X6 := hid hbx5
    have R6 := hid hR5
    have H6 := hid ho2
    have Q6 := hid hoO.1
    clear hS5 hg5 hbx5 hR5 hoO ho2
    go_upto_region 13 with fail
    have z0 := X6.out.cell 0
    have z1 := X6.out.cell 1
    have z2 := X6.out.cell 2
    have z3 := X6.out.cell 3
    have z4 := X6.out.cell 4
    go_wp2_with (refine wpList_store_row rfl 25 (.tmp 2) (.tmp 71) rfl w.heap.size #[.string m, .string pt, .slice a1 Q.length c1, .slice (some ⟨G, 0, none⟩) (H.length + 1) CP, .string b] rfl rfl _ _ R6.out (by kernel_rfl) rfl (by simp [Value.oneCell']) ?_)
    refine bodyPost_ret (v := .agg #[.string m, .string pt, .slice a1 Q.length c1, .slice (some ⟨G, 0, none⟩) (H.length + 1) CP, .string b]) ?_ rfl ⟨m, pt, b, Q, (H ++ [(⟨x6, x11⟩ : Hp)]), a1, c1, some ⟨G, 0, none⟩, CP, B1, B2, _, by simp, ⟨by omega, by omega, by omega, by omega, by rw [hp_len]; omega, HQs.out, mem_app HHs.out ⟨by show x6.size ≤ 2000; omega, by show x11.size ≤ 2000; omega⟩⟩, OwnHp.setRowN Q6.out (OwnHp.neRow Q6.out R6.out (by decide)) _, by rw [hp_len]; exact OwnHp.setRowN H6.out (OwnHp.neRow H6.out R6.out (by decide)) _, S6.out.setRowD (by omega) _, grown_setRowD G6.out (by omega) _⟩
    exact results_cell_row Tryz.results20 _ _ w.heap.size _ _ _ _ rfl (R6.out.setRow _) Tryz.underlying25 rfl (by kernel_rfl)
  have b3 : ((R : Int) == 3) = false := by simp; omega
  by_cases e4 : R = 4
  · subst e4
    have q3 := X4.out.cell 3
    obtain ⟨W5, hW5⟩ : ∃ W, W = w4.alloc (.cells #[.string ⟨#[97]⟩, .string ⟨#[]⟩, .string ⟨#[97]⟩, .string ⟨#[]⟩] 54) := ⟨_, rfl⟩
    have RP : RowAt W5 w4.heap.size 54 #[.string ⟨#[97]⟩, .string ⟨#[]⟩, .string ⟨#[97]⟩, .string ⟨#[]⟩] := by rw [hW5]; exact RowAt.new _ _ _
    have HA : OwnHp W5 B2 (.slice a2 H.length c2) H := by rw [hW5]; exact World.ownsRow.alloc H4.out _
    have XA : RowAt W5 XB 25 #[.string m, .string pt, .slice a1 Q.length c1, .slice a2 H.length c2, .string b] := by rw [hW5]; exact X4.out.alloc _
    have RA : RowAt W5 w.heap.size 25 #[.string ⟨#[]⟩, .string ⟨#[]⟩, .slice none 0 0, .slice none 0 0, .string ⟨#[]⟩] := by rw [hW5]; exact R4.out.alloc _
    have SA : Src W0 W5 c a len cap (p2 + 1) := by rw [hW5]; exact S4.out.alloc _
    have GA : w.grownBy W5 (some c) := by rw [hW5]; exact grown_al G4.out _
    have QA : OwnHp W5 B1 (.slice a1 Q.length c1) Q := by rw [hW5]; exact World.ownsRow.alloc Q4.out _
    have z5 : B2 ≤ W5.heap.size := by rw [hW5]; simp; omega
    obtain ⟨HM, hHM⟩ : ∃ l, l = H ++ [(⟨⟨#[97]⟩, ⟨#[]⟩⟩ : Hp), ⟨⟨#[97]⟩, ⟨#[]⟩⟩] := ⟨_, rfl⟩
    have HHM := hid hHM
    have AP := apart2 QB.out HA
    clear hHM
    have AR : Hid (∀ {ops : Array Oper} {rest : List Oper} {op : Oper} {f : Act} {K : Exit → Act → World → Prop}, op.guard = none → op.op = .call { callee := .builtin .append, args := #[.tmp 65, .tmp 68], argTypes := #[23, 23] } → f.eval (.tmp 65) = .slice a2 H.length c2 → f.eval (.tmp 68) = .slice (some ⟨w4.heap.size, 0, none⟩) 2 2 → (∀ g cp w5, OwnHp w5 B2 (.slice (some ⟨g, 0, none⟩) HM.length cp) HM → W5.grownBy w5 (Value.slice a2 H.length c2).ownBlock → wpList Tryz.prog ops K rest (f.put op.dst (.slice (some ⟨g, 0, none⟩) HM.length cp)) w5) → wpList Tryz.prog ops K (op :: rest) f W5) := by
      intro ops rest op f K h1 h2 h3 h4 h5
      refine append_hps B2 W5 h1 (.tmp 65) (.tmp 68) 23 h2 Tryz.underlying23 Tryz.infoHpF _ H h3 HA z5 w4.heap.size 0 2 2 [(⟨⟨#[97]⟩, ⟨#[]⟩⟩ : Hp), ⟨⟨#[97]⟩, ⟨#[]⟩⟩] h4 rfl (fun k hk => ?_) (by omega) (fun v5 w5 hO5 hg5 => ?_)
      · rcases (by omega : k = 0 ∨ k = 1) with rfl | rfl
        · exact ⟨RP.cell 0, RP.cell 1⟩
        · exact ⟨RP.cell 2, RP.cell 3⟩
      · rw [← HHM.out] at hO5
        obtain ⟨g, cp, rfl, _⟩ := OwnHp.shape hO5 (by rw [HHM.out]; simp)
        exact h5 g cp w5 hO5 hg5
    have HW5 := hid hW5
    have q3 := XA.cell 3
    clear hW5
    go_upto_region 13 with (at_builtin; rw [← HW5.out]; refine AR.out rfl rfl rfl rfl ?_; intro g5 cp5 w5 hO5 hg5; have X5 := row_grown XA hg5 (OwnHp.neRow HA XA (by decide)); have q5 := X5.cell 3; have f5 := X5.free 3)
    obtain ⟨W6, hW6⟩ : ∃ W, W = w5.setCell ⟨XB, 3, none⟩ (.slice (some ⟨g5, 0, none⟩) HM.length cp5) := ⟨_, rfl⟩
    have S6 : Hid (Src W0 W6 c a len cap (p2 + 1)) := by rw [hW6]; exact (SA.far hg5 (OwnHp.apart HA (by omega)) (fun g hg => by have := (World.ownsRow.lt HA _ hg).1; omega)).set (by omega) 3 _
    have G6 : Hid (w.grownBy W6 (some c)) := by rw [hW6]; exact grown_far (grown_own GA hg5 (fun g hg => (World.ownsRow.lt HA _ hg).1) (by omega)) (by omega) 3 _
    have X6 : Hid (RowAt W6 XB 25 #[.string m, .string pt, .slice a1 Q.length c1, .slice (some ⟨g5, 0, none⟩) HM.length cp5, .string b]) := by rw [hW6]; exact X5.set 3 _
    have R6 : Hid (RowAt W6 w.heap.size 25 #[.string ⟨#[]⟩, .string ⟨#[]⟩, .slice none 0 0, .slice none 0 0, .string ⟨#[]⟩]) := by rw [hW6]; exact (row_grown RA hg5 (OwnHp.neRow HA RA (by decide))).other ⟨XB, 3, none⟩ _ (by simp; omega)
    have Q5 : OwnHp w5 B1 (.slice a1 Q.length c1) Q := World.ownsRow.kept QA hg5 AP
    have Q6 : Hid (OwnHp W6 B1 (.slice a1 Q.length c1) Q) := by rw [hW6]; exact OwnHp.setCellN Q5 (OwnHp.neRow Q5 X5 (by decide))
    have H6 : Hid (OwnHp W6 B2 (.slice (some ⟨g5, 0, none⟩) HM.length cp5) HM) := by rw [hW6]; exact OwnHp.setCellN hO5 (OwnHp.neRow hO5 X5 (by decide))
    rw [← hW6]
    have hHMl : HM.length ≤ 10 := by rw [HHM.out]; simp; omega
    have hHMs : ∀ x ∈ HM, x.nm.size ≤ 2000 ∧ x.vl.size ≤ 2000 := by rw [HHM.out, show H ++ [(⟨⟨#[97]⟩, ⟨#[]⟩⟩ : Hp), ⟨⟨#[97]⟩, ⟨#[]⟩⟩] = (H ++ [(⟨⟨#[97]⟩, ⟨#[]⟩⟩ : Hp)]) ++ [(⟨⟨#[97]⟩, ⟨#[]⟩⟩ : Hp)] by simp]; exact mem_app (mem_app HHs.out ⟨by show (1 : Nat) ≤ 2000; omega, by show (0 : Nat) ≤ 2000; omega⟩) ⟨by show (1 : Nat) ≤ 2000; omega, by show (0 : Nat) ≤ 2000; omega⟩
    have HHMs := hid hHMs
    clear hW6 X5 q5 f5 hO5 hg5 Q5 SA GA XA RA QA HA RP AR AP q3 hHMs
    have z0 := X6.out.cell 0
    have z1 := X6.out.cell 1
    have z2 := X6.out.cell 2
    have z3 := X6.out.cell 3
    have z4 := X6.out.cell 4
    go_wp2_with (refine wpList_store_row rfl 25 (.tmp 2) (.tmp 71) rfl w.heap.size #[.string m, .string pt, .slice a1 Q.length c1, .slice (some ⟨g5, 0, none⟩) HM.length cp5, .string b] rfl rfl _ _ R6.out (by kernel_rfl) rfl (by simp [Value.oneCell']) ?_)
    refine bodyPost_ret (v := .agg #[.string m, .string pt, .slice a1 Q.length c1, .slice (some ⟨g5, 0, none⟩) HM.length cp5, .string b]) ?_ rfl ⟨m, pt, b, Q, HM, a1, c1, some ⟨g5, 0, none⟩, cp5, B1, B2, _, rfl, ⟨by omega, by omega, by omega, by omega, hHMl, HQs.out, HHMs.out⟩, OwnHp.setRowN Q6.out (OwnHp.neRow Q6.out R6.out (by decide)) _, OwnHp.setRowN H6.out (OwnHp.neRow H6.out R6.out (by decide)) _, S6.out.setRowD (by omega) _, grown_setRowD G6.out (by omega) _⟩
    exact results_cell_row Tryz.results20 _ _ w.heap.size _ _ _ _ rfl (R6.out.setRow _) Tryz.underlying25 rfl (by kernel_rfl)
  have b4 : ((R : Int) == 4) = false := by simp; omega
  go_upto_region 13 with fail
  have z0 := X4.out.cell 0
  have z1 := X4.out.cell 1
  have z2 := X4.out.cell 2
  have z3 := X4.out.cell 3
  have z4 := X4.out.cell 4
  go_wp2_with (refine wpList_store_row rfl 25 (.tmp 2) (.tmp 71) rfl w.heap.size #[.string m, .string pt, .slice a1 Q.length c1, .slice a2 H.length c2, .string b] rfl rfl _ _ R4.out (by kernel_rfl) rfl (by simp [Value.oneCell']) ?_)
  refine bodyPost_ret (v := .agg #[.string m, .string pt, .slice a1 Q.length c1, .slice a2 H.length c2, .string b]) ?_ rfl ⟨m, pt, b, Q, H, a1, c1, a2, c2, B1, B2, _, rfl, ⟨by omega, by omega, by omega, by omega, by omega, HQs.out, HHs.out⟩, OwnHp.setRowN Q4.out (OwnHp.neRow Q4.out R4.out (by decide)) _, OwnHp.setRowN H4.out (OwnHp.neRow H4.out R4.out (by decide)) _, S4.out.setRowD (by omega) _, grown_setRowD G4.out (by omega) _⟩
  exact results_cell_row Tryz.results20 _ _ w.heap.size _ _ _ _ rfl (R4.out.setRow _) Tryz.underlying25 rfl (by kernel_rfl)
theorem drrq_of {w w' : World} {m pt b : ByteArray} {Q H : List Hp} {a1 : Option Addr} {c1 : Nat} {a2 : Option Addr} {c2 B1 B2 : Nat} (h1 : m.size ≤ 2000) (h2 : pt.size ≤ 2000) (h3 : b.size ≤ 2000) (h4 : Q.length ≤ 10) (h5 : H.length ≤ 10) (h6 : ∀ x ∈ Q, x.nm.size ≤ 2000 ∧ x.vl.size ≤ 2000) (h7 : ∀ x ∈ H, x.nm.size ≤ 2000 ∧ x.vl.size ≤ 2000) (hQ : OwnHp w' B1 (.slice a1 Q.length c1) Q) (hH : OwnHp w' B2 (.slice a2 H.length c2) H) (hb : Below w.heap.size w w') : DrRq w (.returned (.agg #[.string m, .string pt, .slice a1 Q.length c1, .slice a2 H.length c2, .string b])) w' := by
  refine ⟨m, pt, Q, H, b, a1, c1, a2, c2, rfl, hps_of hQ rfl, hps_of hH rfl, ⟨by show m.size ≤ _; omega, by show pt.size ≤ _; omega, ⟨by show Q.length ≤ _; omega, fun i hi => ?_⟩, ⟨by show H.length ≤ _; omega, fun i hi => ?_⟩, by show b.size ≤ _; omega⟩, hb⟩
  · have := h6 _ (hAt_mem (L := Q) (i := i) hi)
    show (hAt Q i).nm.size ≤ _ ∧ (hAt Q i).vl.size ≤ _
    omega
  · have := h7 _ (hAt_mem (L := H) (i := i) hi)
    show (hAt H i).nm.size ≤ _ ∧ (hAt H i).vl.size ≤ _
    omega
set_option maxRecDepth 20000 in
set_option maxHeartbeats 2000000 in
theorem drawWR_all (w : World) (a : Option Addr) (len cap : Nat) (hc : CodeOk w a len) (hlc : len ≤ cap) :
    Calls Tryz.prog 5 #[.slice a len cap] w fun e w' => DrRq w e w' := by
  obtain ⟨W1, hW1⟩ : ∃ W, W = w.alloc (.cells #[.string ⟨#[]⟩, .string ⟨#[]⟩, .slice none 0 0, .slice none 0 0, .string ⟨#[]⟩] 25) := ⟨_, rfl⟩
  have RR : Hid (RowAt W1 w.heap.size 25 #[.string ⟨#[]⟩, .string ⟨#[]⟩, .slice none 0 0, .slice none 0 0, .string ⟨#[]⟩]) := by rw [hW1]; exact RowAt.new _ _ _
  have B1' : Below w.heap.size w W1 := by rw [hW1]; exact (Below.refl _ _).alloc (Nat.le_refl _) _
  have KS := hid (source_all W1 a len cap (hc.below B1') hlc)
  have HB1 := hid B1'
  have HW1 := hid hW1
  clear hc hlc hW1 B1'
  go_enter Tryz.func5, Tryz.ntmps5
  go_upto_region 1 with fail
  rw [← HW1.out]
  go_wp2_with fail
  refine KS.out.mono ?_
  rintro e w1 ⟨rfl, hs1, hb1⟩
  go_wp2_with fail
  refine (anyRequest_all W1 w1 W1.heap.size a len cap 0 hs1 (by omega)).mono ?_
  rintro e w2 ⟨m, pt, b, Q, H, a1, c1, a2, c2, B1, B2, p', rfl, ⟨h1, h2, h3, h4, h5, h6, h7⟩, hQ, hH, hS, _⟩
  have hb2 := hS.2.2.2.1
  have R2 := RR.out.below hb2 RR.out.lt
  have b2 := HB1.out.trans (hb2.mono HB1.out.size)
  have D := hid (drrq_of (w := w) h1 h2 h3 h4 h5 h6 h7 (OwnHp.setRowN hQ (OwnHp.neRow hQ R2 (by decide)) #[.string m, .string pt, .slice a1 Q.length c1, .slice a2 H.length c2, .string b]) (OwnHp.setRowN hH (OwnHp.neRow hH R2 (by decide)) _) (below_setRow b2 _ _ (Nat.le_refl _)))
  have HR2 := hid R2
  clear h1 h2 h3 h4 h5 h6 h7 hQ hH hS hb2 R2 b2 hs1 hb1 KS
  go_wp2_with (refine wpList_store_row rfl 25 (.tmp 2) (.tmp 5) rfl w.heap.size #[.string m, .string pt, .slice a1 Q.length c1, .slice a2 H.length c2, .string b] rfl rfl _ _ HR2.out (by kernel_rfl) rfl (by simp [Value.oneCell']) ?_)
  refine bodyPost_ret (v := .agg #[.string m, .string pt, .slice a1 Q.length c1, .slice a2 H.length c2, .string b]) ?_ rfl D.out
  exact results_cell_row Tryz.results5 _ _ w.heap.size _ _ _ _ rfl (HR2.out.setRow _) Tryz.underlying25 rfl (by kernel_rfl)
end Go.Proofs.YtgoplcjjoiiagaaGreatDoor
namespace Go.Proofs.YtgoplcjjoiiagaaGreatDoor
open Go.RowKit
/-! FnRequests, as a row hands its codes in. -/
set_option maxRecDepth 20000 in
theorem fnRequests_walk {w : World} (hv : RdV w) (a0 : Option Addr) (len0 cap0 : Nat) (z0 : List Int) (h0 : IsRow .u8 w a0 len0 cap0 z0) (a1 : Option Addr) (len1 cap1 : Nat) (z1 : List Int) (h1 : IsRow .u8 w a1 len1 cap1 z1) :
    Calls Tryz.prog 3 #[.slice a0 len0 cap0, .slice a1 len1 cap1] w fun e w' => e = .returned (.bool true) ∧ Below w.heap.size w w' := by
  have m0 := h0.le
  have m1 := h1.le
  unfold maxLen at m0 m1
  by_cases hl0 : len0 ≤ 1048576
  · by_cases hl1 : len1 ≤ 1048576
    · exact fnRequests_core drawWR_all hv a0 len0 cap0 (codeOk_of w a0 len0 cap0 z0 h0 hl0) m0.1 a1 len1 cap1 (codeOk_of w a1 len1 cap1 z1 h1 hl1) m1.1
    · have d0 : decide ((1048576 : Int) < (len0 : Int)) = false := by simp; omega
      have d1 : decide ((1048576 : Int) < (len1 : Int)) = true := by simp; omega
      clear hv
      go_enter Tryz.func3, Tryz.ntmps3
      go_wp2
      go_ret
      exact ⟨rfl, Below.refl _ _⟩
  · have d0 : decide ((1048576 : Int) < (len0 : Int)) = true := by simp; omega
    clear hv
    go_enter Tryz.func3, Tryz.ntmps3
    go_wp2
    go_ret
    exact ⟨rfl, Below.refl _ _⟩
end Go.Proofs.YtgoplcjjoiiagaaGreatDoor
