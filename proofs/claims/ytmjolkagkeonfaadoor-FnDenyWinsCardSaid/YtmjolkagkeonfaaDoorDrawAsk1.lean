import Derived.Test.YtmjolkagkeonfaaDoorGM
import Derived.Test.YtmjolkagkeonfaaDoorDrawPat
namespace Go.Proofs.YtmjolkagkeonfaaDoor
open Go.RowKit
set_option linter.unusedVariables false
theorem ak1_tab0 (k : Nat) (hk : k < 3) : ∃ x : ByteArray, (#[.string ⟨#[97, 110, 110]⟩, .string ⟨#[98, 111, 98]⟩, .string ⟨#[97, 108]⟩] : Array Value)[k]? = some (.string x) ∧ x.size ≤ 3 := by
  rcases (by omega : k = 0 ∨ k = 1 ∨ k = 2) with rfl | rfl | rfl
  all_goals exact ⟨_, rfl, by decide⟩
theorem ak1_tab5 (k : Nat) (hk : k < 4) : ∃ x : ByteArray, (#[.string ⟨#[103, 101, 116]⟩, .string ⟨#[112, 117, 116]⟩, .string ⟨#[108, 105, 115, 116]⟩, .string ⟨#[100, 101, 108, 101, 116, 101]⟩] : Array Value)[k]? = some (.string x) ∧ x.size ≤ 6 := by
  rcases (by omega : k = 0 ∨ k = 1 ∨ k = 2 ∨ k = 3) with rfl | rfl | rfl | rfl
  all_goals exact ⟨_, rfl, by decide⟩
theorem ak1_tab10 (k : Nat) (hk : k < 4) : ∃ x : ByteArray, (#[.string ⟨#[98, 47, 120]⟩, .string ⟨#[98, 47, 97, 47, 99]⟩, .string ⟨#[99, 47, 100]⟩, .string ⟨#[98, 47]⟩] : Array Value)[k]? = some (.string x) ∧ x.size ≤ 5 := by
  rcases (by omega : k = 0 ∨ k = 1 ∨ k = 2 ∨ k = 3) with rfl | rfl | rfl | rfl
  all_goals exact ⟨_, rfl, by decide⟩
theorem ak1_tab15 (k : Nat) (hk : k < 3) : ∃ x : ByteArray, (#[.string ⟨#[49, 48, 46, 49]⟩, .string ⟨#[49, 49, 46, 49]⟩, .string ⟨#[]⟩] : Array Value)[k]? = some (.string x) ∧ x.size ≤ 4 := by
  rcases (by omega : k = 0 ∨ k = 1 ∨ k = 2) with rfl | rfl | rfl
  all_goals exact ⟨_, rfl, by decide⟩
theorem ak1_tab23 (R21 : Nat) (hR : R21 < 80) (k : Nat) (hk : k < 7) : ∃ x : Int, (#[.int .i64 (40 + (R21 : Int)), .int .i64 49, .int .i64 50, .int .i64 51, .int .i64 99, .int .i64 100, .int .i64 101] : Array Value)[k]? = some (.int .i64 x) ∧ 0 ≤ x ∧ x ≤ 200 := by
  rcases (by omega : k = 0 ∨ k = 1 ∨ k = 2 ∨ k = 3 ∨ k = 4 ∨ k = 5 ∨ k = 6) with rfl | rfl | rfl | rfl | rfl | rfl | rfl
  all_goals exact ⟨_, rfl, by omega, by omega⟩
def ak1o0 : Oper := ⟨some 3, .buildSlice 30 3 #[(0, .const (.string { data := #[97, 110, 110] })), (1, .const (.string { data := #[98, 111, 98] })), (2, .const (.string { data := #[97, 108] }))], 30, "l09_policy.go:343", #[], none⟩
def ak1o1 : Oper := ⟨some 4, .move (.tmp 0), 35, "l09_policy.go:343", #[], none⟩
def ak1o2 : Oper := ⟨some 5, .call { callee := .value (.func 12), args := #[.tmp 4, .const (.int .i64 3)], argTypes := #[35, 2] }, 2, "l09_policy.go:343", #[⟨1, .data⟩], none⟩
def ak1o3 : Oper := ⟨some 6, .indexAddr 30 (.tmp 3) (.tmp 5), 0, "l09_policy.go:343", #[⟨0, .data⟩, ⟨2, .data⟩], none⟩
def ak1o4 : Oper := ⟨some 7, .load 9 (.tmp 6), 9, "l09_policy.go:343", #[⟨3, .data⟩], none⟩
def ak1o5 : Oper := ⟨some 8, .buildSlice 30 4 #[(0, .const (.string { data := #[103, 101, 116] })), (1, .const (.string { data := #[112, 117, 116] })), (2, .const (.string { data := #[108, 105, 115, 116] })), (3, .const (.string { data := #[100, 101, 108, 101, 116, 101] }))], 30, "l09_policy.go:343", #[], none⟩
def ak1o6 : Oper := ⟨some 9, .move (.tmp 0), 35, "l09_policy.go:343", #[], none⟩
def ak1o7 : Oper := ⟨some 10, .call { callee := .value (.func 12), args := #[.tmp 9, .const (.int .i64 4)], argTypes := #[35, 2] }, 2, "l09_policy.go:343", #[⟨6, .data⟩, ⟨2, .chain⟩], none⟩
def ak1o8 : Oper := ⟨some 11, .indexAddr 30 (.tmp 8) (.tmp 10), 0, "l09_policy.go:343", #[⟨5, .data⟩, ⟨7, .data⟩], none⟩
def ak1o9 : Oper := ⟨some 12, .load 9 (.tmp 11), 9, "l09_policy.go:343", #[⟨8, .data⟩], none⟩
def ak1o10 : Oper := ⟨some 13, .buildSlice 30 4 #[(0, .const (.string { data := #[98, 47, 120] })), (1, .const (.string { data := #[98, 47, 97, 47, 99] })), (2, .const (.string { data := #[99, 47, 100] })), (3, .const (.string { data := #[98, 47] }))], 30, "l09_policy.go:343", #[], none⟩
def ak1o11 : Oper := ⟨some 14, .move (.tmp 0), 35, "l09_policy.go:343", #[], none⟩
def ak1o12 : Oper := ⟨some 15, .call { callee := .value (.func 12), args := #[.tmp 14, .const (.int .i64 4)], argTypes := #[35, 2] }, 2, "l09_policy.go:343", #[⟨11, .data⟩, ⟨7, .chain⟩], none⟩
def ak1o13 : Oper := ⟨some 16, .indexAddr 30 (.tmp 13) (.tmp 15), 0, "l09_policy.go:343", #[⟨10, .data⟩, ⟨12, .data⟩], none⟩
def ak1o14 : Oper := ⟨some 17, .load 9 (.tmp 16), 9, "l09_policy.go:343", #[⟨13, .data⟩], none⟩
def ak1o15 : Oper := ⟨some 18, .buildSlice 30 3 #[(0, .const (.string { data := #[49, 48, 46, 49] })), (1, .const (.string { data := #[49, 49, 46, 49] })), (2, .const (.string { data := #[] }))], 30, "l09_policy.go:343", #[], none⟩
def ak1o16 : Oper := ⟨some 19, .move (.tmp 0), 35, "l09_policy.go:343", #[], none⟩
def ak1o17 : Oper := ⟨some 20, .call { callee := .value (.func 12), args := #[.tmp 19, .const (.int .i64 3)], argTypes := #[35, 2] }, 2, "l09_policy.go:343", #[⟨16, .data⟩, ⟨12, .chain⟩], none⟩
def ak1o18 : Oper := ⟨some 21, .indexAddr 30 (.tmp 18) (.tmp 20), 0, "l09_policy.go:343", #[⟨15, .data⟩, ⟨17, .data⟩], none⟩
def ak1o19 : Oper := ⟨some 22, .load 9 (.tmp 21), 9, "l09_policy.go:343", #[⟨18, .data⟩], none⟩
def ak1o20 : Oper := ⟨some 23, .move (.tmp 0), 35, "l09_policy.go:343", #[], none⟩
def ak1o21 : Oper := ⟨some 24, .call { callee := .value (.func 12), args := #[.tmp 23, .const (.int .i64 80)], argTypes := #[35, 2] }, 2, "l09_policy.go:343", #[⟨20, .data⟩, ⟨17, .chain⟩], none⟩
def ak1o22 : Oper := ⟨some 25, .binOp .add 2 (.const (.int .i64 40)) (.tmp 24) 2, 2, "l09_policy.go:343", #[⟨21, .data⟩], none⟩
def ak1o23 : Oper := ⟨some 26, .buildSlice 52 7 #[(0, .tmp 25), (1, .const (.int .i64 49)), (2, .const (.int .i64 50)), (3, .const (.int .i64 51)), (4, .const (.int .i64 99)), (5, .const (.int .i64 100)), (6, .const (.int .i64 101))], 52, "l09_policy.go:343", #[⟨22, .data⟩], none⟩
def ak1o24 : Oper := ⟨some 27, .move (.tmp 0), 35, "l09_policy.go:343", #[], none⟩
def ak1o25 : Oper := ⟨some 28, .call { callee := .value (.func 12), args := #[.tmp 27, .const (.int .i64 7)], argTypes := #[35, 2] }, 2, "l09_policy.go:343", #[⟨24, .data⟩, ⟨21, .chain⟩], none⟩
def ak1o26 : Oper := ⟨some 29, .indexAddr 52 (.tmp 26) (.tmp 28), 0, "l09_policy.go:343", #[⟨23, .data⟩, ⟨25, .data⟩], none⟩
def ak1o27 : Oper := ⟨some 30, .load 2 (.tmp 29), 2, "l09_policy.go:343", #[⟨26, .data⟩], none⟩
def ak1o28 : Oper := ⟨some 31, .build 25 #[(0, .tmp 7), (1, .tmp 12), (2, .tmp 17), (3, .tmp 22), (4, .tmp 30)], 25, "l09_policy.go:343", #[⟨4, .data⟩, ⟨9, .data⟩, ⟨14, .data⟩, ⟨19, .data⟩, ⟨27, .data⟩], none⟩
def ak1o29 : Oper := ⟨none, .store 25 (.tmp 2) (.tmp 31), 0, "l09_policy.go:343", #[⟨28, .data⟩, ⟨25, .chain⟩, ⟨0, .phase⟩, ⟨1, .phase⟩, ⟨2, .phase⟩, ⟨3, .phase⟩, ⟨4, .phase⟩, ⟨5, .phase⟩, ⟨6, .phase⟩, ⟨7, .phase⟩, ⟨8, .phase⟩, ⟨9, .phase⟩, ⟨10, .phase⟩, ⟨11, .phase⟩, ⟨12, .phase⟩, ⟨13, .phase⟩, ⟨14, .phase⟩, ⟨15, .phase⟩, ⟨16, .phase⟩, ⟨17, .phase⟩, ⟨18, .phase⟩, ⟨19, .phase⟩, ⟨20, .phase⟩, ⟨21, .phase⟩, ⟨22, .phase⟩, ⟨23, .phase⟩, ⟨24, .phase⟩, ⟨25, .phase⟩, ⟨26, .phase⟩, ⟨27, .phase⟩, ⟨28, .phase⟩], none⟩
def ak1O : Array Oper := #[ak1o0, ak1o1, ak1o2, ak1o3, ak1o4, ak1o5, ak1o6, ak1o7, ak1o8, ak1o9, ak1o10, ak1o11, ak1o12, ak1o13, ak1o14, ak1o15, ak1o16, ak1o17, ak1o18, ak1o19, ak1o20, ak1o21, ak1o22, ak1o23, ak1o24, ak1o25, ak1o26, ak1o27, ak1o28, ak1o29]
structure ak1P where
  (W0 W1 : World)
  (c : Nat)
  (a : Option Addr)
  (len cap p XB : Nat)
  (s1 s3 s4 s5 s6 s7 s8 s9 s10 s11 s12 s13 s14 s15 s16 s17 s18 s19 s20 s21 s22 s23 s24 s25 s26 s27 s28 s29 s30 s31 : Value)
def ak1T (P : ak1P) (X0 : Nat) (X5 : Nat) (X10 : Nat) (X15 : Nat) (X23 : Nat) (R2 : Nat) (R7 : Nat) (R12 : Nat) (R17 : Nat) (R21 : Nat) (R25 : Nat) (x4 : ByteArray) (x9 : ByteArray) (x14 : ByteArray) (x19 : ByteArray) (tm : Int) (pp : Nat) (b0 b1 b2 b3 b4 b5 b6 b7 b8 b9 b10 b11 b12 b13 b14 b15 b16 b17 b18 b19 b20 b21 b22 b23 b24 b25 b26 b27 b28 b29 : Bool) : Array Value := #[.pointer (some ⟨P.c, 0, none⟩), P.s1, .pointer (some ⟨P.XB, 0, none⟩), sel b0 (.slice (some ⟨X0, 0, none⟩) 3 3) (P.s3), sel b1 (.pointer (some ⟨P.c, 0, none⟩)) (P.s4), sel b2 (.int .i64 (R2 : Int)) (P.s5), sel b3 (.pointer (some ⟨X0, R2, none⟩)) (P.s6), sel b4 (.string x4) (P.s7), sel b5 (.slice (some ⟨X5, 0, none⟩) 4 4) (P.s8), sel b6 (.pointer (some ⟨P.c, 0, none⟩)) (P.s9), sel b7 (.int .i64 (R7 : Int)) (P.s10), sel b8 (.pointer (some ⟨X5, R7, none⟩)) (P.s11), sel b9 (.string x9) (P.s12), sel b10 (.slice (some ⟨X10, 0, none⟩) 4 4) (P.s13), sel b11 (.pointer (some ⟨P.c, 0, none⟩)) (P.s14), sel b12 (.int .i64 (R12 : Int)) (P.s15), sel b13 (.pointer (some ⟨X10, R12, none⟩)) (P.s16), sel b14 (.string x14) (P.s17), sel b15 (.slice (some ⟨X15, 0, none⟩) 3 3) (P.s18), sel b16 (.pointer (some ⟨P.c, 0, none⟩)) (P.s19), sel b17 (.int .i64 (R17 : Int)) (P.s20), sel b18 (.pointer (some ⟨X15, R17, none⟩)) (P.s21), sel b19 (.string x19) (P.s22), sel b20 (.pointer (some ⟨P.c, 0, none⟩)) (P.s23), sel b21 (.int .i64 (R21 : Int)) (P.s24), sel b22 (.int .i64 (40 + (R21 : Int))) (P.s25), sel b23 (.slice (some ⟨X23, 0, none⟩) 7 7) (P.s26), sel b24 (.pointer (some ⟨P.c, 0, none⟩)) (P.s27), sel b25 (.int .i64 (R25 : Int)) (P.s28), sel b26 (.pointer (some ⟨X23, R25, none⟩)) (P.s29), sel b27 (.int .i64 tm) (P.s30), sel b28 (.agg #[.string x4, .string x9, .string x14, .string x19, .int .i64 tm]) (P.s31)]
def ak1F (P : ak1P) (X0 : Nat) (X5 : Nat) (X10 : Nat) (X15 : Nat) (X23 : Nat) (R2 : Nat) (R7 : Nat) (R12 : Nat) (R17 : Nat) (R21 : Nat) (R25 : Nat) (x4 : ByteArray) (x9 : ByteArray) (x14 : ByteArray) (x19 : ByteArray) (tm : Int) (pp : Nat) (b0 b1 b2 b3 b4 b5 b6 b7 b8 b9 b10 b11 b12 b13 b14 b15 b16 b17 b18 b19 b20 b21 b22 b23 b24 b25 b26 b27 b28 b29 : Bool) (w : World) : Prop := (Src P.W0 w P.c P.a P.len P.cap pp) ∧ (pp ≤ P.p + 40 * (b2.toNat + b7.toNat + b12.toNat + b17.toNat + b21.toNat + b25.toNat)) ∧ (P.W1.grownBy w (some P.c)) ∧ (P.c < P.W1.heap.size ∧ P.W1.heap.size ≤ P.XB) ∧ (RowAt w P.XB 25 (cond b29 #[.string x4, .string x9, .string x14, .string x19, .int .i64 tm] #[.string ⟨#[]⟩, .string ⟨#[]⟩, .string ⟨#[]⟩, .string ⟨#[]⟩, .int .i64 0])) ∧ (b0 = true → b29 = false → RowAt w X0 9 #[.string ⟨#[97, 110, 110]⟩, .string ⟨#[98, 111, 98]⟩, .string ⟨#[97, 108]⟩] ∧ P.W1.heap.size ≤ X0) ∧ (b5 = true → b29 = false → RowAt w X5 9 #[.string ⟨#[103, 101, 116]⟩, .string ⟨#[112, 117, 116]⟩, .string ⟨#[108, 105, 115, 116]⟩, .string ⟨#[100, 101, 108, 101, 116, 101]⟩] ∧ P.W1.heap.size ≤ X5) ∧ (b10 = true → b29 = false → RowAt w X10 9 #[.string ⟨#[98, 47, 120]⟩, .string ⟨#[98, 47, 97, 47, 99]⟩, .string ⟨#[99, 47, 100]⟩, .string ⟨#[98, 47]⟩] ∧ P.W1.heap.size ≤ X10) ∧ (b15 = true → b29 = false → RowAt w X15 9 #[.string ⟨#[49, 48, 46, 49]⟩, .string ⟨#[49, 49, 46, 49]⟩, .string ⟨#[]⟩] ∧ P.W1.heap.size ≤ X15) ∧ (b23 = true → b29 = false → RowAt w X23 2 #[.int .i64 (40 + (R21 : Int)), .int .i64 49, .int .i64 50, .int .i64 51, .int .i64 99, .int .i64 100, .int .i64 101] ∧ P.W1.heap.size ≤ X23) ∧ (b2 = true → R2 < 3) ∧ (b7 = true → R7 < 4) ∧ (b12 = true → R12 < 4) ∧ (b17 = true → R17 < 3) ∧ (b21 = true → R21 < 80) ∧ (b25 = true → R25 < 7) ∧ (b4 = true → x4.size ≤ 3) ∧ (b9 = true → x9.size ≤ 6) ∧ (b14 = true → x14.size ≤ 5) ∧ (b19 = true → x19.size ≤ 4) ∧ (b27 = true → 0 ≤ tm ∧ tm ≤ 200) ∧ (P.p ≤ 900000)
def ak1I (P : ak1P) (l : Array Bool) (f : Act) (w : World) : Prop :=
  ∃ (b0 b1 b2 b3 b4 b5 b6 b7 b8 b9 b10 b11 b12 b13 b14 b15 b16 b17 b18 b19 b20 b21 b22 b23 b24 b25 b26 b27 b28 b29 : Bool) (X0 : Nat) (X5 : Nat) (X10 : Nat) (X15 : Nat) (X23 : Nat) (R2 : Nat) (R7 : Nat) (R12 : Nat) (R17 : Nat) (R21 : Nat) (R25 : Nat) (x4 : ByteArray) (x9 : ByteArray) (x14 : ByteArray) (x19 : ByteArray) (tm : Int) (pp : Nat), l = #[b0, b1, b2, b3, b4, b5, b6, b7, b8, b9, b10, b11, b12, b13, b14, b15, b16, b17, b18, b19, b20, b21, b22, b23, b24, b25, b26, b27, b28, b29] ∧ f = { tmps := ak1T P X0 X5 X10 X15 X23 R2 R7 R12 R17 R21 R25 x4 x9 x14 x19 tm pp b0 b1 b2 b3 b4 b5 b6 b7 b8 b9 b10 b11 b12 b13 b14 b15 b16 b17 b18 b19 b20 b21 b22 b23 b24 b25 b26 b27 b28 b29, defers := [] } ∧ ak1F P X0 X5 X10 X15 X23 R2 R7 R12 R17 R21 R25 x4 x9 x14 x19 tm pp b0 b1 b2 b3 b4 b5 b6 b7 b8 b9 b10 b11 b12 b13 b14 b15 b16 b17 b18 b19 b20 b21 b22 b23 b24 b25 b26 b27 b28 b29 w
theorem ak1M {P : ak1P} {b0 b1 b2 b3 b4 b5 b6 b7 b8 b9 b10 b11 b12 b13 b14 b15 b16 b17 b18 b19 b20 b21 b22 b23 b24 b25 b26 b27 b28 b29 : Bool} (X0 : Nat) (X5 : Nat) (X10 : Nat) (X15 : Nat) (X23 : Nat) (R2 : Nat) (R7 : Nat) (R12 : Nat) (R17 : Nat) (R21 : Nat) (R25 : Nat) (x4 : ByteArray) (x9 : ByteArray) (x14 : ByteArray) (x19 : ByteArray) (tm : Int) (pp : Nat) {l : Array Bool} {f : Act} {w : World} (hl : l = #[b0, b1, b2, b3, b4, b5, b6, b7, b8, b9, b10, b11, b12, b13, b14, b15, b16, b17, b18, b19, b20, b21, b22, b23, b24, b25, b26, b27, b28, b29]) (hf : f = { tmps := ak1T P X0 X5 X10 X15 X23 R2 R7 R12 R17 R21 R25 x4 x9 x14 x19 tm pp b0 b1 b2 b3 b4 b5 b6 b7 b8 b9 b10 b11 b12 b13 b14 b15 b16 b17 b18 b19 b20 b21 b22 b23 b24 b25 b26 b27 b28 b29, defers := [] }) (h : ak1F P X0 X5 X10 X15 X23 R2 R7 R12 R17 R21 R25 x4 x9 x14 x19 tm pp b0 b1 b2 b3 b4 b5 b6 b7 b8 b9 b10 b11 b12 b13 b14 b15 b16 b17 b18 b19 b20 b21 b22 b23 b24 b25 b26 b27 b28 b29 w) : ak1I P l f w := ⟨b0, b1, b2, b3, b4, b5, b6, b7, b8, b9, b10, b11, b12, b13, b14, b15, b16, b17, b18, b19, b20, b21, b22, b23, b24, b25, b26, b27, b28, b29, X0, X5, X10, X15, X23, R2, R7, R12, R17, R21, R25, x4, x9, x14, x19, tm, pp, hl, hf, h⟩
set_option maxRecDepth 20000 in
set_option maxHeartbeats 20000000 in
theorem ak1_step {Q : Exit → Act → World → Prop} (P : ak1P) (l : Array Bool) (f : Act) (w : World) (hC : Closed ak1O l) (hI : ak1I P l f w) (i : Nat) (h0 : l.getD i true = false) (o : Oper) (ho : ak1O[i]? = some o) (h1 : ∀ e ∈ o.after, Region.binds .any e = true → l.getD e.on false = true) : wpOp Tryd.prog ak1O Q i (ak1I P (l.setIfInBounds i true)) f w := by
  obtain ⟨b0, b1, b2, b3, b4, b5, b6, b7, b8, b9, b10, b11, b12, b13, b14, b15, b16, b17, b18, b19, b20, b21, b22, b23, b24, b25, b26, b27, b28, b29, X0, X5, X10, X15, X23, R2, R7, R12, R17, R21, R25, x4, x9, x14, x19, tm, pp, rfl, rfl, hF⟩ := hI
  have hi : i < 30 := by
    rcases Nat.lt_or_ge i 30 with h | h
    · exact h
    · rw [show ak1O[i]? = none from Array.getElem?_eq_none h] at ho; cases ho
  rcases (by omega : i = 0 ∨ i = 1 ∨ i = 2 ∨ i = 3 ∨ i = 4 ∨ i = 5 ∨ i = 6 ∨ i = 7 ∨ i = 8 ∨ i = 9 ∨ i = 10 ∨ i = 11 ∨ i = 12 ∨ i = 13 ∨ i = 14 ∨ i = 15 ∨ i = 16 ∨ i = 17 ∨ i = 18 ∨ i = 19 ∨ i = 20 ∨ i = 21 ∨ i = 22 ∨ i = 23 ∨ i = 24 ∨ i = 25 ∨ i = 26 ∨ i = 27 ∨ i = 28 ∨ i = 29) with rfl | rfl | rfl | rfl | rfl | rfl | rfl | rfl | rfl | rfl | rfl | rfl | rfl | rfl | rfl | rfl | rfl | rfl | rfl | rfl | rfl | rfl | rfl | rfl | rfl | rfl | rfl | rfl | rfl | rfl
  · obtain rfl : ak1o0 = o := Option.some.inj ho
    obtain rfl : b0 = false := h0
    have hn := wayN_all hC (i := 0) rfl [(3, 0), (4, 3), (28, 4), (29, 0)] [] nk rfl; repeat (obtain ⟨rfl, hn⟩ := hn)
    obtain ⟨hS, hp, hg, hc, hb, hT0, hT5, hT10, hT15, hT23, hR2, hR7, hR12, hR17, hR21, hR25, hx4, hx9, hx14, hx19, htm, hk⟩ := hF
    refine wpOp_step (o := ak1o0) rfl (fun K hK => ?_)
    replace hK := hid hK
    simp only [ak1o0, ak1T, sel_f]
    go_simp
    exact hK.out _ _ (ak1M w.heap.size X5 X10 X15 X23 R2 R7 R12 R17 R21 R25 x4 x9 x14 x19 tm pp rfl rfl ⟨hS.alloc _, hp, grown_al hg _, hc, hb.alloc _, fun _ _ => ⟨RowAt.new w _ _, hg.size⟩, fun h e => ⟨(hT5 h e).1.alloc _, (hT5 h e).2⟩, fun h e => ⟨(hT10 h e).1.alloc _, (hT10 h e).2⟩, fun h e => ⟨(hT15 h e).1.alloc _, (hT15 h e).2⟩, fun h e => ⟨(hT23 h e).1.alloc _, (hT23 h e).2⟩, hR2, hR7, hR12, hR17, hR21, hR25, hx4, hx9, hx14, hx19, htm, hk⟩)
  · obtain rfl : ak1o1 = o := Option.some.inj ho
    obtain rfl : b1 = false := h0
    have hn := wayN_all hC (i := 1) rfl [(2, 1), (3, 2), (4, 3), (7, 2), (8, 7), (9, 8), (12, 7), (13, 12), (14, 13), (17, 12), (18, 17), (19, 18), (21, 17), (22, 21), (23, 22), (25, 21), (26, 23), (27, 26), (28, 4), (29, 1)] [] nk rfl; repeat (obtain ⟨rfl, hn⟩ := hn)
    obtain ⟨hS, hp, hg, hc, hb, hT0, hT5, hT10, hT15, hT23, hR2, hR7, hR12, hR17, hR21, hR25, hx4, hx9, hx14, hx19, htm, hk⟩ := hF
    simp only [Bool.toNat_false] at hp
    refine wpOp_step (o := ak1o1) rfl (fun K hK => ?_)
    replace hK := hid hK
    simp only [ak1o1, ak1T, sel_f]
    go_simp
    exact hK.out _ _ (ak1M X0 X5 X10 X15 X23 R2 R7 R12 R17 R21 R25 x4 x9 x14 x19 tm pp rfl rfl ⟨hS, hp, hg, hc, hb, hT0, hT5, hT10, hT15, hT23, hR2, hR7, hR12, hR17, hR21, hR25, hx4, hx9, hx14, hx19, htm, hk⟩)
  · obtain rfl : ak1o2 = o := Option.some.inj ho
    obtain rfl : b2 = false := h0
    have hn := wayP_all (o := ak1o2) hC h1 [(1, none)] [] nk rfl; repeat (obtain ⟨rfl, hn⟩ := hn)
    have hn := wayN_all hC (i := 2) rfl [(3, 2), (4, 3), (7, 2), (8, 7), (9, 8), (12, 7), (13, 12), (14, 13), (17, 12), (18, 17), (19, 18), (21, 17), (22, 21), (23, 22), (25, 21), (26, 23), (27, 26), (28, 4), (29, 2)] [] nk rfl; repeat (obtain ⟨rfl, hn⟩ := hn)
    obtain ⟨hS, hp, hg, hc, hb, hT0, hT5, hT10, hT15, hT23, hR2, hR7, hR12, hR17, hR21, hR25, hx4, hx9, hx14, hx19, htm, hk⟩ := hF
    simp only [Bool.toNat_false] at hp
    have hc1 := hc.1
    have hc2 := hc.2
    refine wpOp_step (o := ak1o2) rfl (fun K hK => ?_)
    replace hK := hid hK
    simp only [ak1o2, ak1T, sel_t, sel_f]
    go_simp
    refine (n_all P.W0 _ P.c P.a P.len P.cap pp 3 hS (by omega) (by omega) (by omega)).mono ?_
    rintro e w2 ⟨⟨r, rfl, h20, h21⟩, hs2, hg2⟩
    obtain ⟨R, rfl⟩ := Int.eq_ofNat_of_zero_le h20
    dsimp only
    exact hK.out _ _ (ak1M X0 X5 X10 X15 X23 R R7 R12 R17 R21 R25 x4 x9 x14 x19 tm (pp + 1) rfl rfl ⟨hs2, by show pp + 1 ≤ P.p + 40 * (1 + 0 + 0 + 0 + 0 + 0); omega, grown_trans hg hg2, hc, rowF hb hg2 (by omega), fun h e => ⟨rowF (hT0 h e).1 hg2 (by have := (hT0 h e).2; omega), (hT0 h e).2⟩, fun h e => ⟨rowF (hT5 h e).1 hg2 (by have := (hT5 h e).2; omega), (hT5 h e).2⟩, fun h e => ⟨rowF (hT10 h e).1 hg2 (by have := (hT10 h e).2; omega), (hT10 h e).2⟩, fun h e => ⟨rowF (hT15 h e).1 hg2 (by have := (hT15 h e).2; omega), (hT15 h e).2⟩, fun h => Bool.noConfusion h, fun _ => by omega, hR7, hR12, hR17, hR21, hR25, hx4, hx9, hx14, hx19, htm, hk⟩)
  · obtain rfl : ak1o3 = o := Option.some.inj ho
    obtain rfl : b3 = false := h0
    have hn := wayP_all (o := ak1o3) hC h1 [(2, none), (0, none), (1, some 2)] [] nk rfl; repeat (obtain ⟨rfl, hn⟩ := hn)
    have hn := wayN_all hC (i := 3) rfl [(4, 3), (28, 4), (29, 3)] [] nk rfl; repeat (obtain ⟨rfl, hn⟩ := hn)
    obtain ⟨hS, hp, hg, hc, hb, hT0, hT5, hT10, hT15, hT23, hR2, hR7, hR12, hR17, hR21, hR25, hx4, hx9, hx14, hx19, htm, hk⟩ := hF
    simp only [Bool.toNat_true] at hp
    have r := hR2 rfl
    have r0 : (R2 : Int) < 3 := by omega
    refine wpOp_step (o := ak1o3) rfl (fun K hK => ?_)
    replace hK := hid hK
    simp only [ak1o3, ak1T, sel_t, sel_f]
    go_simp
    exact hK.out _ _ (ak1M X0 X5 X10 X15 X23 R2 R7 R12 R17 R21 R25 x4 x9 x14 x19 tm pp rfl rfl ⟨hS, hp, hg, hc, hb, hT0, hT5, hT10, hT15, hT23, hR2, hR7, hR12, hR17, hR21, hR25, hx4, hx9, hx14, hx19, htm, hk⟩)
  · obtain rfl : ak1o4 = o := Option.some.inj ho
    obtain rfl : b4 = false := h0
    have hn := wayP_all (o := ak1o4) hC h1 [(3, none), (0, some 3), (2, some 3), (1, some 2)] [] nk rfl; repeat (obtain ⟨rfl, hn⟩ := hn)
    have hn := wayN_all hC (i := 4) rfl [(28, 4), (29, 4)] [] nk rfl; repeat (obtain ⟨rfl, hn⟩ := hn)
    obtain ⟨hS, hp, hg, hc, hb, hT0, hT5, hT10, hT15, hT23, hR2, hR7, hR12, hR17, hR21, hR25, hx4, hx9, hx14, hx19, htm, hk⟩ := hF
    simp only [Bool.toNat_true] at hp
    obtain ⟨k2, hk2, hkk⟩ := ak1_tab0 R2 (hR2 rfl)
    have c2 := ((hT0 rfl rfl).1.cell R2).trans hk2
    refine wpOp_step (o := ak1o4) rfl (fun K hK => ?_)
    replace hK := hid hK
    simp only [ak1o4, ak1T, sel_t, sel_f]
    go_simp
    exact hK.out _ _ (ak1M X0 X5 X10 X15 X23 R2 R7 R12 R17 R21 R25 k2 x9 x14 x19 tm pp rfl rfl ⟨hS, hp, hg, hc, hb, hT0, hT5, hT10, hT15, hT23, hR2, hR7, hR12, hR17, hR21, hR25, fun _ => hkk, hx9, hx14, hx19, htm, hk⟩)
  · obtain rfl : ak1o5 = o := Option.some.inj ho
    obtain rfl : b5 = false := h0
    have hn := wayN_all hC (i := 5) rfl [(8, 5), (9, 8), (28, 9), (29, 5)] [] nk rfl; repeat (obtain ⟨rfl, hn⟩ := hn)
    obtain ⟨hS, hp, hg, hc, hb, hT0, hT5, hT10, hT15, hT23, hR2, hR7, hR12, hR17, hR21, hR25, hx4, hx9, hx14, hx19, htm, hk⟩ := hF
    refine wpOp_step (o := ak1o5) rfl (fun K hK => ?_)
    replace hK := hid hK
    simp only [ak1o5, ak1T, sel_f]
    go_simp
    exact hK.out _ _ (ak1M X0 w.heap.size X10 X15 X23 R2 R7 R12 R17 R21 R25 x4 x9 x14 x19 tm pp rfl rfl ⟨hS.alloc _, hp, grown_al hg _, hc, hb.alloc _, fun h e => ⟨(hT0 h e).1.alloc _, (hT0 h e).2⟩, fun _ _ => ⟨RowAt.new w _ _, hg.size⟩, fun h e => ⟨(hT10 h e).1.alloc _, (hT10 h e).2⟩, fun h e => ⟨(hT15 h e).1.alloc _, (hT15 h e).2⟩, fun h e => ⟨(hT23 h e).1.alloc _, (hT23 h e).2⟩, hR2, hR7, hR12, hR17, hR21, hR25, hx4, hx9, hx14, hx19, htm, hk⟩)
  · obtain rfl : ak1o6 = o := Option.some.inj ho
    obtain rfl : b6 = false := h0
    have hn := wayN_all hC (i := 6) rfl [(7, 6), (8, 7), (9, 8), (12, 7), (13, 12), (14, 13), (17, 12), (18, 17), (19, 18), (21, 17), (22, 21), (23, 22), (25, 21), (26, 23), (27, 26), (28, 9), (29, 6)] [] nk rfl; repeat (obtain ⟨rfl, hn⟩ := hn)
    obtain ⟨hS, hp, hg, hc, hb, hT0, hT5, hT10, hT15, hT23, hR2, hR7, hR12, hR17, hR21, hR25, hx4, hx9, hx14, hx19, htm, hk⟩ := hF
    simp only [Bool.toNat_false] at hp
    refine wpOp_step (o := ak1o6) rfl (fun K hK => ?_)
    replace hK := hid hK
    simp only [ak1o6, ak1T, sel_f]
    go_simp
    exact hK.out _ _ (ak1M X0 X5 X10 X15 X23 R2 R7 R12 R17 R21 R25 x4 x9 x14 x19 tm pp rfl rfl ⟨hS, hp, hg, hc, hb, hT0, hT5, hT10, hT15, hT23, hR2, hR7, hR12, hR17, hR21, hR25, hx4, hx9, hx14, hx19, htm, hk⟩)
  · obtain rfl : ak1o7 = o := Option.some.inj ho
    obtain rfl : b7 = false := h0
    have hn := wayP_all (o := ak1o7) hC h1 [(6, none), (2, none), (1, some 2)] [] nk rfl; repeat (obtain ⟨rfl, hn⟩ := hn)
    have hn := wayN_all hC (i := 7) rfl [(8, 7), (9, 8), (12, 7), (13, 12), (14, 13), (17, 12), (18, 17), (19, 18), (21, 17), (22, 21), (23, 22), (25, 21), (26, 23), (27, 26), (28, 9), (29, 7)] [] nk rfl; repeat (obtain ⟨rfl, hn⟩ := hn)
    obtain ⟨hS, hp, hg, hc, hb, hT0, hT5, hT10, hT15, hT23, hR2, hR7, hR12, hR17, hR21, hR25, hx4, hx9, hx14, hx19, htm, hk⟩ := hF
    simp only [Bool.toNat_true, Bool.toNat_false] at hp
    have hc1 := hc.1
    have hc2 := hc.2
    refine wpOp_step (o := ak1o7) rfl (fun K hK => ?_)
    replace hK := hid hK
    simp only [ak1o7, ak1T, sel_t, sel_f]
    go_simp
    refine (n_all P.W0 _ P.c P.a P.len P.cap pp 4 hS (by omega) (by omega) (by omega)).mono ?_
    rintro e w2 ⟨⟨r, rfl, h20, h21⟩, hs2, hg2⟩
    obtain ⟨R, rfl⟩ := Int.eq_ofNat_of_zero_le h20
    dsimp only
    exact hK.out _ _ (ak1M X0 X5 X10 X15 X23 R2 R R12 R17 R21 R25 x4 x9 x14 x19 tm (pp + 1) rfl rfl ⟨hs2, by show pp + 1 ≤ P.p + 40 * (1 + 1 + 0 + 0 + 0 + 0); omega, grown_trans hg hg2, hc, rowF hb hg2 (by omega), fun h e => ⟨rowF (hT0 h e).1 hg2 (by have := (hT0 h e).2; omega), (hT0 h e).2⟩, fun h e => ⟨rowF (hT5 h e).1 hg2 (by have := (hT5 h e).2; omega), (hT5 h e).2⟩, fun h e => ⟨rowF (hT10 h e).1 hg2 (by have := (hT10 h e).2; omega), (hT10 h e).2⟩, fun h e => ⟨rowF (hT15 h e).1 hg2 (by have := (hT15 h e).2; omega), (hT15 h e).2⟩, fun h => Bool.noConfusion h, hR2, fun _ => by omega, hR12, hR17, hR21, hR25, hx4, hx9, hx14, hx19, htm, hk⟩)
  · obtain rfl : ak1o8 = o := Option.some.inj ho
    obtain rfl : b8 = false := h0
    have hn := wayP_all (o := ak1o8) hC h1 [(7, none), (5, none), (2, some 7), (6, some 7), (1, some 2)] [] nk rfl; repeat (obtain ⟨rfl, hn⟩ := hn)
    have hn := wayN_all hC (i := 8) rfl [(9, 8), (28, 9), (29, 8)] [] nk rfl; repeat (obtain ⟨rfl, hn⟩ := hn)
    obtain ⟨hS, hp, hg, hc, hb, hT0, hT5, hT10, hT15, hT23, hR2, hR7, hR12, hR17, hR21, hR25, hx4, hx9, hx14, hx19, htm, hk⟩ := hF
    simp only [Bool.toNat_true] at hp
    have r := hR7 rfl
    have r0 : (R7 : Int) < 4 := by omega
    refine wpOp_step (o := ak1o8) rfl (fun K hK => ?_)
    replace hK := hid hK
    simp only [ak1o8, ak1T, sel_t, sel_f]
    go_simp
    exact hK.out _ _ (ak1M X0 X5 X10 X15 X23 R2 R7 R12 R17 R21 R25 x4 x9 x14 x19 tm pp rfl rfl ⟨hS, hp, hg, hc, hb, hT0, hT5, hT10, hT15, hT23, hR2, hR7, hR12, hR17, hR21, hR25, hx4, hx9, hx14, hx19, htm, hk⟩)
  · obtain rfl : ak1o9 = o := Option.some.inj ho
    obtain rfl : b9 = false := h0
    have hn := wayP_all (o := ak1o9) hC h1 [(8, none), (5, some 8), (7, some 8), (2, some 7), (6, some 7), (1, some 2)] [] nk rfl; repeat (obtain ⟨rfl, hn⟩ := hn)
    have hn := wayN_all hC (i := 9) rfl [(28, 9), (29, 9)] [] nk rfl; repeat (obtain ⟨rfl, hn⟩ := hn)
    obtain ⟨hS, hp, hg, hc, hb, hT0, hT5, hT10, hT15, hT23, hR2, hR7, hR12, hR17, hR21, hR25, hx4, hx9, hx14, hx19, htm, hk⟩ := hF
    simp only [Bool.toNat_true] at hp
    obtain ⟨k2, hk2, hkk⟩ := ak1_tab5 R7 (hR7 rfl)
    have c2 := ((hT5 rfl rfl).1.cell R7).trans hk2
    refine wpOp_step (o := ak1o9) rfl (fun K hK => ?_)
    replace hK := hid hK
    simp only [ak1o9, ak1T, sel_t, sel_f]
    go_simp
    exact hK.out _ _ (ak1M X0 X5 X10 X15 X23 R2 R7 R12 R17 R21 R25 x4 k2 x14 x19 tm pp rfl rfl ⟨hS, hp, hg, hc, hb, hT0, hT5, hT10, hT15, hT23, hR2, hR7, hR12, hR17, hR21, hR25, hx4, fun _ => hkk, hx14, hx19, htm, hk⟩)
  · obtain rfl : ak1o10 = o := Option.some.inj ho
    obtain rfl : b10 = false := h0
    have hn := wayN_all hC (i := 10) rfl [(13, 10), (14, 13), (28, 14), (29, 10)] [] nk rfl; repeat (obtain ⟨rfl, hn⟩ := hn)
    obtain ⟨hS, hp, hg, hc, hb, hT0, hT5, hT10, hT15, hT23, hR2, hR7, hR12, hR17, hR21, hR25, hx4, hx9, hx14, hx19, htm, hk⟩ := hF
    refine wpOp_step (o := ak1o10) rfl (fun K hK => ?_)
    replace hK := hid hK
    simp only [ak1o10, ak1T, sel_f]
    go_simp
    exact hK.out _ _ (ak1M X0 X5 w.heap.size X15 X23 R2 R7 R12 R17 R21 R25 x4 x9 x14 x19 tm pp rfl rfl ⟨hS.alloc _, hp, grown_al hg _, hc, hb.alloc _, fun h e => ⟨(hT0 h e).1.alloc _, (hT0 h e).2⟩, fun h e => ⟨(hT5 h e).1.alloc _, (hT5 h e).2⟩, fun _ _ => ⟨RowAt.new w _ _, hg.size⟩, fun h e => ⟨(hT15 h e).1.alloc _, (hT15 h e).2⟩, fun h e => ⟨(hT23 h e).1.alloc _, (hT23 h e).2⟩, hR2, hR7, hR12, hR17, hR21, hR25, hx4, hx9, hx14, hx19, htm, hk⟩)
  · obtain rfl : ak1o11 = o := Option.some.inj ho
    obtain rfl : b11 = false := h0
    have hn := wayN_all hC (i := 11) rfl [(12, 11), (13, 12), (14, 13), (17, 12), (18, 17), (19, 18), (21, 17), (22, 21), (23, 22), (25, 21), (26, 23), (27, 26), (28, 14), (29, 11)] [] nk rfl; repeat (obtain ⟨rfl, hn⟩ := hn)
    obtain ⟨hS, hp, hg, hc, hb, hT0, hT5, hT10, hT15, hT23, hR2, hR7, hR12, hR17, hR21, hR25, hx4, hx9, hx14, hx19, htm, hk⟩ := hF
    simp only [Bool.toNat_false] at hp
    refine wpOp_step (o := ak1o11) rfl (fun K hK => ?_)
    replace hK := hid hK
    simp only [ak1o11, ak1T, sel_f]
    go_simp
    exact hK.out _ _ (ak1M X0 X5 X10 X15 X23 R2 R7 R12 R17 R21 R25 x4 x9 x14 x19 tm pp rfl rfl ⟨hS, hp, hg, hc, hb, hT0, hT5, hT10, hT15, hT23, hR2, hR7, hR12, hR17, hR21, hR25, hx4, hx9, hx14, hx19, htm, hk⟩)
  · obtain rfl : ak1o12 = o := Option.some.inj ho
    obtain rfl : b12 = false := h0
    have hn := wayP_all (o := ak1o12) hC h1 [(11, none), (7, none), (2, some 7), (6, some 7), (1, some 2)] [] nk rfl; repeat (obtain ⟨rfl, hn⟩ := hn)
    have hn := wayN_all hC (i := 12) rfl [(13, 12), (14, 13), (17, 12), (18, 17), (19, 18), (21, 17), (22, 21), (23, 22), (25, 21), (26, 23), (27, 26), (28, 14), (29, 12)] [] nk rfl; repeat (obtain ⟨rfl, hn⟩ := hn)
    obtain ⟨hS, hp, hg, hc, hb, hT0, hT5, hT10, hT15, hT23, hR2, hR7, hR12, hR17, hR21, hR25, hx4, hx9, hx14, hx19, htm, hk⟩ := hF
    simp only [Bool.toNat_true, Bool.toNat_false] at hp
    have hc1 := hc.1
    have hc2 := hc.2
    refine wpOp_step (o := ak1o12) rfl (fun K hK => ?_)
    replace hK := hid hK
    simp only [ak1o12, ak1T, sel_t, sel_f]
    go_simp
    refine (n_all P.W0 _ P.c P.a P.len P.cap pp 4 hS (by omega) (by omega) (by omega)).mono ?_
    rintro e w2 ⟨⟨r, rfl, h20, h21⟩, hs2, hg2⟩
    obtain ⟨R, rfl⟩ := Int.eq_ofNat_of_zero_le h20
    dsimp only
    exact hK.out _ _ (ak1M X0 X5 X10 X15 X23 R2 R7 R R17 R21 R25 x4 x9 x14 x19 tm (pp + 1) rfl rfl ⟨hs2, by show pp + 1 ≤ P.p + 40 * (1 + 1 + 1 + 0 + 0 + 0); omega, grown_trans hg hg2, hc, rowF hb hg2 (by omega), fun h e => ⟨rowF (hT0 h e).1 hg2 (by have := (hT0 h e).2; omega), (hT0 h e).2⟩, fun h e => ⟨rowF (hT5 h e).1 hg2 (by have := (hT5 h e).2; omega), (hT5 h e).2⟩, fun h e => ⟨rowF (hT10 h e).1 hg2 (by have := (hT10 h e).2; omega), (hT10 h e).2⟩, fun h e => ⟨rowF (hT15 h e).1 hg2 (by have := (hT15 h e).2; omega), (hT15 h e).2⟩, fun h => Bool.noConfusion h, hR2, hR7, fun _ => by omega, hR17, hR21, hR25, hx4, hx9, hx14, hx19, htm, hk⟩)
  · obtain rfl : ak1o13 = o := Option.some.inj ho
    obtain rfl : b13 = false := h0
    have hn := wayP_all (o := ak1o13) hC h1 [(12, none), (10, none), (7, some 12), (11, some 12), (2, some 7), (6, some 7), (1, some 2)] [] nk rfl; repeat (obtain ⟨rfl, hn⟩ := hn)
    have hn := wayN_all hC (i := 13) rfl [(14, 13), (28, 14), (29, 13)] [] nk rfl; repeat (obtain ⟨rfl, hn⟩ := hn)
    obtain ⟨hS, hp, hg, hc, hb, hT0, hT5, hT10, hT15, hT23, hR2, hR7, hR12, hR17, hR21, hR25, hx4, hx9, hx14, hx19, htm, hk⟩ := hF
    simp only [Bool.toNat_true] at hp
    have r := hR12 rfl
    have r0 : (R12 : Int) < 4 := by omega
    refine wpOp_step (o := ak1o13) rfl (fun K hK => ?_)
    replace hK := hid hK
    simp only [ak1o13, ak1T, sel_t, sel_f]
    go_simp
    exact hK.out _ _ (ak1M X0 X5 X10 X15 X23 R2 R7 R12 R17 R21 R25 x4 x9 x14 x19 tm pp rfl rfl ⟨hS, hp, hg, hc, hb, hT0, hT5, hT10, hT15, hT23, hR2, hR7, hR12, hR17, hR21, hR25, hx4, hx9, hx14, hx19, htm, hk⟩)
  · obtain rfl : ak1o14 = o := Option.some.inj ho
    obtain rfl : b14 = false := h0
    have hn := wayP_all (o := ak1o14) hC h1 [(13, none), (10, some 13), (12, some 13), (7, some 12), (11, some 12), (2, some 7), (6, some 7), (1, some 2)] [] nk rfl; repeat (obtain ⟨rfl, hn⟩ := hn)
    have hn := wayN_all hC (i := 14) rfl [(28, 14), (29, 14)] [] nk rfl; repeat (obtain ⟨rfl, hn⟩ := hn)
    obtain ⟨hS, hp, hg, hc, hb, hT0, hT5, hT10, hT15, hT23, hR2, hR7, hR12, hR17, hR21, hR25, hx4, hx9, hx14, hx19, htm, hk⟩ := hF
    simp only [Bool.toNat_true] at hp
    obtain ⟨k2, hk2, hkk⟩ := ak1_tab10 R12 (hR12 rfl)
    have c2 := ((hT10 rfl rfl).1.cell R12).trans hk2
    refine wpOp_step (o := ak1o14) rfl (fun K hK => ?_)
    replace hK := hid hK
    simp only [ak1o14, ak1T, sel_t, sel_f]
    go_simp
    exact hK.out _ _ (ak1M X0 X5 X10 X15 X23 R2 R7 R12 R17 R21 R25 x4 x9 k2 x19 tm pp rfl rfl ⟨hS, hp, hg, hc, hb, hT0, hT5, hT10, hT15, hT23, hR2, hR7, hR12, hR17, hR21, hR25, hx4, hx9, fun _ => hkk, hx19, htm, hk⟩)
  · obtain rfl : ak1o15 = o := Option.some.inj ho
    obtain rfl : b15 = false := h0
    have hn := wayN_all hC (i := 15) rfl [(18, 15), (19, 18), (28, 19), (29, 15)] [] nk rfl; repeat (obtain ⟨rfl, hn⟩ := hn)
    obtain ⟨hS, hp, hg, hc, hb, hT0, hT5, hT10, hT15, hT23, hR2, hR7, hR12, hR17, hR21, hR25, hx4, hx9, hx14, hx19, htm, hk⟩ := hF
    refine wpOp_step (o := ak1o15) rfl (fun K hK => ?_)
    replace hK := hid hK
    simp only [ak1o15, ak1T, sel_f]
    go_simp
    exact hK.out _ _ (ak1M X0 X5 X10 w.heap.size X23 R2 R7 R12 R17 R21 R25 x4 x9 x14 x19 tm pp rfl rfl ⟨hS.alloc _, hp, grown_al hg _, hc, hb.alloc _, fun h e => ⟨(hT0 h e).1.alloc _, (hT0 h e).2⟩, fun h e => ⟨(hT5 h e).1.alloc _, (hT5 h e).2⟩, fun h e => ⟨(hT10 h e).1.alloc _, (hT10 h e).2⟩, fun _ _ => ⟨RowAt.new w _ _, hg.size⟩, fun h e => ⟨(hT23 h e).1.alloc _, (hT23 h e).2⟩, hR2, hR7, hR12, hR17, hR21, hR25, hx4, hx9, hx14, hx19, htm, hk⟩)
  · obtain rfl : ak1o16 = o := Option.some.inj ho
    obtain rfl : b16 = false := h0
    have hn := wayN_all hC (i := 16) rfl [(17, 16), (18, 17), (19, 18), (21, 17), (22, 21), (23, 22), (25, 21), (26, 23), (27, 26), (28, 19), (29, 16)] [] nk rfl; repeat (obtain ⟨rfl, hn⟩ := hn)
    obtain ⟨hS, hp, hg, hc, hb, hT0, hT5, hT10, hT15, hT23, hR2, hR7, hR12, hR17, hR21, hR25, hx4, hx9, hx14, hx19, htm, hk⟩ := hF
    simp only [Bool.toNat_false] at hp
    refine wpOp_step (o := ak1o16) rfl (fun K hK => ?_)
    replace hK := hid hK
    simp only [ak1o16, ak1T, sel_f]
    go_simp
    exact hK.out _ _ (ak1M X0 X5 X10 X15 X23 R2 R7 R12 R17 R21 R25 x4 x9 x14 x19 tm pp rfl rfl ⟨hS, hp, hg, hc, hb, hT0, hT5, hT10, hT15, hT23, hR2, hR7, hR12, hR17, hR21, hR25, hx4, hx9, hx14, hx19, htm, hk⟩)
  · obtain rfl : ak1o17 = o := Option.some.inj ho
    obtain rfl : b17 = false := h0
    have hn := wayP_all (o := ak1o17) hC h1 [(16, none), (12, none), (7, some 12), (11, some 12), (2, some 7), (6, some 7), (1, some 2)] [] nk rfl; repeat (obtain ⟨rfl, hn⟩ := hn)
    have hn := wayN_all hC (i := 17) rfl [(18, 17), (19, 18), (21, 17), (22, 21), (23, 22), (25, 21), (26, 23), (27, 26), (28, 19), (29, 17)] [] nk rfl; repeat (obtain ⟨rfl, hn⟩ := hn)
    obtain ⟨hS, hp, hg, hc, hb, hT0, hT5, hT10, hT15, hT23, hR2, hR7, hR12, hR17, hR21, hR25, hx4, hx9, hx14, hx19, htm, hk⟩ := hF
    simp only [Bool.toNat_true, Bool.toNat_false] at hp
    have hc1 := hc.1
    have hc2 := hc.2
    refine wpOp_step (o := ak1o17) rfl (fun K hK => ?_)
    replace hK := hid hK
    simp only [ak1o17, ak1T, sel_t, sel_f]
    go_simp
    refine (n_all P.W0 _ P.c P.a P.len P.cap pp 3 hS (by omega) (by omega) (by omega)).mono ?_
    rintro e w2 ⟨⟨r, rfl, h20, h21⟩, hs2, hg2⟩
    obtain ⟨R, rfl⟩ := Int.eq_ofNat_of_zero_le h20
    dsimp only
    exact hK.out _ _ (ak1M X0 X5 X10 X15 X23 R2 R7 R12 R R21 R25 x4 x9 x14 x19 tm (pp + 1) rfl rfl ⟨hs2, by show pp + 1 ≤ P.p + 40 * (1 + 1 + 1 + 1 + 0 + 0); omega, grown_trans hg hg2, hc, rowF hb hg2 (by omega), fun h e => ⟨rowF (hT0 h e).1 hg2 (by have := (hT0 h e).2; omega), (hT0 h e).2⟩, fun h e => ⟨rowF (hT5 h e).1 hg2 (by have := (hT5 h e).2; omega), (hT5 h e).2⟩, fun h e => ⟨rowF (hT10 h e).1 hg2 (by have := (hT10 h e).2; omega), (hT10 h e).2⟩, fun h e => ⟨rowF (hT15 h e).1 hg2 (by have := (hT15 h e).2; omega), (hT15 h e).2⟩, fun h => Bool.noConfusion h, hR2, hR7, hR12, fun _ => by omega, hR21, hR25, hx4, hx9, hx14, hx19, htm, hk⟩)
  · obtain rfl : ak1o18 = o := Option.some.inj ho
    obtain rfl : b18 = false := h0
    have hn := wayP_all (o := ak1o18) hC h1 [(17, none), (15, none), (12, some 17), (16, some 17), (7, some 12), (11, some 12), (2, some 7), (6, some 7), (1, some 2)] [] nk rfl; repeat (obtain ⟨rfl, hn⟩ := hn)
    have hn := wayN_all hC (i := 18) rfl [(19, 18), (28, 19), (29, 18)] [] nk rfl; repeat (obtain ⟨rfl, hn⟩ := hn)
    obtain ⟨hS, hp, hg, hc, hb, hT0, hT5, hT10, hT15, hT23, hR2, hR7, hR12, hR17, hR21, hR25, hx4, hx9, hx14, hx19, htm, hk⟩ := hF
    simp only [Bool.toNat_true] at hp
    have r := hR17 rfl
    have r0 : (R17 : Int) < 3 := by omega
    refine wpOp_step (o := ak1o18) rfl (fun K hK => ?_)
    replace hK := hid hK
    simp only [ak1o18, ak1T, sel_t, sel_f]
    go_simp
    exact hK.out _ _ (ak1M X0 X5 X10 X15 X23 R2 R7 R12 R17 R21 R25 x4 x9 x14 x19 tm pp rfl rfl ⟨hS, hp, hg, hc, hb, hT0, hT5, hT10, hT15, hT23, hR2, hR7, hR12, hR17, hR21, hR25, hx4, hx9, hx14, hx19, htm, hk⟩)
  · obtain rfl : ak1o19 = o := Option.some.inj ho
    obtain rfl : b19 = false := h0
    have hn := wayP_all (o := ak1o19) hC h1 [(18, none), (15, some 18), (17, some 18), (12, some 17), (16, some 17), (7, some 12), (11, some 12), (2, some 7), (6, some 7), (1, some 2)] [] nk rfl; repeat (obtain ⟨rfl, hn⟩ := hn)
    have hn := wayN_all hC (i := 19) rfl [(28, 19), (29, 19)] [] nk rfl; repeat (obtain ⟨rfl, hn⟩ := hn)
    obtain ⟨hS, hp, hg, hc, hb, hT0, hT5, hT10, hT15, hT23, hR2, hR7, hR12, hR17, hR21, hR25, hx4, hx9, hx14, hx19, htm, hk⟩ := hF
    simp only [Bool.toNat_true] at hp
    obtain ⟨k2, hk2, hkk⟩ := ak1_tab15 R17 (hR17 rfl)
    have c2 := ((hT15 rfl rfl).1.cell R17).trans hk2
    refine wpOp_step (o := ak1o19) rfl (fun K hK => ?_)
    replace hK := hid hK
    simp only [ak1o19, ak1T, sel_t, sel_f]
    go_simp
    exact hK.out _ _ (ak1M X0 X5 X10 X15 X23 R2 R7 R12 R17 R21 R25 x4 x9 x14 k2 tm pp rfl rfl ⟨hS, hp, hg, hc, hb, hT0, hT5, hT10, hT15, hT23, hR2, hR7, hR12, hR17, hR21, hR25, hx4, hx9, hx14, fun _ => hkk, htm, hk⟩)
  · obtain rfl : ak1o20 = o := Option.some.inj ho
    obtain rfl : b20 = false := h0
    have hn := wayN_all hC (i := 20) rfl [(21, 20), (22, 21), (23, 22), (25, 21), (26, 23), (27, 26), (28, 27), (29, 20)] [] nk rfl; repeat (obtain ⟨rfl, hn⟩ := hn)
    obtain ⟨hS, hp, hg, hc, hb, hT0, hT5, hT10, hT15, hT23, hR2, hR7, hR12, hR17, hR21, hR25, hx4, hx9, hx14, hx19, htm, hk⟩ := hF
    simp only [Bool.toNat_false] at hp
    refine wpOp_step (o := ak1o20) rfl (fun K hK => ?_)
    replace hK := hid hK
    simp only [ak1o20, ak1T, sel_f]
    go_simp
    exact hK.out _ _ (ak1M X0 X5 X10 X15 X23 R2 R7 R12 R17 R21 R25 x4 x9 x14 x19 tm pp rfl rfl ⟨hS, hp, hg, hc, hb, hT0, hT5, hT10, hT15, hT23, hR2, hR7, hR12, hR17, hR21, hR25, hx4, hx9, hx14, hx19, htm, hk⟩)
  · obtain rfl : ak1o21 = o := Option.some.inj ho
    obtain rfl : b21 = false := h0
    have hn := wayP_all (o := ak1o21) hC h1 [(20, none), (17, none), (12, some 17), (16, some 17), (7, some 12), (11, some 12), (2, some 7), (6, some 7), (1, some 2)] [] nk rfl; repeat (obtain ⟨rfl, hn⟩ := hn)
    have hn := wayN_all hC (i := 21) rfl [(22, 21), (23, 22), (25, 21), (26, 23), (27, 26), (28, 27), (29, 21)] [] nk rfl; repeat (obtain ⟨rfl, hn⟩ := hn)
    obtain ⟨hS, hp, hg, hc, hb, hT0, hT5, hT10, hT15, hT23, hR2, hR7, hR12, hR17, hR21, hR25, hx4, hx9, hx14, hx19, htm, hk⟩ := hF
    simp only [Bool.toNat_true, Bool.toNat_false] at hp
    have hc1 := hc.1
    have hc2 := hc.2
    refine wpOp_step (o := ak1o21) rfl (fun K hK => ?_)
    replace hK := hid hK
    simp only [ak1o21, ak1T, sel_t, sel_f]
    go_simp
    refine (n_all P.W0 _ P.c P.a P.len P.cap pp 80 hS (by omega) (by omega) (by omega)).mono ?_
    rintro e w2 ⟨⟨r, rfl, h20, h21⟩, hs2, hg2⟩
    obtain ⟨R, rfl⟩ := Int.eq_ofNat_of_zero_le h20
    dsimp only
    exact hK.out _ _ (ak1M X0 X5 X10 X15 X23 R2 R7 R12 R17 R R25 x4 x9 x14 x19 tm (pp + 1) rfl rfl ⟨hs2, by show pp + 1 ≤ P.p + 40 * (1 + 1 + 1 + 1 + 1 + 0); omega, grown_trans hg hg2, hc, rowF hb hg2 (by omega), fun h e => ⟨rowF (hT0 h e).1 hg2 (by have := (hT0 h e).2; omega), (hT0 h e).2⟩, fun h e => ⟨rowF (hT5 h e).1 hg2 (by have := (hT5 h e).2; omega), (hT5 h e).2⟩, fun h e => ⟨rowF (hT10 h e).1 hg2 (by have := (hT10 h e).2; omega), (hT10 h e).2⟩, fun h e => ⟨rowF (hT15 h e).1 hg2 (by have := (hT15 h e).2; omega), (hT15 h e).2⟩, fun h => Bool.noConfusion h, hR2, hR7, hR12, hR17, fun _ => by omega, hR25, hx4, hx9, hx14, hx19, htm, hk⟩)
  · obtain rfl : ak1o22 = o := Option.some.inj ho
    obtain rfl : b22 = false := h0
    have hn := wayP_all (o := ak1o22) hC h1 [(21, none), (17, some 21), (20, some 21), (12, some 17), (16, some 17), (7, some 12), (11, some 12), (2, some 7), (6, some 7), (1, some 2)] [] nk rfl; repeat (obtain ⟨rfl, hn⟩ := hn)
    have hn := wayN_all hC (i := 22) rfl [(23, 22), (26, 23), (27, 26), (28, 27), (29, 22)] [] nk rfl; repeat (obtain ⟨rfl, hn⟩ := hn)
    obtain ⟨hS, hp, hg, hc, hb, hT0, hT5, hT10, hT15, hT23, hR2, hR7, hR12, hR17, hR21, hR25, hx4, hx9, hx14, hx19, htm, hk⟩ := hF
    simp only [Bool.toNat_true] at hp
    have r := hR21 rfl
    have wz : IntKind.i64.wrap (40 + (R21 : Int)) = 40 + (R21 : Int) := by simp [IntKind.wrap, IntKind.bits, IntKind.signed]; omega
    refine wpOp_step (o := ak1o22) rfl (fun K hK => ?_)
    replace hK := hid hK
    simp only [ak1o22, ak1T, sel_t, sel_f]
    go_simp
    exact hK.out _ _ (ak1M X0 X5 X10 X15 X23 R2 R7 R12 R17 R21 R25 x4 x9 x14 x19 tm pp rfl rfl ⟨hS, hp, hg, hc, hb, hT0, hT5, hT10, hT15, hT23, hR2, hR7, hR12, hR17, hR21, hR25, hx4, hx9, hx14, hx19, htm, hk⟩)
  · obtain rfl : ak1o23 = o := Option.some.inj ho
    obtain rfl : b23 = false := h0
    have hn := wayP_all (o := ak1o23) hC h1 [(22, none), (21, some 22), (17, some 21), (20, some 21), (12, some 17), (16, some 17), (7, some 12), (11, some 12), (2, some 7), (6, some 7), (1, some 2)] [] nk rfl; repeat (obtain ⟨rfl, hn⟩ := hn)
    have hn := wayN_all hC (i := 23) rfl [(26, 23), (27, 26), (28, 27), (29, 23)] [] nk rfl; repeat (obtain ⟨rfl, hn⟩ := hn)
    obtain ⟨hS, hp, hg, hc, hb, hT0, hT5, hT10, hT15, hT23, hR2, hR7, hR12, hR17, hR21, hR25, hx4, hx9, hx14, hx19, htm, hk⟩ := hF
    simp only [Bool.toNat_true] at hp
    refine wpOp_step (o := ak1o23) rfl (fun K hK => ?_)
    replace hK := hid hK
    simp only [ak1o23, ak1T, sel_t, sel_f]
    go_simp
    exact hK.out _ _ (ak1M X0 X5 X10 X15 w.heap.size R2 R7 R12 R17 R21 R25 x4 x9 x14 x19 tm pp rfl rfl ⟨hS.alloc _, hp, grown_al hg _, hc, hb.alloc _, fun h e => ⟨(hT0 h e).1.alloc _, (hT0 h e).2⟩, fun h e => ⟨(hT5 h e).1.alloc _, (hT5 h e).2⟩, fun h e => ⟨(hT10 h e).1.alloc _, (hT10 h e).2⟩, fun h e => ⟨(hT15 h e).1.alloc _, (hT15 h e).2⟩, fun _ _ => ⟨RowAt.new w _ _, hg.size⟩, hR2, hR7, hR12, hR17, hR21, hR25, hx4, hx9, hx14, hx19, htm, hk⟩)
  · obtain rfl : ak1o24 = o := Option.some.inj ho
    obtain rfl : b24 = false := h0
    have hn := wayN_all hC (i := 24) rfl [(25, 24), (26, 25), (27, 26), (28, 27), (29, 24)] [] nk rfl; repeat (obtain ⟨rfl, hn⟩ := hn)
    obtain ⟨hS, hp, hg, hc, hb, hT0, hT5, hT10, hT15, hT23, hR2, hR7, hR12, hR17, hR21, hR25, hx4, hx9, hx14, hx19, htm, hk⟩ := hF
    simp only [Bool.toNat_false] at hp
    refine wpOp_step (o := ak1o24) rfl (fun K hK => ?_)
    replace hK := hid hK
    simp only [ak1o24, ak1T, sel_f]
    go_simp
    exact hK.out _ _ (ak1M X0 X5 X10 X15 X23 R2 R7 R12 R17 R21 R25 x4 x9 x14 x19 tm pp rfl rfl ⟨hS, hp, hg, hc, hb, hT0, hT5, hT10, hT15, hT23, hR2, hR7, hR12, hR17, hR21, hR25, hx4, hx9, hx14, hx19, htm, hk⟩)
  · obtain rfl : ak1o25 = o := Option.some.inj ho
    obtain rfl : b25 = false := h0
    have hn := wayP_all (o := ak1o25) hC h1 [(24, none), (21, none), (17, some 21), (20, some 21), (12, some 17), (16, some 17), (7, some 12), (11, some 12), (2, some 7), (6, some 7), (1, some 2)] [] nk rfl; repeat (obtain ⟨rfl, hn⟩ := hn)
    have hn := wayN_all hC (i := 25) rfl [(26, 25), (27, 26), (28, 27), (29, 25)] [] nk rfl; repeat (obtain ⟨rfl, hn⟩ := hn)
    obtain ⟨hS, hp, hg, hc, hb, hT0, hT5, hT10, hT15, hT23, hR2, hR7, hR12, hR17, hR21, hR25, hx4, hx9, hx14, hx19, htm, hk⟩ := hF
    simp only [Bool.toNat_true, Bool.toNat_false] at hp
    have hc1 := hc.1
    have hc2 := hc.2
    refine wpOp_step (o := ak1o25) rfl (fun K hK => ?_)
    replace hK := hid hK
    simp only [ak1o25, ak1T, sel_t, sel_f]
    go_simp
    refine (n_all P.W0 _ P.c P.a P.len P.cap pp 7 hS (by omega) (by omega) (by omega)).mono ?_
    rintro e w2 ⟨⟨r, rfl, h20, h21⟩, hs2, hg2⟩
    obtain ⟨R, rfl⟩ := Int.eq_ofNat_of_zero_le h20
    dsimp only
    exact hK.out _ _ (ak1M X0 X5 X10 X15 X23 R2 R7 R12 R17 R21 R x4 x9 x14 x19 tm (pp + 1) rfl rfl ⟨hs2, by show pp + 1 ≤ P.p + 40 * (1 + 1 + 1 + 1 + 1 + 1); omega, grown_trans hg hg2, hc, rowF hb hg2 (by omega), fun h e => ⟨rowF (hT0 h e).1 hg2 (by have := (hT0 h e).2; omega), (hT0 h e).2⟩, fun h e => ⟨rowF (hT5 h e).1 hg2 (by have := (hT5 h e).2; omega), (hT5 h e).2⟩, fun h e => ⟨rowF (hT10 h e).1 hg2 (by have := (hT10 h e).2; omega), (hT10 h e).2⟩, fun h e => ⟨rowF (hT15 h e).1 hg2 (by have := (hT15 h e).2; omega), (hT15 h e).2⟩, fun h e => ⟨rowF (hT23 h e).1 hg2 (by have := (hT23 h e).2; omega), (hT23 h e).2⟩, hR2, hR7, hR12, hR17, hR21, fun _ => by omega, hx4, hx9, hx14, hx19, htm, hk⟩)
  · obtain rfl : ak1o26 = o := Option.some.inj ho
    obtain rfl : b26 = false := h0
    have hn := wayP_all (o := ak1o26) hC h1 [(25, none), (23, none), (21, some 25), (24, some 25), (22, some 23), (17, some 21), (20, some 21), (12, some 17), (16, some 17), (7, some 12), (11, some 12), (2, some 7), (6, some 7), (1, some 2)] [] nk rfl; repeat (obtain ⟨rfl, hn⟩ := hn)
    have hn := wayN_all hC (i := 26) rfl [(27, 26), (28, 27), (29, 26)] [] nk rfl; repeat (obtain ⟨rfl, hn⟩ := hn)
    obtain ⟨hS, hp, hg, hc, hb, hT0, hT5, hT10, hT15, hT23, hR2, hR7, hR12, hR17, hR21, hR25, hx4, hx9, hx14, hx19, htm, hk⟩ := hF
    simp only [Bool.toNat_true] at hp
    have r := hR25 rfl
    have r0 : (R25 : Int) < 7 := by omega
    refine wpOp_step (o := ak1o26) rfl (fun K hK => ?_)
    replace hK := hid hK
    simp only [ak1o26, ak1T, sel_t, sel_f]
    go_simp
    exact hK.out _ _ (ak1M X0 X5 X10 X15 X23 R2 R7 R12 R17 R21 R25 x4 x9 x14 x19 tm pp rfl rfl ⟨hS, hp, hg, hc, hb, hT0, hT5, hT10, hT15, hT23, hR2, hR7, hR12, hR17, hR21, hR25, hx4, hx9, hx14, hx19, htm, hk⟩)
  · obtain rfl : ak1o27 = o := Option.some.inj ho
    obtain rfl : b27 = false := h0
    have hn := wayP_all (o := ak1o27) hC h1 [(26, none), (23, some 26), (25, some 26), (21, some 25), (24, some 25), (22, some 23), (17, some 21), (20, some 21), (12, some 17), (16, some 17), (7, some 12), (11, some 12), (2, some 7), (6, some 7), (1, some 2)] [] nk rfl; repeat (obtain ⟨rfl, hn⟩ := hn)
    have hn := wayN_all hC (i := 27) rfl [(28, 27), (29, 27)] [] nk rfl; repeat (obtain ⟨rfl, hn⟩ := hn)
    obtain ⟨hS, hp, hg, hc, hb, hT0, hT5, hT10, hT15, hT23, hR2, hR7, hR12, hR17, hR21, hR25, hx4, hx9, hx14, hx19, htm, hk⟩ := hF
    simp only [Bool.toNat_true] at hp
    obtain ⟨k2, hk2, hkk⟩ := ak1_tab23 R21 (hR21 rfl) R25 (hR25 rfl)
    have c2 := ((hT23 rfl rfl).1.cell R25).trans hk2
    refine wpOp_step (o := ak1o27) rfl (fun K hK => ?_)
    replace hK := hid hK
    simp only [ak1o27, ak1T, sel_t, sel_f]
    go_simp
    exact hK.out _ _ (ak1M X0 X5 X10 X15 X23 R2 R7 R12 R17 R21 R25 x4 x9 x14 x19 k2 pp rfl rfl ⟨hS, hp, hg, hc, hb, hT0, hT5, hT10, hT15, hT23, hR2, hR7, hR12, hR17, hR21, hR25, hx4, hx9, hx14, hx19, fun _ => hkk, hk⟩)
  · obtain rfl : ak1o28 = o := Option.some.inj ho
    obtain rfl : b28 = false := h0
    have hn := wayP_all (o := ak1o28) hC h1 [(27, none), (19, none), (14, none), (9, none), (4, none), (26, some 27), (23, some 26), (25, some 26), (21, some 25), (24, some 25), (22, some 23), (17, some 21), (20, some 21), (18, some 19), (15, some 18), (12, some 17), (16, some 17), (13, some 14), (10, some 13), (7, some 12), (11, some 12), (8, some 9), (5, some 8), (2, some 7), (6, some 7), (3, some 4), (0, some 3), (1, some 2)] [] nk rfl; repeat (obtain ⟨rfl, hn⟩ := hn)
    have hn := wayN_all hC (i := 28) rfl [(29, 28)] [] nk rfl; repeat (obtain ⟨rfl, hn⟩ := hn)
    obtain ⟨hS, hp, hg, hc, hb, hT0, hT5, hT10, hT15, hT23, hR2, hR7, hR12, hR17, hR21, hR25, hx4, hx9, hx14, hx19, htm, hk⟩ := hF
    simp only [Bool.toNat_true] at hp
    refine wpOp_step (o := ak1o28) rfl (fun K hK => ?_)
    replace hK := hid hK
    simp only [ak1o28, ak1T, sel_t, sel_f]
    go_simp
    exact hK.out _ _ (ak1M X0 X5 X10 X15 X23 R2 R7 R12 R17 R21 R25 x4 x9 x14 x19 tm pp rfl rfl ⟨hS, hp, hg, hc, hb, hT0, hT5, hT10, hT15, hT23, hR2, hR7, hR12, hR17, hR21, hR25, hx4, hx9, hx14, hx19, htm, hk⟩)
  · obtain rfl : ak1o29 = o := Option.some.inj ho
    obtain rfl : b29 = false := h0
    have hn := wayP_all (o := ak1o29) hC h1 [(28, none), (27, none), (26, none), (25, none), (24, none), (23, none), (22, none), (21, none), (20, none), (19, none), (18, none), (17, none), (16, none), (15, none), (14, none), (13, none), (12, none), (11, none), (10, none), (9, none), (8, none), (7, none), (6, none), (5, none), (4, none), (3, none), (2, none), (1, none), (0, none)] [] nk rfl; repeat (obtain ⟨rfl, hn⟩ := hn)
    obtain ⟨hS, hp, hg, hc, hb, hT0, hT5, hT10, hT15, hT23, hR2, hR7, hR12, hR17, hR21, hR25, hx4, hx9, hx14, hx19, htm, hk⟩ := hF
    simp only [Bool.toNat_true] at hp
    have RB : RowAt w P.XB 25 #[.string ⟨#[]⟩, .string ⟨#[]⟩, .string ⟨#[]⟩, .string ⟨#[]⟩, .int .i64 0] := hb
    have hc1 := hc.1
    have hc2 := hc.2
    have hcx : P.c < P.XB := by omega
    have q0 := RB.cell 0
    have q1 := RB.cell 1
    have q2 := RB.cell 2
    have q3 := RB.cell 3
    have q4 := RB.cell 4
    have f0 := RB.free 0
    have f1 := RB.free 1
    have f2 := RB.free 2
    have f3 := RB.free 3
    have f4 := RB.free 4
    refine wpOp_step (o := ak1o29) rfl (fun K hK => ?_)
    replace hK := hid hK
    simp only [ak1o29, ak1T, sel_t]
    go_simp
    exact hK.out _ _ (ak1M X0 X5 X10 X15 X23 R2 R7 R12 R17 R21 R25 x4 x9 x14 x19 tm pp rfl rfl ⟨(((((hS.set hcx 0 _).set hcx 1 _).set hcx 2 _).set hcx 3 _).set hcx 4 _), hp, (grown_far (grown_far (grown_far (grown_far (grown_far hg hc.2 0 _) hc.2 1 _) hc.2 2 _) hc.2 3 _) hc.2 4 _), hc, (((((RB.set 0 _).set 1 _).set 2 _).set 3 _).set 4 _), fun h e => Bool.noConfusion e, fun h e => Bool.noConfusion e, fun h e => Bool.noConfusion e, fun h e => Bool.noConfusion e, fun h e => Bool.noConfusion e, hR2, hR7, hR12, hR17, hR21, hR25, hx4, hx9, hx14, hx19, htm, hk⟩)
set_option maxRecDepth 20000 in
set_option maxHeartbeats 4000000 in
theorem ak1_wp {Q : Exit → Act → World → Prop} {rid : Nat} (W0 W1 : World) (c : Nat) (a : Option Addr) (len cap p XB : Nat) {s1 s3 s4 s5 s6 s7 s8 s9 s10 s11 s12 s13 s14 s15 s16 s17 s18 s19 s20 s21 s22 s23 s24 s25 s26 s27 s28 s29 s30 s31 : Value} (w : World) (hS : Src W0 w c a len cap p) (hg : W1.grownBy w (some c)) (hc : c < W1.heap.size ∧ W1.heap.size ≤ XB) (hb : RowAt w XB 25 #[.string ⟨#[]⟩, .string ⟨#[]⟩, .string ⟨#[]⟩, .string ⟨#[]⟩, .int .i64 0]) (hk : p ≤ 900000)
    (fin : ∀ (X0 : Nat) (X5 : Nat) (X10 : Nat) (X15 : Nat) (X23 : Nat) (R2 : Nat) (R7 : Nat) (R12 : Nat) (R17 : Nat) (R21 : Nat) (R25 : Nat) (x4 : ByteArray) (x9 : ByteArray) (x14 : ByteArray) (x19 : ByteArray) (tm : Int) (pp : Nat) (w' : World), (Src W0 w' c a len cap pp) → (pp ≤ p + 40 * (1 + 1 + 1 + 1 + 1 + 1)) → (W1.grownBy w' (some c)) → (c < W1.heap.size ∧ W1.heap.size ≤ XB) → (RowAt w' XB 25 (cond true #[.string x4, .string x9, .string x14, .string x19, .int .i64 tm] #[.string ⟨#[]⟩, .string ⟨#[]⟩, .string ⟨#[]⟩, .string ⟨#[]⟩, .int .i64 0])) → (R2 < 3) → (R7 < 4) → (R12 < 4) → (R17 < 3) → (R21 < 80) → (R25 < 7) → (x4.size ≤ 3) → (x9.size ≤ 6) → (x14.size ≤ 5) → (x19.size ≤ 4) → (0 ≤ tm ∧ tm ≤ 200) → (p ≤ 900000) → Q .normal { tmps := #[.pointer (some ⟨c, 0, none⟩), s1, .pointer (some ⟨XB, 0, none⟩), .slice (some ⟨X0, 0, none⟩) 3 3, .pointer (some ⟨c, 0, none⟩), .int .i64 (R2 : Int), .pointer (some ⟨X0, R2, none⟩), .string x4, .slice (some ⟨X5, 0, none⟩) 4 4, .pointer (some ⟨c, 0, none⟩), .int .i64 (R7 : Int), .pointer (some ⟨X5, R7, none⟩), .string x9, .slice (some ⟨X10, 0, none⟩) 4 4, .pointer (some ⟨c, 0, none⟩), .int .i64 (R12 : Int), .pointer (some ⟨X10, R12, none⟩), .string x14, .slice (some ⟨X15, 0, none⟩) 3 3, .pointer (some ⟨c, 0, none⟩), .int .i64 (R17 : Int), .pointer (some ⟨X15, R17, none⟩), .string x19, .pointer (some ⟨c, 0, none⟩), .int .i64 (R21 : Int), .int .i64 (40 + (R21 : Int)), .slice (some ⟨X23, 0, none⟩) 7 7, .pointer (some ⟨c, 0, none⟩), .int .i64 (R25 : Int), .pointer (some ⟨X23, R25, none⟩), .int .i64 tm, .agg #[.string x4, .string x9, .string x14, .string x19, .int .i64 tm]], defers := [] } w') :
    (Code.region rid ak1O true).wp Tryd.prog Q { tmps := #[.pointer (some ⟨c, 0, none⟩), s1, .pointer (some ⟨XB, 0, none⟩), s3, s4, s5, s6, s7, s8, s9, s10, s11, s12, s13, s14, s15, s16, s17, s18, s19, s20, s21, s22, s23, s24, s25, s26, s27, s28, s29, s30, s31], defers := [] } w := by
  refine wp_region_inv (ops := ak1O) (ak1I ⟨W0, W1, c, a, len, cap, p, XB, s1, s3, s4, s5, s6, s7, s8, s9, s10, s11, s12, s13, s14, s15, s16, s17, s18, s19, s20, s21, s22, s23, s24, s25, s26, s27, s28, s29, s30, s31⟩) (by kernel_rfl) (by kernel_rfl) (fun l f v hI => ?_) (fun l f v hC hI i h0 o ho h1 => ak1_step ⟨W0, W1, c, a, len, cap, p, XB, s1, s3, s4, s5, s6, s7, s8, s9, s10, s11, s12, s13, s14, s15, s16, s17, s18, s19, s20, s21, s22, s23, s24, s25, s26, s27, s28, s29, s30, s31⟩ l f v hC hI i h0 o ho h1) (fun l f v hI hall => ?_) ?_
  · obtain ⟨_, _, _, _, _, _, _, _, _, _, _, _, _, _, _, _, _, _, _, _, _, _, _, _, _, _, _, _, _, _, _, _, _, _, _, _, _, _, _, _, _, _, _, _, _, _, _, rfl, _⟩ := hI; rfl
  · obtain ⟨b0, b1, b2, b3, b4, b5, b6, b7, b8, b9, b10, b11, b12, b13, b14, b15, b16, b17, b18, b19, b20, b21, b22, b23, b24, b25, b26, b27, b28, b29, X0, X5, X10, X15, X23, R2, R7, R12, R17, R21, R25, x4, x9, x14, x19, tm, pp, rfl, rfl, hS, hp, hg, hc, hb, hT0, hT5, hT10, hT15, hT23, hR2, hR7, hR12, hR17, hR21, hR25, hx4, hx9, hx14, hx19, htm, hk⟩ := hI
    have hn := allT hall [0, 1, 2, 3, 4, 5, 6, 7, 8, 9, 10, 11, 12, 13, 14, 15, 16, 17, 18, 19, 20, 21, 22, 23, 24, 25, 26, 27, 28, 29] rfl; repeat (obtain ⟨rfl, hn⟩ := hn)
    exact fin X0 X5 X10 X15 X23 R2 R7 R12 R17 R21 R25 x4 x9 x14 x19 tm pp v hS hp hg hc hb (hR2 rfl) (hR7 rfl) (hR12 rfl) (hR17 rfl) (hR21 rfl) (hR25 rfl) (hx4 rfl) (hx9 rfl) (hx14 rfl) (hx19 rfl) (htm rfl) hk
  · exact ⟨false, false, false, false, false, false, false, false, false, false, false, false, false, false, false, false, false, false, false, false, false, false, false, false, false, false, false, false, false, false, 0, 0, 0, 0, 0, 0, 0, 0, 0, 0, 0, ⟨#[]⟩, ⟨#[]⟩, ⟨#[]⟩, ⟨#[]⟩, 0, p, rfl, rfl, hS.drew, Nat.le_add_right _ _, grown_trans hg (grown_drewS _ _), hc, hb.drew, fun h => Bool.noConfusion h, fun h => Bool.noConfusion h, fun h => Bool.noConfusion h, fun h => Bool.noConfusion h, fun h => Bool.noConfusion h, fun h => Bool.noConfusion h, fun h => Bool.noConfusion h, fun h => Bool.noConfusion h, fun h => Bool.noConfusion h, fun h => Bool.noConfusion h, fun h => Bool.noConfusion h, fun h => Bool.noConfusion h, fun h => Bool.noConfusion h, fun h => Bool.noConfusion h, fun h => Bool.noConfusion h, fun h => Bool.noConfusion h, hk⟩
end Go.Proofs.YtmjolkagkeonfaaDoor
