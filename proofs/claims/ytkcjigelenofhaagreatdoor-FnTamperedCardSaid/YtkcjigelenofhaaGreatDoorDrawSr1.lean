import Derived.Test.YtkcjigelenofhaaGreatDoorDrawSg
import Derived.Test.YtkcjigelenofhaaGreatDoorD3
import Derived.Test.YtkcjigelenofhaaGreatDoorD2
namespace Go.Proofs.YtkcjigelenofhaaGreatDoor
open Go.RowKit
set_option linter.unusedVariables false
theorem OwnStrs.setQ {w : World} {base : Nat} {v : Value} {L : List ByteArray} (h : OwnStrs w base v L) (a : Addr) (x : Value) (hb : a.block < base) : OwnStrs (w.setCell a x) base v L := by
 refine ⟨h.1, ?_⟩
 rcases h.2 with h2 | ⟨g, cap, cur, e1, e2, e3, e4⟩
 · exact .inl h2
 · exact .inr ⟨g, cap, cur, e1, e2, (show RowAt w g _ cur from e3).other a x (by omega), e4⟩
theorem srTab7 (R6 : Nat) (h : R6 < 1000) (k : Nat) (hk : k < 4) : ∃ z : Int, (#[.int .i64 (R6 : Int), .int .i64 0, .int .i64 4102444800, .int .i64 (-1)] : Array Value)[k]? = some (.int .i64 z) ∧ -1 ≤ z ∧ z ≤ 4102444801 := by
 rcases (by omega : k = 0 ∨ k = 1 ∨ k = 2 ∨ k = 3) with rfl | rfl | rfl | rfl
 all_goals exact ⟨_, rfl, by omega, by omega⟩
theorem srTab14 (R13 : Nat) (h : R13 < 1000) (k : Nat) (hk : k < 4) : ∃ z : Int, (#[.int .i64 (R13 : Int), .int .i64 0, .int .i64 4102444800, .int .i64 4102444801] : Array Value)[k]? = some (.int .i64 z) ∧ -1 ≤ z ∧ z ≤ 4102444801 := by
 rcases (by omega : k = 0 ∨ k = 1 ∨ k = 2 ∨ k = 3) with rfl | rfl | rfl | rfl
 all_goals exact ⟨_, rfl, by omega, by omega⟩
def sro0 : Oper := ⟨some 36, .load 25 (.tmp 8), 25, "l10_request.go:467", #[], none⟩
def sro1 : Oper := ⟨some 37, .load 27 (.tmp 9), 27, "l10_request.go:467", #[⟨19, .gcOnly .lateStores⟩], none⟩
def sro2 : Oper := ⟨some 38, .move (.tmp 7), 61, "l10_request.go:467", #[], none⟩
def sro3 : Oper := ⟨some 39, .load 25 (.tmp 8), 25, "l10_request.go:467", #[], none⟩
def sro4 : Oper := ⟨some 40, .call { callee := .value (.func 37), args := #[.tmp 38, .tmp 39], argTypes := #[61, 25] }, 28, "l10_request.go:467", #[⟨2, .data⟩, ⟨3, .data⟩], none⟩
def sro5 : Oper := ⟨some 41, .move (.tmp 7), 61, "l10_request.go:467", #[], none⟩
def sro6 : Oper := ⟨some 42, .call { callee := .value (.func 36), args := #[.tmp 41, .const (.int .i64 1000)], argTypes := #[61, 2] }, 2, "l10_request.go:467", #[⟨5, .data⟩, ⟨4, .chain⟩], none⟩
def sro7 : Oper := ⟨some 43, .buildSlice 70 4 #[(0, .tmp 42), (1, .const (.int .i64 0)), (2, .const (.int .i64 4102444800)), (3, .const (.int .i64 (-1)))], 70, "l10_request.go:467", #[⟨6, .data⟩, ⟨21, .gcOnly .lateStores⟩], none⟩
def sro8 : Oper := ⟨some 44, .move (.tmp 7), 61, "l10_request.go:467", #[], none⟩
def sro9 : Oper := ⟨some 45, .call { callee := .value (.func 36), args := #[.tmp 44, .const (.int .i64 4)], argTypes := #[61, 2] }, 2, "l10_request.go:467", #[⟨8, .data⟩, ⟨6, .chain⟩], none⟩
def sro10 : Oper := ⟨some 46, .indexAddr 70 (.tmp 43) (.tmp 45), 0, "l10_request.go:467", #[⟨7, .data⟩, ⟨9, .data⟩, ⟨21, .gcOnly .lateStores⟩], none⟩
def sro11 : Oper := ⟨some 47, .load 2 (.tmp 46), 2, "l10_request.go:467", #[⟨10, .data⟩, ⟨21, .gcOnly .lateStores⟩], none⟩
def sro12 : Oper := ⟨some 48, .move (.tmp 7), 61, "l10_request.go:467", #[], none⟩
def sro13 : Oper := ⟨some 49, .call { callee := .value (.func 36), args := #[.tmp 48, .const (.int .i64 1000)], argTypes := #[61, 2] }, 2, "l10_request.go:467", #[⟨12, .data⟩, ⟨9, .chain⟩], none⟩
def sro14 : Oper := ⟨some 50, .buildSlice 70 4 #[(0, .tmp 49), (1, .const (.int .i64 0)), (2, .const (.int .i64 4102444800)), (3, .const (.int .i64 4102444801))], 70, "l10_request.go:467", #[⟨13, .data⟩, ⟨22, .gcOnly .lateStores⟩], none⟩
def sro15 : Oper := ⟨some 51, .move (.tmp 7), 61, "l10_request.go:467", #[], none⟩
def sro16 : Oper := ⟨some 52, .call { callee := .value (.func 36), args := #[.tmp 51, .const (.int .i64 4)], argTypes := #[61, 2] }, 2, "l10_request.go:467", #[⟨15, .data⟩, ⟨13, .chain⟩], none⟩
def sro17 : Oper := ⟨some 53, .indexAddr 70 (.tmp 50) (.tmp 52), 0, "l10_request.go:467", #[⟨14, .data⟩, ⟨16, .data⟩, ⟨22, .gcOnly .lateStores⟩], none⟩
def sro18 : Oper := ⟨some 54, .load 2 (.tmp 53), 2, "l10_request.go:467", #[⟨17, .data⟩, ⟨22, .gcOnly .lateStores⟩], none⟩
def sro19 : Oper := ⟨none, .store 25 (.tmp 2) (.tmp 36), 0, "l10_request.go:467", #[⟨0, .data⟩, ⟨16, .chain⟩, ⟨0, .phase⟩, ⟨1, .textOnly .lateStores⟩, ⟨2, .textOnly .lateStores⟩, ⟨3, .textOnly .lateStores⟩, ⟨4, .textOnly .lateStoresUnsure⟩, ⟨5, .textOnly .lateStores⟩, ⟨6, .textOnly .lateStoresUnsure⟩, ⟨7, .textOnly .lateStores⟩, ⟨8, .textOnly .lateStores⟩, ⟨9, .textOnly .lateStoresUnsure⟩, ⟨10, .textOnly .lateStores⟩, ⟨11, .textOnly .lateStores⟩, ⟨12, .textOnly .lateStores⟩, ⟨13, .textOnly .lateStoresUnsure⟩, ⟨14, .textOnly .lateStores⟩, ⟨15, .textOnly .lateStores⟩, ⟨16, .textOnly .lateStoresUnsure⟩, ⟨17, .textOnly .lateStores⟩, ⟨18, .textOnly .lateStores⟩], none⟩
def sro20 : Oper := ⟨none, .store 27 (.tmp 3) (.tmp 37), 0, "l10_request.go:467", #[⟨1, .data⟩, ⟨19, .chain⟩, ⟨0, .phase⟩, ⟨1, .phase⟩, ⟨2, .textOnly .lateStores⟩, ⟨3, .textOnly .lateStores⟩, ⟨4, .textOnly .lateStoresUnsure⟩, ⟨5, .textOnly .lateStores⟩, ⟨6, .textOnly .lateStoresUnsure⟩, ⟨7, .textOnly .lateStores⟩, ⟨8, .textOnly .lateStores⟩, ⟨9, .textOnly .lateStoresUnsure⟩, ⟨10, .textOnly .lateStores⟩, ⟨11, .textOnly .lateStores⟩, ⟨12, .textOnly .lateStores⟩, ⟨13, .textOnly .lateStoresUnsure⟩, ⟨14, .textOnly .lateStores⟩, ⟨15, .textOnly .lateStores⟩, ⟨16, .textOnly .lateStoresUnsure⟩, ⟨17, .textOnly .lateStores⟩, ⟨18, .textOnly .lateStores⟩, ⟨19, .phase⟩], none⟩
def sro21 : Oper := ⟨some 4, .assign (.tmp 40), 28, "l10_request.go:467", #[⟨4, .data⟩, ⟨20, .chain⟩, ⟨0, .phase⟩, ⟨1, .phase⟩, ⟨2, .phase⟩, ⟨3, .phase⟩, ⟨4, .phase⟩, ⟨5, .textOnly .lateStores⟩, ⟨6, .textOnly .lateStoresUnsure⟩, ⟨7, .textOnly .lateStores⟩, ⟨8, .textOnly .lateStores⟩, ⟨9, .textOnly .lateStoresUnsure⟩, ⟨10, .textOnly .lateStores⟩, ⟨11, .textOnly .lateStores⟩, ⟨12, .textOnly .lateStores⟩, ⟨13, .textOnly .lateStoresUnsure⟩, ⟨14, .textOnly .lateStores⟩, ⟨15, .textOnly .lateStores⟩, ⟨16, .textOnly .lateStoresUnsure⟩, ⟨17, .textOnly .lateStores⟩, ⟨18, .textOnly .lateStores⟩, ⟨19, .phase⟩, ⟨20, .phase⟩], none⟩
def sro22 : Oper := ⟨some 5, .assign (.tmp 47), 2, "l10_request.go:467", #[⟨11, .data⟩, ⟨21, .chain⟩, ⟨0, .phase⟩, ⟨1, .phase⟩, ⟨2, .phase⟩, ⟨3, .phase⟩, ⟨4, .phase⟩, ⟨5, .phase⟩, ⟨6, .phase⟩, ⟨7, .phase⟩, ⟨8, .phase⟩, ⟨9, .phase⟩, ⟨10, .phase⟩, ⟨11, .phase⟩, ⟨12, .textOnly .lateStores⟩, ⟨13, .textOnly .lateStoresUnsure⟩, ⟨14, .textOnly .lateStores⟩, ⟨15, .textOnly .lateStores⟩, ⟨16, .textOnly .lateStoresUnsure⟩, ⟨17, .textOnly .lateStores⟩, ⟨18, .textOnly .lateStores⟩, ⟨19, .phase⟩, ⟨20, .phase⟩, ⟨21, .phase⟩], none⟩
def sro23 : Oper := ⟨some 6, .assign (.tmp 54), 2, "l10_request.go:467", #[⟨18, .data⟩, ⟨22, .chain⟩, ⟨0, .phase⟩, ⟨1, .phase⟩, ⟨2, .phase⟩, ⟨3, .phase⟩, ⟨4, .phase⟩, ⟨5, .phase⟩, ⟨6, .phase⟩, ⟨7, .phase⟩, ⟨8, .phase⟩, ⟨9, .phase⟩, ⟨10, .phase⟩, ⟨11, .phase⟩, ⟨12, .phase⟩, ⟨13, .phase⟩, ⟨14, .phase⟩, ⟨15, .phase⟩, ⟨16, .phase⟩, ⟨17, .phase⟩, ⟨18, .phase⟩, ⟨19, .phase⟩, ⟨20, .phase⟩, ⟨21, .phase⟩, ⟨22, .phase⟩], none⟩
def srO : Array Oper := #[sro0, sro1, sro2, sro3, sro4, sro5, sro6, sro7, sro8, sro9, sro10, sro11, sro12, sro13, sro14, sro15, sro16, sro17, sro18, sro19, sro20, sro21, sro22, sro23]
structure srP where
 (W0 : World)
 (c : Nat)
 (a : Option Addr)
 (len cap p XR XK X8 X9 : Nat)
 (m pt bd id sec : ByteArray)
 (a1 : Option Addr)
 (c1 B1 : Nat)
 (LQ : List Hp)
 (a2 : Option Addr)
 (c2 B2 : Nat)
 (LH : List Hp)
 (s0 s1 s4 s5 s6 s10 s11 s12 s13 s14 s15 s16 s17 s18 s19 s20 s21 s22 s23 s24 s25 s26 s27 s28 s29 s30 s31 s32 s33 s34 s35 s36 s37 s38 s39 s40 s41 s42 s43 s44 s45 s46 s47 s48 s49 s50 s51 s52 s53 s54 : Value)
def srT (P : srP) (BS : Nat) (vS : Value) (xs : List ByteArray) (R6 : Nat) (X7 : Nat) (R9 : Nat) (z11 : Int) (R13 : Nat) (X14 : Nat) (R16 : Nat) (z18 : Int) (pp : Nat) (b0 b1 b2 b3 b4 b5 b6 b7 b8 b9 b10 b11 b12 b13 b14 b15 b16 b17 b18 b19 b20 b21 b22 b23 : Bool) : Array Value := #[P.s0, P.s1, .pointer (some ⟨P.XR, 0, none⟩), .pointer (some ⟨P.XK, 0, none⟩), sel b21 (vS) (P.s4), sel b22 (.int .i64 z11) (P.s5), sel b23 (.int .i64 z18) (P.s6), .pointer (some ⟨P.c, 0, none⟩), .pointer (some ⟨P.X8, 0, none⟩), .pointer (some ⟨P.X9, 0, none⟩), P.s10, P.s11, P.s12, P.s13, P.s14, P.s15, P.s16, P.s17, P.s18, P.s19, P.s20, P.s21, P.s22, P.s23, P.s24, P.s25, P.s26, P.s27, P.s28, P.s29, P.s30, P.s31, P.s32, P.s33, P.s34, P.s35, sel b0 (.agg #[.string P.m, .string P.pt, .slice P.a1 P.LQ.length P.c1, .slice P.a2 P.LH.length P.c2, .string P.bd]) (P.s36), sel b1 (.agg #[.string P.id, .string P.sec]) (P.s37), sel b2 (.pointer (some ⟨P.c, 0, none⟩)) (P.s38), sel b3 (.agg #[.string P.m, .string P.pt, .slice P.a1 P.LQ.length P.c1, .slice P.a2 P.LH.length P.c2, .string P.bd]) (P.s39), sel b4 (vS) (P.s40), sel b5 (.pointer (some ⟨P.c, 0, none⟩)) (P.s41), sel b6 (.int .i64 (R6 : Int)) (P.s42), sel b7 (.slice (some ⟨X7, 0, none⟩) 4 4) (P.s43), sel b8 (.pointer (some ⟨P.c, 0, none⟩)) (P.s44), sel b9 (.int .i64 (R9 : Int)) (P.s45), sel b10 (.pointer (some ⟨X7, R9, none⟩)) (P.s46), sel b11 (.int .i64 z11) (P.s47), sel b12 (.pointer (some ⟨P.c, 0, none⟩)) (P.s48), sel b13 (.int .i64 (R13 : Int)) (P.s49), sel b14 (.slice (some ⟨X14, 0, none⟩) 4 4) (P.s50), sel b15 (.pointer (some ⟨P.c, 0, none⟩)) (P.s51), sel b16 (.int .i64 (R16 : Int)) (P.s52), sel b17 (.pointer (some ⟨X14, R16, none⟩)) (P.s53), sel b18 (.int .i64 z18) (P.s54)]
def srF (P : srP) (BS : Nat) (vS : Value) (xs : List ByteArray) (R6 : Nat) (X7 : Nat) (R9 : Nat) (z11 : Int) (R13 : Nat) (X14 : Nat) (R16 : Nat) (z18 : Int) (pp : Nat) (b0 b1 b2 b3 b4 b5 b6 b7 b8 b9 b10 b11 b12 b13 b14 b15 b16 b17 b18 b19 b20 b21 b22 b23 : Bool) (w : World) : Prop := (Src P.W0 w P.c P.a P.len P.cap pp) ∧ (pp ≤ P.p + 20 * (b4.toNat + b6.toNat + b9.toNat + b13.toNat + b16.toNat)) ∧ (RowAt w P.XR 25 (cond b19 #[.string P.m, .string P.pt, .slice P.a1 P.LQ.length P.c1, .slice P.a2 P.LH.length P.c2, .string P.bd] #[.string ⟨#[]⟩, .string ⟨#[]⟩, .slice none 0 0, .slice none 0 0, .string ⟨#[]⟩])) ∧ (RowAt w P.XK 27 (cond b20 #[.string P.id, .string P.sec] #[.string ⟨#[]⟩, .string ⟨#[]⟩])) ∧ (RowAt w P.X8 25 #[.string P.m, .string P.pt, .slice P.a1 P.LQ.length P.c1, .slice P.a2 P.LH.length P.c2, .string P.bd]) ∧ (RowAt w P.X9 27 #[.string P.id, .string P.sec]) ∧ (OwnHp w P.B1 (.slice P.a1 P.LQ.length P.c1) P.LQ ∧ P.c < P.B1) ∧ (OwnHp w P.B2 (.slice P.a2 P.LH.length P.c2) P.LH ∧ P.c < P.B2) ∧ (∀ x ∈ P.LH, x.nm.size ≤ 2000) ∧ (P.XR < P.XK ∧ P.XK < P.c ∧ P.c < P.X8 ∧ P.X8 < P.X9 ∧ P.W0.heap.size ≤ P.XR ∧ P.p ≤ 700000) ∧ (b4 = true → OwnStrs w BS vS xs ∧ P.c < BS ∧ xs.length ≤ 5 ∧ ∀ x ∈ xs, x.size ≤ 2000) ∧ (b6 = true → R6 < 1000) ∧ (b7 = true → RowAt w X7 2 #[.int .i64 (R6 : Int), .int .i64 0, .int .i64 4102444800, .int .i64 (-1)] ∧ P.X9 < X7) ∧ (b9 = true → R9 < 4) ∧ (b11 = true → -1 ≤ z11 ∧ z11 ≤ 4102444801) ∧ (b13 = true → R13 < 1000) ∧ (b14 = true → RowAt w X14 2 #[.int .i64 (R13 : Int), .int .i64 0, .int .i64 4102444800, .int .i64 4102444801] ∧ P.X9 < X14) ∧ (b16 = true → R16 < 4) ∧ (b18 = true → -1 ≤ z18 ∧ z18 ≤ 4102444801)
def srI (P : srP) (l : Array Bool) (f : Act) (w : World) : Prop :=
 ∃ (b0 b1 b2 b3 b4 b5 b6 b7 b8 b9 b10 b11 b12 b13 b14 b15 b16 b17 b18 b19 b20 b21 b22 b23 : Bool) (BS : Nat) (vS : Value) (xs : List ByteArray) (R6 : Nat) (X7 : Nat) (R9 : Nat) (z11 : Int) (R13 : Nat) (X14 : Nat) (R16 : Nat) (z18 : Int) (pp : Nat), l = #[b0, b1, b2, b3, b4, b5, b6, b7, b8, b9, b10, b11, b12, b13, b14, b15, b16, b17, b18, b19, b20, b21, b22, b23] ∧ f = { tmps := srT P BS vS xs R6 X7 R9 z11 R13 X14 R16 z18 pp b0 b1 b2 b3 b4 b5 b6 b7 b8 b9 b10 b11 b12 b13 b14 b15 b16 b17 b18 b19 b20 b21 b22 b23, defers := [] } ∧ srF P BS vS xs R6 X7 R9 z11 R13 X14 R16 z18 pp b0 b1 b2 b3 b4 b5 b6 b7 b8 b9 b10 b11 b12 b13 b14 b15 b16 b17 b18 b19 b20 b21 b22 b23 w
theorem srM {P : srP} {b0 b1 b2 b3 b4 b5 b6 b7 b8 b9 b10 b11 b12 b13 b14 b15 b16 b17 b18 b19 b20 b21 b22 b23 : Bool} (BS : Nat) (vS : Value) (xs : List ByteArray) (R6 : Nat) (X7 : Nat) (R9 : Nat) (z11 : Int) (R13 : Nat) (X14 : Nat) (R16 : Nat) (z18 : Int) (pp : Nat) {l : Array Bool} {f : Act} {w : World} (hl : l = #[b0, b1, b2, b3, b4, b5, b6, b7, b8, b9, b10, b11, b12, b13, b14, b15, b16, b17, b18, b19, b20, b21, b22, b23]) (hf : f = { tmps := srT P BS vS xs R6 X7 R9 z11 R13 X14 R16 z18 pp b0 b1 b2 b3 b4 b5 b6 b7 b8 b9 b10 b11 b12 b13 b14 b15 b16 b17 b18 b19 b20 b21 b22 b23, defers := [] }) (h : srF P BS vS xs R6 X7 R9 z11 R13 X14 R16 z18 pp b0 b1 b2 b3 b4 b5 b6 b7 b8 b9 b10 b11 b12 b13 b14 b15 b16 b17 b18 b19 b20 b21 b22 b23 w) : srI P l f w := ⟨b0, b1, b2, b3, b4, b5, b6, b7, b8, b9, b10, b11, b12, b13, b14, b15, b16, b17, b18, b19, b20, b21, b22, b23, BS, vS, xs, R6, X7, R9, z11, R13, X14, R16, z18, pp, hl, hf, h⟩
set_option maxRecDepth 20000 in
set_option maxHeartbeats 20000000 in
theorem sr_step {Q : Exit → Act → World → Prop} (P : srP) (l : Array Bool) (f : Act) (w : World) (hC : Closed srO l) (hI : srI P l f w) (i : Nat) (h0 : l.getD i true = false) (o : Oper) (ho : srO[i]? = some o) (h1 : ∀ e ∈ o.after, Region.binds .any e = true → l.getD e.on false = true) : wpOp Tryz.prog srO Q i (srI P (l.setIfInBounds i true)) f w := by
 obtain ⟨b0, b1, b2, b3, b4, b5, b6, b7, b8, b9, b10, b11, b12, b13, b14, b15, b16, b17, b18, b19, b20, b21, b22, b23, BS, vS, xs, R6, X7, R9, z11, R13, X14, R16, z18, pp, rfl, rfl, hF⟩ := hI
 have hi : i < 24 := by
  rcases Nat.lt_or_ge i 24 with h | h
  · exact h
  · rw [show srO[i]? = none from Array.getElem?_eq_none h] at ho; cases ho
 rcases (by omega : i = 0 ∨ i = 1 ∨ i = 2 ∨ i = 3 ∨ i = 4 ∨ i = 5 ∨ i = 6 ∨ i = 7 ∨ i = 8 ∨ i = 9 ∨ i = 10 ∨ i = 11 ∨ i = 12 ∨ i = 13 ∨ i = 14 ∨ i = 15 ∨ i = 16 ∨ i = 17 ∨ i = 18 ∨ i = 19 ∨ i = 20 ∨ i = 21 ∨ i = 22 ∨ i = 23) with rfl | rfl | rfl | rfl | rfl | rfl | rfl | rfl | rfl | rfl | rfl | rfl | rfl | rfl | rfl | rfl | rfl | rfl | rfl | rfl | rfl | rfl | rfl | rfl
 · obtain rfl : sro0 = o := Option.some.inj ho
   obtain rfl : b0 = false := h0
   have hn := wayN_all hC (i := 0) rfl [(19, 0), (20, 0), (21, 0), (22, 0), (23, 0)] [] nk rfl; repeat (obtain ⟨rfl, hn⟩ := hn)
   obtain ⟨hS, hp, hx2, hx3, hx8, hx9, hoq, hoh, hhs, hst, hxs, hR6, hT7, hR9, hz11, hR13, hT14, hR16, hz18⟩ := hF
   have q0 := hx8.cell 0
   have q1 := hx8.cell 1
   have q2 := hx8.cell 2
   have q3 := hx8.cell 3
   have q4 := hx8.cell 4
   refine wpOp_step (o := sro0) rfl (fun K hK => ?_)
   replace hK := hid hK
   simp only [sro0, srT, sel_f]
   go_simp
   exact hK.out _ _ (srM BS vS xs R6 X7 R9 z11 R13 X14 R16 z18 pp rfl rfl ⟨hS, hp, hx2, hx3, hx8, hx9, hoq, hoh, hhs, hst, hxs, hR6, hT7, hR9, hz11, hR13, hT14, hR16, hz18⟩)
 · obtain rfl : sro1 = o := Option.some.inj ho
   obtain rfl : b1 = false := h0
   have hn := wayN_all hC (i := 1) rfl [(20, 1), (21, 1), (22, 1), (23, 1)] [] nk rfl; repeat (obtain ⟨rfl, hn⟩ := hn)
   obtain ⟨hS, hp, hx2, hx3, hx8, hx9, hoq, hoh, hhs, hst, hxs, hR6, hT7, hR9, hz11, hR13, hT14, hR16, hz18⟩ := hF
   have q0 := hx9.cell 0
   have q1 := hx9.cell 1
   refine wpOp_step (o := sro1) rfl (fun K hK => ?_)
   replace hK := hid hK
   simp only [sro1, srT, sel_f]
   go_simp
   exact hK.out _ _ (srM BS vS xs R6 X7 R9 z11 R13 X14 R16 z18 pp rfl rfl ⟨hS, hp, hx2, hx3, hx8, hx9, hoq, hoh, hhs, hst, hxs, hR6, hT7, hR9, hz11, hR13, hT14, hR16, hz18⟩)
 · obtain rfl : sro2 = o := Option.some.inj ho
   obtain rfl : b2 = false := h0
   have hn := wayN_all hC (i := 2) rfl [(4, 2), (6, 4), (7, 6), (9, 6), (10, 7), (11, 10), (13, 9), (14, 13), (16, 13), (17, 14), (18, 17), (19, 16), (20, 19), (21, 2), (22, 2), (23, 2)] [] nk rfl; repeat (obtain ⟨rfl, hn⟩ := hn)
   obtain ⟨hS, hp, hx2, hx3, hx8, hx9, hoq, hoh, hhs, hst, hxs, hR6, hT7, hR9, hz11, hR13, hT14, hR16, hz18⟩ := hF
   simp only [Bool.toNat_false] at hp
   refine wpOp_step (o := sro2) rfl (fun K hK => ?_)
   replace hK := hid hK
   simp only [sro2, srT, sel_f]
   go_simp
   exact hK.out _ _ (srM BS vS xs R6 X7 R9 z11 R13 X14 R16 z18 pp rfl rfl ⟨hS, hp, hx2, hx3, hx8, hx9, hoq, hoh, hhs, hst, fun h => Bool.noConfusion h, fun h => Bool.noConfusion h, fun h => Bool.noConfusion h, fun h => Bool.noConfusion h, fun h => Bool.noConfusion h, fun h => Bool.noConfusion h, fun h => Bool.noConfusion h, fun h => Bool.noConfusion h, fun h => Bool.noConfusion h⟩)
 · obtain rfl : sro3 = o := Option.some.inj ho
   obtain rfl : b3 = false := h0
   have hn := wayN_all hC (i := 3) rfl [(4, 3), (6, 4), (7, 6), (9, 6), (10, 7), (11, 10), (13, 9), (14, 13), (16, 13), (17, 14), (18, 17), (19, 16), (20, 19), (21, 3), (22, 3), (23, 3)] [] nk rfl; repeat (obtain ⟨rfl, hn⟩ := hn)
   obtain ⟨hS, hp, hx2, hx3, hx8, hx9, hoq, hoh, hhs, hst, hxs, hR6, hT7, hR9, hz11, hR13, hT14, hR16, hz18⟩ := hF
   simp only [Bool.toNat_false] at hp
   have q0 := hx8.cell 0
   have q1 := hx8.cell 1
   have q2 := hx8.cell 2
   have q3 := hx8.cell 3
   have q4 := hx8.cell 4
   refine wpOp_step (o := sro3) rfl (fun K hK => ?_)
   replace hK := hid hK
   simp only [sro3, srT, sel_f]
   go_simp
   exact hK.out _ _ (srM BS vS xs R6 X7 R9 z11 R13 X14 R16 z18 pp rfl rfl ⟨hS, hp, hx2, hx3, hx8, hx9, hoq, hoh, hhs, hst, fun h => Bool.noConfusion h, fun h => Bool.noConfusion h, fun h => Bool.noConfusion h, fun h => Bool.noConfusion h, fun h => Bool.noConfusion h, fun h => Bool.noConfusion h, fun h => Bool.noConfusion h, fun h => Bool.noConfusion h, fun h => Bool.noConfusion h⟩)
 · obtain rfl : sro4 = o := Option.some.inj ho
   obtain rfl : b4 = false := h0
   have hn := wayP_all (o := sro4) hC h1 [(3, none), (2, none)] [] nk rfl; repeat (obtain ⟨rfl, hn⟩ := hn)
   have hn := wayN_all hC (i := 4) rfl [(6, 4), (7, 6), (9, 6), (10, 7), (11, 10), (13, 9), (14, 13), (16, 13), (17, 14), (18, 17), (19, 16), (20, 19), (21, 4), (22, 4), (23, 4)] [] nk rfl; repeat (obtain ⟨rfl, hn⟩ := hn)
   obtain ⟨hS, hp, hx2, hx3, hx8, hx9, hoq, hoh, hhs, hst, hxs, hR6, hT7, hR9, hz11, hR13, hT14, hR16, hz18⟩ := hF
   simp only [Bool.toNat_false] at hp
   obtain ⟨st1, st2, st3, st4, st5, st6⟩ := hst
   have hst : P.XR < P.XK ∧ P.XK < P.c ∧ P.c < P.X8 ∧ P.X8 < P.X9 ∧ P.W0.heap.size ≤ P.XR ∧ P.p ≤ 700000 := ⟨st1, st2, st3, st4, st5, st6⟩
   have hpp : pp ≤ P.p + 100 := by have := hp;  omega
   have hcw := hS.lt
   refine wpOp_step (o := sro4) rfl (fun K hK => ?_)
   replace hK := hid hK
   simp only [sro4, srT, sel_t, sel_f]
   go_simp
   refine (signed_all P.W0 _ P.c P.a P.len P.cap pp hS (by omega) P.m P.pt P.bd P.a1 P.LQ.length P.c1 P.a2 P.c2 P.B2 P.LH hoh.2 hoh.1 hhs).mono ?_
   rintro e w2 ⟨⟨v9, xs9, rfl, hO9, hl9, hm9⟩, ⟨p9, hs2, hp9⟩, hg2⟩
   dsimp only
   exact hK.out _ _ (srM ((w.heap.size + 1)) v9 xs9 R6 X7 R9 z11 R13 X14 R16 z18 p9 rfl rfl ⟨hs2, by show p9 ≤ P.p + 20 * (1 + 0 + 0 + 0 + 0); omega, rowF2 hx2 hg2 (by omega), rowF2 hx3 hg2 (by omega), rowF2 hx8 hg2 (by omega), rowF2 hx9 hg2 (by omega), ⟨OwnHp.keptC hoq.1 hg2 hoq.2, hoq.2⟩, ⟨OwnHp.keptC hoh.1 hg2 hoh.2, hoh.2⟩, hhs, hst, fun _ => ⟨hO9, by omega, hl9, hm9⟩, fun h => Bool.noConfusion h, fun h => Bool.noConfusion h, fun h => Bool.noConfusion h, fun h => Bool.noConfusion h, fun h => Bool.noConfusion h, fun h => Bool.noConfusion h, fun h => Bool.noConfusion h, fun h => Bool.noConfusion h⟩)
 · obtain rfl : sro5 = o := Option.some.inj ho
   obtain rfl : b5 = false := h0
   have hn := wayN_all hC (i := 5) rfl [(6, 5), (7, 6), (9, 6), (10, 7), (11, 10), (13, 9), (14, 13), (16, 13), (17, 14), (18, 17), (19, 16), (20, 19), (21, 19), (22, 5), (23, 5)] [] nk rfl; repeat (obtain ⟨rfl, hn⟩ := hn)
   obtain ⟨hS, hp, hx2, hx3, hx8, hx9, hoq, hoh, hhs, hst, hxs, hR6, hT7, hR9, hz11, hR13, hT14, hR16, hz18⟩ := hF
   simp only [Bool.toNat_false] at hp
   refine wpOp_step (o := sro5) rfl (fun K hK => ?_)
   replace hK := hid hK
   simp only [sro5, srT, sel_f]
   go_simp
   exact hK.out _ _ (srM BS vS xs R6 X7 R9 z11 R13 X14 R16 z18 pp rfl rfl ⟨hS, hp, hx2, hx3, hx8, hx9, hoq, hoh, hhs, hst, hxs, fun h => Bool.noConfusion h, fun h => Bool.noConfusion h, fun h => Bool.noConfusion h, fun h => Bool.noConfusion h, fun h => Bool.noConfusion h, fun h => Bool.noConfusion h, fun h => Bool.noConfusion h, fun h => Bool.noConfusion h⟩)
 · obtain rfl : sro6 = o := Option.some.inj ho
   obtain rfl : b6 = false := h0
   have hn := wayP_all (o := sro6) hC h1 [(5, none), (4, none), (2, some 4), (3, some 4)] [] nk rfl; repeat (obtain ⟨rfl, hn⟩ := hn)
   have hn := wayN_all hC (i := 6) rfl [(7, 6), (9, 6), (10, 7), (11, 10), (13, 9), (14, 13), (16, 13), (17, 14), (18, 17), (19, 16), (20, 19), (21, 19), (22, 6), (23, 6)] [] nk rfl; repeat (obtain ⟨rfl, hn⟩ := hn)
   obtain ⟨hS, hp, hx2, hx3, hx8, hx9, hoq, hoh, hhs, hst, hxs, hR6, hT7, hR9, hz11, hR13, hT14, hR16, hz18⟩ := hF
   simp only [Bool.toNat_true, Bool.toNat_false] at hp
   obtain ⟨st1, st2, st3, st4, st5, st6⟩ := hst
   have hst : P.XR < P.XK ∧ P.XK < P.c ∧ P.c < P.X8 ∧ P.X8 < P.X9 ∧ P.W0.heap.size ≤ P.XR ∧ P.p ≤ 700000 := ⟨st1, st2, st3, st4, st5, st6⟩
   have hpp : pp ≤ P.p + 100 := by have := hp;  omega
   refine wpOp_step (o := sro6) rfl (fun K hK => ?_)
   replace hK := hid hK
   simp only [sro6, srT, sel_t, sel_f]
   go_simp
   refine (n_all P.W0 _ P.c P.a P.len P.cap pp 1000 hS (by omega) (by omega) (by omega)).mono ?_
   rintro e w2 ⟨⟨z9, rfl, hz0, hz1⟩, hs2, hg2⟩
   obtain ⟨R9x, rfl⟩ := Int.eq_ofNat_of_zero_le hz0
   dsimp only
   exact hK.out _ _ (srM BS vS xs R9x X7 R9 z11 R13 X14 R16 z18 ((pp + 1)) rfl rfl ⟨hs2, by show pp + 1 ≤ P.p + 20 * (1 + 1 + 0 + 0 + 0); omega, rowF2 hx2 hg2 (by omega), rowF2 hx3 hg2 (by omega), rowF2 hx8 hg2 (by omega), rowF2 hx9 hg2 (by omega), ⟨OwnHp.keptC hoq.1 hg2 hoq.2, hoq.2⟩, ⟨OwnHp.keptC hoh.1 hg2 hoh.2, hoh.2⟩, hhs, hst, fun h => ⟨OwnStrs.keptC (hxs h).1 hg2 (hxs h).2.1, (hxs h).2⟩, fun _ => by omega, fun h => Bool.noConfusion h, fun h => Bool.noConfusion h, fun h => Bool.noConfusion h, fun h => Bool.noConfusion h, fun h => Bool.noConfusion h, fun h => Bool.noConfusion h, fun h => Bool.noConfusion h⟩)
 · obtain rfl : sro7 = o := Option.some.inj ho
   obtain rfl : b7 = false := h0
   have hn := wayP_all (o := sro7) hC h1 [(6, none), (4, some 6), (5, some 6), (2, some 4), (3, some 4)] [] nk rfl; repeat (obtain ⟨rfl, hn⟩ := hn)
   have hn := wayN_all hC (i := 7) rfl [(10, 7), (11, 10), (22, 7), (23, 7)] [] nk rfl; repeat (obtain ⟨rfl, hn⟩ := hn)
   obtain ⟨hS, hp, hx2, hx3, hx8, hx9, hoq, hoh, hhs, hst, hxs, hR6, hT7, hR9, hz11, hR13, hT14, hR16, hz18⟩ := hF
   simp only [Bool.toNat_true] at hp
   have h9l := hx9.lt
   refine wpOp_step (o := sro7) rfl (fun K hK => ?_)
   replace hK := hid hK
   simp only [sro7, srT, sel_t, sel_f]
   go_simp
   exact hK.out _ _ (srM BS vS xs R6 w.heap.size R9 z11 R13 X14 R16 z18 pp rfl rfl ⟨hS.alloc _, hp, hx2.alloc _, hx3.alloc _, hx8.alloc _, hx9.alloc _, ⟨World.ownsRow.alloc hoq.1 _, hoq.2⟩, ⟨World.ownsRow.alloc hoh.1 _, hoh.2⟩, hhs, hst, fun h => ⟨OwnStrs.alloc (hxs h).1 _, (hxs h).2⟩, hR6, fun _ => ⟨RowAt.new w _ _, h9l⟩, hR9, fun h => Bool.noConfusion h, hR13, fun h => ⟨(hT14 h).1.alloc _, (hT14 h).2⟩, hR16, hz18⟩)
 · obtain rfl : sro8 = o := Option.some.inj ho
   obtain rfl : b8 = false := h0
   have hn := wayN_all hC (i := 8) rfl [(9, 8), (10, 9), (11, 10), (13, 9), (14, 13), (16, 13), (17, 14), (18, 17), (19, 16), (20, 19), (21, 19), (22, 8), (23, 8)] [] nk rfl; repeat (obtain ⟨rfl, hn⟩ := hn)
   obtain ⟨hS, hp, hx2, hx3, hx8, hx9, hoq, hoh, hhs, hst, hxs, hR6, hT7, hR9, hz11, hR13, hT14, hR16, hz18⟩ := hF
   simp only [Bool.toNat_false] at hp
   refine wpOp_step (o := sro8) rfl (fun K hK => ?_)
   replace hK := hid hK
   simp only [sro8, srT, sel_f]
   go_simp
   exact hK.out _ _ (srM BS vS xs R6 X7 R9 z11 R13 X14 R16 z18 pp rfl rfl ⟨hS, hp, hx2, hx3, hx8, hx9, hoq, hoh, hhs, hst, hxs, hR6, hT7, fun h => Bool.noConfusion h, fun h => Bool.noConfusion h, fun h => Bool.noConfusion h, fun h => Bool.noConfusion h, fun h => Bool.noConfusion h, fun h => Bool.noConfusion h⟩)
 · obtain rfl : sro9 = o := Option.some.inj ho
   obtain rfl : b9 = false := h0
   have hn := wayP_all (o := sro9) hC h1 [(8, none), (6, none), (4, some 6), (5, some 6), (2, some 4), (3, some 4)] [] nk rfl; repeat (obtain ⟨rfl, hn⟩ := hn)
   have hn := wayN_all hC (i := 9) rfl [(10, 9), (11, 10), (13, 9), (14, 13), (16, 13), (17, 14), (18, 17), (19, 16), (20, 19), (21, 19), (22, 9), (23, 9)] [] nk rfl; repeat (obtain ⟨rfl, hn⟩ := hn)
   obtain ⟨hS, hp, hx2, hx3, hx8, hx9, hoq, hoh, hhs, hst, hxs, hR6, hT7, hR9, hz11, hR13, hT14, hR16, hz18⟩ := hF
   simp only [Bool.toNat_true, Bool.toNat_false] at hp
   obtain ⟨st1, st2, st3, st4, st5, st6⟩ := hst
   have hst : P.XR < P.XK ∧ P.XK < P.c ∧ P.c < P.X8 ∧ P.X8 < P.X9 ∧ P.W0.heap.size ≤ P.XR ∧ P.p ≤ 700000 := ⟨st1, st2, st3, st4, st5, st6⟩
   have hpp : pp ≤ P.p + 100 := by have := hp;  omega
   refine wpOp_step (o := sro9) rfl (fun K hK => ?_)
   replace hK := hid hK
   simp only [sro9, srT, sel_t, sel_f]
   go_simp
   refine (n_all P.W0 _ P.c P.a P.len P.cap pp 4 hS (by omega) (by omega) (by omega)).mono ?_
   rintro e w2 ⟨⟨z9, rfl, hz0, hz1⟩, hs2, hg2⟩
   obtain ⟨R9x, rfl⟩ := Int.eq_ofNat_of_zero_le hz0
   dsimp only
   exact hK.out _ _ (srM BS vS xs R6 X7 R9x z11 R13 X14 R16 z18 ((pp + 1)) rfl rfl ⟨hs2, by show pp + 1 ≤ P.p + 20 * (1 + 1 + 1 + 0 + 0); omega, rowF2 hx2 hg2 (by omega), rowF2 hx3 hg2 (by omega), rowF2 hx8 hg2 (by omega), rowF2 hx9 hg2 (by omega), ⟨OwnHp.keptC hoq.1 hg2 hoq.2, hoq.2⟩, ⟨OwnHp.keptC hoh.1 hg2 hoh.2, hoh.2⟩, hhs, hst, fun h => ⟨OwnStrs.keptC (hxs h).1 hg2 (hxs h).2.1, (hxs h).2⟩, hR6, fun h => ⟨rowF2 (hT7 h).1 hg2 (by have := (hT7 h).2; omega), (hT7 h).2⟩, fun _ => by omega, fun h => Bool.noConfusion h, fun h => Bool.noConfusion h, fun h => Bool.noConfusion h, fun h => Bool.noConfusion h, fun h => Bool.noConfusion h⟩)
 · obtain rfl : sro10 = o := Option.some.inj ho
   obtain rfl : b10 = false := h0
   have hn := wayP_all (o := sro10) hC h1 [(9, none), (7, none), (6, some 9), (8, some 9), (4, some 6), (5, some 6), (2, some 4), (3, some 4)] [] nk rfl; repeat (obtain ⟨rfl, hn⟩ := hn)
   have hn := wayN_all hC (i := 10) rfl [(11, 10), (22, 10), (23, 10)] [] nk rfl; repeat (obtain ⟨rfl, hn⟩ := hn)
   obtain ⟨hS, hp, hx2, hx3, hx8, hx9, hoq, hoh, hhs, hst, hxs, hR6, hT7, hR9, hz11, hR13, hT14, hR16, hz18⟩ := hF
   simp only [Bool.toNat_true] at hp
   have r := hR9 rfl
   have r0 : (R9 : Int) < 4 := by omega
   refine wpOp_step (o := sro10) rfl (fun K hK => ?_)
   replace hK := hid hK
   simp only [sro10, srT, sel_t, sel_f]
   go_simp
   exact hK.out _ _ (srM BS vS xs R6 X7 R9 z11 R13 X14 R16 z18 pp rfl rfl ⟨hS, hp, hx2, hx3, hx8, hx9, hoq, hoh, hhs, hst, hxs, hR6, hT7, hR9, fun h => Bool.noConfusion h, hR13, hT14, hR16, hz18⟩)
 · obtain rfl : sro11 = o := Option.some.inj ho
   obtain rfl : b11 = false := h0
   have hn := wayP_all (o := sro11) hC h1 [(10, none), (7, some 10), (9, some 10), (6, some 9), (8, some 9), (4, some 6), (5, some 6), (2, some 4), (3, some 4)] [] nk rfl; repeat (obtain ⟨rfl, hn⟩ := hn)
   have hn := wayN_all hC (i := 11) rfl [(22, 11), (23, 11)] [] nk rfl; repeat (obtain ⟨rfl, hn⟩ := hn)
   obtain ⟨hS, hp, hx2, hx3, hx8, hx9, hoq, hoh, hhs, hst, hxs, hR6, hT7, hR9, hz11, hR13, hT14, hR16, hz18⟩ := hF
   simp only [Bool.toNat_true] at hp
   obtain ⟨z9, hz9, hzb⟩ := srTab7 R6 (hR6 rfl) R9 (hR9 rfl)
   have q := (hT7 rfl).1.cell R9
   rw [hz9] at q
   refine wpOp_step (o := sro11) rfl (fun K hK => ?_)
   replace hK := hid hK
   simp only [sro11, srT, sel_t, sel_f]
   go_simp
   exact hK.out _ _ (srM BS vS xs R6 X7 R9 z9 R13 X14 R16 z18 pp rfl rfl ⟨hS, hp, hx2, hx3, hx8, hx9, hoq, hoh, hhs, hst, hxs, hR6, hT7, hR9, fun _ => hzb, hR13, hT14, hR16, hz18⟩)
 · obtain rfl : sro12 = o := Option.some.inj ho
   obtain rfl : b12 = false := h0
   have hn := wayN_all hC (i := 12) rfl [(13, 12), (14, 13), (16, 13), (17, 14), (18, 17), (19, 16), (20, 19), (21, 19), (22, 19), (23, 12)] [] nk rfl; repeat (obtain ⟨rfl, hn⟩ := hn)
   obtain ⟨hS, hp, hx2, hx3, hx8, hx9, hoq, hoh, hhs, hst, hxs, hR6, hT7, hR9, hz11, hR13, hT14, hR16, hz18⟩ := hF
   simp only [Bool.toNat_false] at hp
   refine wpOp_step (o := sro12) rfl (fun K hK => ?_)
   replace hK := hid hK
   simp only [sro12, srT, sel_f]
   go_simp
   exact hK.out _ _ (srM BS vS xs R6 X7 R9 z11 R13 X14 R16 z18 pp rfl rfl ⟨hS, hp, hx2, hx3, hx8, hx9, hoq, hoh, hhs, hst, hxs, hR6, hT7, hR9, hz11, fun h => Bool.noConfusion h, fun h => Bool.noConfusion h, fun h => Bool.noConfusion h, fun h => Bool.noConfusion h⟩)
 · obtain rfl : sro13 = o := Option.some.inj ho
   obtain rfl : b13 = false := h0
   have hn := wayP_all (o := sro13) hC h1 [(12, none), (9, none), (6, some 9), (8, some 9), (4, some 6), (5, some 6), (2, some 4), (3, some 4)] [] nk rfl; repeat (obtain ⟨rfl, hn⟩ := hn)
   have hn := wayN_all hC (i := 13) rfl [(14, 13), (16, 13), (17, 14), (18, 17), (19, 16), (20, 19), (21, 19), (22, 19), (23, 13)] [] nk rfl; repeat (obtain ⟨rfl, hn⟩ := hn)
   obtain ⟨hS, hp, hx2, hx3, hx8, hx9, hoq, hoh, hhs, hst, hxs, hR6, hT7, hR9, hz11, hR13, hT14, hR16, hz18⟩ := hF
   simp only [Bool.toNat_true, Bool.toNat_false] at hp
   obtain ⟨st1, st2, st3, st4, st5, st6⟩ := hst
   have hst : P.XR < P.XK ∧ P.XK < P.c ∧ P.c < P.X8 ∧ P.X8 < P.X9 ∧ P.W0.heap.size ≤ P.XR ∧ P.p ≤ 700000 := ⟨st1, st2, st3, st4, st5, st6⟩
   have hpp : pp ≤ P.p + 100 := by have := hp;  omega
   refine wpOp_step (o := sro13) rfl (fun K hK => ?_)
   replace hK := hid hK
   simp only [sro13, srT, sel_t, sel_f]
   go_simp
   refine (n_all P.W0 _ P.c P.a P.len P.cap pp 1000 hS (by omega) (by omega) (by omega)).mono ?_
   rintro e w2 ⟨⟨z9, rfl, hz0, hz1⟩, hs2, hg2⟩
   obtain ⟨R9x, rfl⟩ := Int.eq_ofNat_of_zero_le hz0
   dsimp only
   exact hK.out _ _ (srM BS vS xs R6 X7 R9 z11 R9x X14 R16 z18 ((pp + 1)) rfl rfl ⟨hs2, by show pp + 1 ≤ P.p + 20 * (1 + 1 + 1 + 1 + 0); omega, rowF2 hx2 hg2 (by omega), rowF2 hx3 hg2 (by omega), rowF2 hx8 hg2 (by omega), rowF2 hx9 hg2 (by omega), ⟨OwnHp.keptC hoq.1 hg2 hoq.2, hoq.2⟩, ⟨OwnHp.keptC hoh.1 hg2 hoh.2, hoh.2⟩, hhs, hst, fun h => ⟨OwnStrs.keptC (hxs h).1 hg2 (hxs h).2.1, (hxs h).2⟩, hR6, fun h => ⟨rowF2 (hT7 h).1 hg2 (by have := (hT7 h).2; omega), (hT7 h).2⟩, hR9, hz11, fun _ => by omega, fun h => Bool.noConfusion h, fun h => Bool.noConfusion h, fun h => Bool.noConfusion h⟩)
 · obtain rfl : sro14 = o := Option.some.inj ho
   obtain rfl : b14 = false := h0
   have hn := wayP_all (o := sro14) hC h1 [(13, none), (9, some 13), (12, some 13), (6, some 9), (8, some 9), (4, some 6), (5, some 6), (2, some 4), (3, some 4)] [] nk rfl; repeat (obtain ⟨rfl, hn⟩ := hn)
   have hn := wayN_all hC (i := 14) rfl [(17, 14), (18, 17), (23, 14)] [] nk rfl; repeat (obtain ⟨rfl, hn⟩ := hn)
   obtain ⟨hS, hp, hx2, hx3, hx8, hx9, hoq, hoh, hhs, hst, hxs, hR6, hT7, hR9, hz11, hR13, hT14, hR16, hz18⟩ := hF
   simp only [Bool.toNat_true] at hp
   have h9l := hx9.lt
   refine wpOp_step (o := sro14) rfl (fun K hK => ?_)
   replace hK := hid hK
   simp only [sro14, srT, sel_t, sel_f]
   go_simp
   exact hK.out _ _ (srM BS vS xs R6 X7 R9 z11 R13 w.heap.size R16 z18 pp rfl rfl ⟨hS.alloc _, hp, hx2.alloc _, hx3.alloc _, hx8.alloc _, hx9.alloc _, ⟨World.ownsRow.alloc hoq.1 _, hoq.2⟩, ⟨World.ownsRow.alloc hoh.1 _, hoh.2⟩, hhs, hst, fun h => ⟨OwnStrs.alloc (hxs h).1 _, (hxs h).2⟩, hR6, fun h => ⟨(hT7 h).1.alloc _, (hT7 h).2⟩, hR9, hz11, hR13, fun _ => ⟨RowAt.new w _ _, h9l⟩, hR16, fun h => Bool.noConfusion h⟩)
 · obtain rfl : sro15 = o := Option.some.inj ho
   obtain rfl : b15 = false := h0
   have hn := wayN_all hC (i := 15) rfl [(16, 15), (17, 16), (18, 17), (19, 16), (20, 19), (21, 19), (22, 19), (23, 15)] [] nk rfl; repeat (obtain ⟨rfl, hn⟩ := hn)
   obtain ⟨hS, hp, hx2, hx3, hx8, hx9, hoq, hoh, hhs, hst, hxs, hR6, hT7, hR9, hz11, hR13, hT14, hR16, hz18⟩ := hF
   simp only [Bool.toNat_false] at hp
   refine wpOp_step (o := sro15) rfl (fun K hK => ?_)
   replace hK := hid hK
   simp only [sro15, srT, sel_f]
   go_simp
   exact hK.out _ _ (srM BS vS xs R6 X7 R9 z11 R13 X14 R16 z18 pp rfl rfl ⟨hS, hp, hx2, hx3, hx8, hx9, hoq, hoh, hhs, hst, hxs, hR6, hT7, hR9, hz11, hR13, hT14, fun h => Bool.noConfusion h, fun h => Bool.noConfusion h⟩)
 · obtain rfl : sro16 = o := Option.some.inj ho
   obtain rfl : b16 = false := h0
   have hn := wayP_all (o := sro16) hC h1 [(15, none), (13, none), (9, some 13), (12, some 13), (6, some 9), (8, some 9), (4, some 6), (5, some 6), (2, some 4), (3, some 4)] [] nk rfl; repeat (obtain ⟨rfl, hn⟩ := hn)
   have hn := wayN_all hC (i := 16) rfl [(17, 16), (18, 17), (19, 16), (20, 19), (21, 19), (22, 19), (23, 16)] [] nk rfl; repeat (obtain ⟨rfl, hn⟩ := hn)
   obtain ⟨hS, hp, hx2, hx3, hx8, hx9, hoq, hoh, hhs, hst, hxs, hR6, hT7, hR9, hz11, hR13, hT14, hR16, hz18⟩ := hF
   simp only [Bool.toNat_true, Bool.toNat_false] at hp
   obtain ⟨st1, st2, st3, st4, st5, st6⟩ := hst
   have hst : P.XR < P.XK ∧ P.XK < P.c ∧ P.c < P.X8 ∧ P.X8 < P.X9 ∧ P.W0.heap.size ≤ P.XR ∧ P.p ≤ 700000 := ⟨st1, st2, st3, st4, st5, st6⟩
   have hpp : pp ≤ P.p + 100 := by have := hp;  omega
   refine wpOp_step (o := sro16) rfl (fun K hK => ?_)
   replace hK := hid hK
   simp only [sro16, srT, sel_t, sel_f]
   go_simp
   refine (n_all P.W0 _ P.c P.a P.len P.cap pp 4 hS (by omega) (by omega) (by omega)).mono ?_
   rintro e w2 ⟨⟨z9, rfl, hz0, hz1⟩, hs2, hg2⟩
   obtain ⟨R9x, rfl⟩ := Int.eq_ofNat_of_zero_le hz0
   dsimp only
   exact hK.out _ _ (srM BS vS xs R6 X7 R9 z11 R13 X14 R9x z18 ((pp + 1)) rfl rfl ⟨hs2, by show pp + 1 ≤ P.p + 20 * (1 + 1 + 1 + 1 + 1); omega, rowF2 hx2 hg2 (by omega), rowF2 hx3 hg2 (by omega), rowF2 hx8 hg2 (by omega), rowF2 hx9 hg2 (by omega), ⟨OwnHp.keptC hoq.1 hg2 hoq.2, hoq.2⟩, ⟨OwnHp.keptC hoh.1 hg2 hoh.2, hoh.2⟩, hhs, hst, fun h => ⟨OwnStrs.keptC (hxs h).1 hg2 (hxs h).2.1, (hxs h).2⟩, hR6, fun h => ⟨rowF2 (hT7 h).1 hg2 (by have := (hT7 h).2; omega), (hT7 h).2⟩, hR9, hz11, hR13, fun h => ⟨rowF2 (hT14 h).1 hg2 (by have := (hT14 h).2; omega), (hT14 h).2⟩, fun _ => by omega, fun h => Bool.noConfusion h⟩)
 · obtain rfl : sro17 = o := Option.some.inj ho
   obtain rfl : b17 = false := h0
   have hn := wayP_all (o := sro17) hC h1 [(16, none), (14, none), (13, some 16), (15, some 16), (9, some 13), (12, some 13), (6, some 9), (8, some 9), (4, some 6), (5, some 6), (2, some 4), (3, some 4)] [] nk rfl; repeat (obtain ⟨rfl, hn⟩ := hn)
   have hn := wayN_all hC (i := 17) rfl [(18, 17), (23, 17)] [] nk rfl; repeat (obtain ⟨rfl, hn⟩ := hn)
   obtain ⟨hS, hp, hx2, hx3, hx8, hx9, hoq, hoh, hhs, hst, hxs, hR6, hT7, hR9, hz11, hR13, hT14, hR16, hz18⟩ := hF
   simp only [Bool.toNat_true] at hp
   have r := hR16 rfl
   have r0 : (R16 : Int) < 4 := by omega
   refine wpOp_step (o := sro17) rfl (fun K hK => ?_)
   replace hK := hid hK
   simp only [sro17, srT, sel_t, sel_f]
   go_simp
   exact hK.out _ _ (srM BS vS xs R6 X7 R9 z11 R13 X14 R16 z18 pp rfl rfl ⟨hS, hp, hx2, hx3, hx8, hx9, hoq, hoh, hhs, hst, hxs, hR6, hT7, hR9, hz11, hR13, hT14, hR16, fun h => Bool.noConfusion h⟩)
 · obtain rfl : sro18 = o := Option.some.inj ho
   obtain rfl : b18 = false := h0
   have hn := wayP_all (o := sro18) hC h1 [(17, none), (14, some 17), (16, some 17), (13, some 16), (15, some 16), (9, some 13), (12, some 13), (6, some 9), (8, some 9), (4, some 6), (5, some 6), (2, some 4), (3, some 4)] [] nk rfl; repeat (obtain ⟨rfl, hn⟩ := hn)
   have hn := wayN_all hC (i := 18) rfl [(23, 18)] [] nk rfl; repeat (obtain ⟨rfl, hn⟩ := hn)
   obtain ⟨hS, hp, hx2, hx3, hx8, hx9, hoq, hoh, hhs, hst, hxs, hR6, hT7, hR9, hz11, hR13, hT14, hR16, hz18⟩ := hF
   simp only [Bool.toNat_true] at hp
   obtain ⟨z9, hz9, hzb⟩ := srTab14 R13 (hR13 rfl) R16 (hR16 rfl)
   have q := (hT14 rfl).1.cell R16
   rw [hz9] at q
   refine wpOp_step (o := sro18) rfl (fun K hK => ?_)
   replace hK := hid hK
   simp only [sro18, srT, sel_t, sel_f]
   go_simp
   exact hK.out _ _ (srM BS vS xs R6 X7 R9 z11 R13 X14 R16 z9 pp rfl rfl ⟨hS, hp, hx2, hx3, hx8, hx9, hoq, hoh, hhs, hst, hxs, hR6, hT7, hR9, hz11, hR13, hT14, hR16, fun _ => hzb⟩)
 · obtain rfl : sro19 = o := Option.some.inj ho
   obtain rfl : b19 = false := h0
   have hn := wayP_all (o := sro19) hC h1 [(16, none), (0, none), (13, some 16), (15, some 16), (9, some 13), (12, some 13), (6, some 9), (8, some 9), (4, some 6), (5, some 6), (2, some 4), (3, some 4)] [] nk rfl; repeat (obtain ⟨rfl, hn⟩ := hn)
   have hn := wayN_all hC (i := 19) rfl [(20, 19), (21, 19), (22, 19), (23, 19)] [] nk rfl; repeat (obtain ⟨rfl, hn⟩ := hn)
   obtain ⟨hS, hp, hx2, hx3, hx8, hx9, hoq, hoh, hhs, hst, hxs, hR6, hT7, hR9, hz11, hR13, hT14, hR16, hz18⟩ := hF
   simp only [Bool.toNat_true] at hp
   obtain ⟨st1, st2, st3, st4, st5, st6⟩ := hst
   have hst : P.XR < P.XK ∧ P.XK < P.c ∧ P.c < P.X8 ∧ P.X8 < P.X9 ∧ P.W0.heap.size ≤ P.XR ∧ P.p ≤ 700000 := ⟨st1, st2, st3, st4, st5, st6⟩
   have hz : RowAt w P.XR 25 #[.string ⟨#[]⟩, .string ⟨#[]⟩, .slice none 0 0, .slice none 0 0, .string ⟨#[]⟩] := hx2
   have q0 := hz.cell 0
   have q1 := hz.cell 1
   have q2 := hz.cell 2
   have q3 := hz.cell 3
   have q4 := hz.cell 4
   have f0 := hz.free 0
   have f1 := hz.free 1
   have f2 := hz.free 2
   have f3 := hz.free 3
   have f4 := hz.free 4
   have hoq2 := hoq.2
   have hoh2 := hoh.2
   refine wpOp_step (o := sro19) rfl (fun K hK => ?_)
   replace hK := hid hK
   simp only [sro19, srT, sel_t, sel_f]
   go_simp
   exact hK.out _ _ (srM BS vS xs R6 X7 R9 z11 R13 X14 R16 z18 pp rfl rfl ⟨(Src.far (Src.far (Src.far (Src.far (Src.far hS (grown_setCellF _ P.XR 0 _) (by simp; omega) (fun g hg => by cases hg; omega)) (grown_setCellF _ P.XR 1 _) (by simp; omega) (fun g hg => by cases hg; omega)) (grown_setCellF _ P.XR 2 _) (by simp; omega) (fun g hg => by cases hg; omega)) (grown_setCellF _ P.XR 3 _) (by simp; omega) (fun g hg => by cases hg; omega)) (grown_setCellF _ P.XR 4 _) (by simp; omega) (fun g hg => by cases hg; omega)), hp, (((((hz.set 0 _).set 1 _).set 2 _).set 3 _).set 4 _), (((((hx3.other ⟨P.XR, 0, none⟩ _ (by simp; omega)).other ⟨P.XR, 1, none⟩ _ (by simp; omega)).other ⟨P.XR, 2, none⟩ _ (by simp; omega)).other ⟨P.XR, 3, none⟩ _ (by simp; omega)).other ⟨P.XR, 4, none⟩ _ (by simp; omega)), (((((hx8.other ⟨P.XR, 0, none⟩ _ (by simp; omega)).other ⟨P.XR, 1, none⟩ _ (by simp; omega)).other ⟨P.XR, 2, none⟩ _ (by simp; omega)).other ⟨P.XR, 3, none⟩ _ (by simp; omega)).other ⟨P.XR, 4, none⟩ _ (by simp; omega)), (((((hx9.other ⟨P.XR, 0, none⟩ _ (by simp; omega)).other ⟨P.XR, 1, none⟩ _ (by simp; omega)).other ⟨P.XR, 2, none⟩ _ (by simp; omega)).other ⟨P.XR, 3, none⟩ _ (by simp; omega)).other ⟨P.XR, 4, none⟩ _ (by simp; omega)), ⟨(OwnHp.setQ (OwnHp.setQ (OwnHp.setQ (OwnHp.setQ (OwnHp.setQ hoq.1 ⟨P.XR, 0, none⟩ _ (by simp; omega)) ⟨P.XR, 1, none⟩ _ (by simp; omega)) ⟨P.XR, 2, none⟩ _ (by simp; omega)) ⟨P.XR, 3, none⟩ _ (by simp; omega)) ⟨P.XR, 4, none⟩ _ (by simp; omega)), hoq.2⟩, ⟨(OwnHp.setQ (OwnHp.setQ (OwnHp.setQ (OwnHp.setQ (OwnHp.setQ hoh.1 ⟨P.XR, 0, none⟩ _ (by simp; omega)) ⟨P.XR, 1, none⟩ _ (by simp; omega)) ⟨P.XR, 2, none⟩ _ (by simp; omega)) ⟨P.XR, 3, none⟩ _ (by simp; omega)) ⟨P.XR, 4, none⟩ _ (by simp; omega)), hoh.2⟩, hhs, hst, fun h => by have hx2 := (hxs h).2.1; exact ⟨(OwnStrs.setQ (OwnStrs.setQ (OwnStrs.setQ (OwnStrs.setQ (OwnStrs.setQ (hxs h).1 ⟨P.XR, 0, none⟩ _ (by simp; omega)) ⟨P.XR, 1, none⟩ _ (by simp; omega)) ⟨P.XR, 2, none⟩ _ (by simp; omega)) ⟨P.XR, 3, none⟩ _ (by simp; omega)) ⟨P.XR, 4, none⟩ _ (by simp; omega)), (hxs h).2⟩, hR6, fun h => by have hx2 := (hT7 h).2; exact ⟨((((((hT7 h).1.other ⟨P.XR, 0, none⟩ _ (by simp; omega)).other ⟨P.XR, 1, none⟩ _ (by simp; omega)).other ⟨P.XR, 2, none⟩ _ (by simp; omega)).other ⟨P.XR, 3, none⟩ _ (by simp; omega)).other ⟨P.XR, 4, none⟩ _ (by simp; omega)), (hT7 h).2⟩, hR9, hz11, hR13, fun h => by have hx2 := (hT14 h).2; exact ⟨((((((hT14 h).1.other ⟨P.XR, 0, none⟩ _ (by simp; omega)).other ⟨P.XR, 1, none⟩ _ (by simp; omega)).other ⟨P.XR, 2, none⟩ _ (by simp; omega)).other ⟨P.XR, 3, none⟩ _ (by simp; omega)).other ⟨P.XR, 4, none⟩ _ (by simp; omega)), (hT14 h).2⟩, hR16, hz18⟩)
 · obtain rfl : sro20 = o := Option.some.inj ho
   obtain rfl : b20 = false := h0
   have hn := wayP_all (o := sro20) hC h1 [(19, none), (1, none), (0, none), (16, some 19), (13, some 16), (15, some 16), (9, some 13), (12, some 13), (6, some 9), (8, some 9), (4, some 6), (5, some 6), (2, some 4), (3, some 4)] [] nk rfl; repeat (obtain ⟨rfl, hn⟩ := hn)
   have hn := wayN_all hC (i := 20) rfl [(21, 20), (22, 20), (23, 20)] [] nk rfl; repeat (obtain ⟨rfl, hn⟩ := hn)
   obtain ⟨hS, hp, hx2, hx3, hx8, hx9, hoq, hoh, hhs, hst, hxs, hR6, hT7, hR9, hz11, hR13, hT14, hR16, hz18⟩ := hF
   simp only [Bool.toNat_true] at hp
   obtain ⟨st1, st2, st3, st4, st5, st6⟩ := hst
   have hst : P.XR < P.XK ∧ P.XK < P.c ∧ P.c < P.X8 ∧ P.X8 < P.X9 ∧ P.W0.heap.size ≤ P.XR ∧ P.p ≤ 700000 := ⟨st1, st2, st3, st4, st5, st6⟩
   have hz : RowAt w P.XK 27 #[.string ⟨#[]⟩, .string ⟨#[]⟩] := hx3
   have q0 := hz.cell 0
   have q1 := hz.cell 1
   have f0 := hz.free 0
   have f1 := hz.free 1
   have hoq2 := hoq.2
   have hoh2 := hoh.2
   refine wpOp_step (o := sro20) rfl (fun K hK => ?_)
   replace hK := hid hK
   simp only [sro20, srT, sel_t, sel_f]
   go_simp
   exact hK.out _ _ (srM BS vS xs R6 X7 R9 z11 R13 X14 R16 z18 pp rfl rfl ⟨(Src.far (Src.far hS (grown_setCellF _ P.XK 0 _) (by simp; omega) (fun g hg => by cases hg; omega)) (grown_setCellF _ P.XK 1 _) (by simp; omega) (fun g hg => by cases hg; omega)), hp, ((hx2.other ⟨P.XK, 0, none⟩ _ (by simp; omega)).other ⟨P.XK, 1, none⟩ _ (by simp; omega)), ((hz.set 0 _).set 1 _), ((hx8.other ⟨P.XK, 0, none⟩ _ (by simp; omega)).other ⟨P.XK, 1, none⟩ _ (by simp; omega)), ((hx9.other ⟨P.XK, 0, none⟩ _ (by simp; omega)).other ⟨P.XK, 1, none⟩ _ (by simp; omega)), ⟨(OwnHp.setQ (OwnHp.setQ hoq.1 ⟨P.XK, 0, none⟩ _ (by simp; omega)) ⟨P.XK, 1, none⟩ _ (by simp; omega)), hoq.2⟩, ⟨(OwnHp.setQ (OwnHp.setQ hoh.1 ⟨P.XK, 0, none⟩ _ (by simp; omega)) ⟨P.XK, 1, none⟩ _ (by simp; omega)), hoh.2⟩, hhs, hst, fun h => by have hx2 := (hxs h).2.1; exact ⟨(OwnStrs.setQ (OwnStrs.setQ (hxs h).1 ⟨P.XK, 0, none⟩ _ (by simp; omega)) ⟨P.XK, 1, none⟩ _ (by simp; omega)), (hxs h).2⟩, hR6, fun h => by have hx2 := (hT7 h).2; exact ⟨(((hT7 h).1.other ⟨P.XK, 0, none⟩ _ (by simp; omega)).other ⟨P.XK, 1, none⟩ _ (by simp; omega)), (hT7 h).2⟩, hR9, hz11, hR13, fun h => by have hx2 := (hT14 h).2; exact ⟨(((hT14 h).1.other ⟨P.XK, 0, none⟩ _ (by simp; omega)).other ⟨P.XK, 1, none⟩ _ (by simp; omega)), (hT14 h).2⟩, hR16, hz18⟩)
 · obtain rfl : sro21 = o := Option.some.inj ho
   obtain rfl : b21 = false := h0
   have hn := wayP_all (o := sro21) hC h1 [(20, none), (19, none), (4, none), (3, none), (2, none), (1, none), (0, none), (16, some 19), (13, some 16), (15, some 16), (9, some 13), (12, some 13), (6, some 9), (8, some 9), (5, some 6)] [] nk rfl; repeat (obtain ⟨rfl, hn⟩ := hn)
   have hn := wayN_all hC (i := 21) rfl [(22, 21), (23, 21)] [] nk rfl; repeat (obtain ⟨rfl, hn⟩ := hn)
   obtain ⟨hS, hp, hx2, hx3, hx8, hx9, hoq, hoh, hhs, hst, hxs, hR6, hT7, hR9, hz11, hR13, hT14, hR16, hz18⟩ := hF
   simp only [Bool.toNat_true] at hp
   refine wpOp_step (o := sro21) rfl (fun K hK => ?_)
   replace hK := hid hK
   simp only [sro21, srT, sel_t, sel_f]
   go_simp
   exact hK.out _ _ (srM BS vS xs R6 X7 R9 z11 R13 X14 R16 z18 pp rfl rfl ⟨hS, hp, hx2, hx3, hx8, hx9, hoq, hoh, hhs, hst, hxs, hR6, hT7, hR9, hz11, hR13, hT14, hR16, hz18⟩)
 · obtain rfl : sro22 = o := Option.some.inj ho
   obtain rfl : b22 = false := h0
   have hn := wayP_all (o := sro22) hC h1 [(21, none), (20, none), (19, none), (11, none), (10, none), (9, none), (8, none), (7, none), (6, none), (5, none), (4, none), (3, none), (2, none), (1, none), (0, none), (16, some 19), (13, some 16), (15, some 16), (12, some 13)] [] nk rfl; repeat (obtain ⟨rfl, hn⟩ := hn)
   have hn := wayN_all hC (i := 22) rfl [(23, 22)] [] nk rfl; repeat (obtain ⟨rfl, hn⟩ := hn)
   obtain ⟨hS, hp, hx2, hx3, hx8, hx9, hoq, hoh, hhs, hst, hxs, hR6, hT7, hR9, hz11, hR13, hT14, hR16, hz18⟩ := hF
   simp only [Bool.toNat_true] at hp
   refine wpOp_step (o := sro22) rfl (fun K hK => ?_)
   replace hK := hid hK
   simp only [sro22, srT, sel_t, sel_f]
   go_simp
   exact hK.out _ _ (srM BS vS xs R6 X7 R9 z11 R13 X14 R16 z18 pp rfl rfl ⟨hS, hp, hx2, hx3, hx8, hx9, hoq, hoh, hhs, hst, hxs, hR6, hT7, hR9, hz11, hR13, hT14, hR16, hz18⟩)
 · obtain rfl : sro23 = o := Option.some.inj ho
   obtain rfl : b23 = false := h0
   have hn := wayP_all (o := sro23) hC h1 [(22, none), (21, none), (20, none), (19, none), (18, none), (17, none), (16, none), (15, none), (14, none), (13, none), (12, none), (11, none), (10, none), (9, none), (8, none), (7, none), (6, none), (5, none), (4, none), (3, none), (2, none), (1, none), (0, none)] [] nk rfl; repeat (obtain ⟨rfl, hn⟩ := hn)
   obtain ⟨hS, hp, hx2, hx3, hx8, hx9, hoq, hoh, hhs, hst, hxs, hR6, hT7, hR9, hz11, hR13, hT14, hR16, hz18⟩ := hF
   simp only [Bool.toNat_true] at hp
   refine wpOp_step (o := sro23) rfl (fun K hK => ?_)
   replace hK := hid hK
   simp only [sro23, srT, sel_t, sel_f]
   go_simp
   exact hK.out _ _ (srM BS vS xs R6 X7 R9 z11 R13 X14 R16 z18 pp rfl rfl ⟨hS, hp, hx2, hx3, hx8, hx9, hoq, hoh, hhs, hst, hxs, hR6, hT7, hR9, hz11, hR13, hT14, hR16, hz18⟩)
set_option maxRecDepth 20000 in
set_option maxHeartbeats 4000000 in
theorem sr_wp {Q : Exit → Act → World → Prop} {rid : Nat} (W0 : World) (c : Nat) (a : Option Addr) (len cap p XR XK X8 X9 : Nat) (m pt bd id sec : ByteArray) (a1 : Option Addr) (c1 B1 : Nat) (LQ : List Hp) (a2 : Option Addr) (c2 B2 : Nat) (LH : List Hp) {s0 s1 s4 s5 s6 s10 s11 s12 s13 s14 s15 s16 s17 s18 s19 s20 s21 s22 s23 s24 s25 s26 s27 s28 s29 s30 s31 s32 s33 s34 s35 s36 s37 s38 s39 s40 s41 s42 s43 s44 s45 s46 s47 s48 s49 s50 s51 s52 s53 s54 : Value} (w : World) (hS : Src W0 w c a len cap p) (hx2 : RowAt w XR 25 #[.string ⟨#[]⟩, .string ⟨#[]⟩, .slice none 0 0, .slice none 0 0, .string ⟨#[]⟩]) (hx3 : RowAt w XK 27 #[.string ⟨#[]⟩, .string ⟨#[]⟩]) (hx8 : RowAt w X8 25 #[.string m, .string pt, .slice a1 LQ.length c1, .slice a2 LH.length c2, .string bd]) (hx9 : RowAt w X9 27 #[.string id, .string sec]) (hoq : OwnHp w B1 (.slice a1 LQ.length c1) LQ ∧ c < B1) (hoh : OwnHp w B2 (.slice a2 LH.length c2) LH ∧ c < B2) (hhs : ∀ x ∈ LH, x.nm.size ≤ 2000) (hst : XR < XK ∧ XK < c ∧ c < X8 ∧ X8 < X9 ∧ W0.heap.size ≤ XR ∧ p ≤ 700000)
 (fin : ∀ (BS : Nat) (vS : Value) (xs : List ByteArray) (R6 : Nat) (X7 : Nat) (R9 : Nat) (z11 : Int) (R13 : Nat) (X14 : Nat) (R16 : Nat) (z18 : Int) (pp : Nat) (w' : World), (Src W0 w' c a len cap pp) → (pp ≤ p + 20 * (1 + 1 + 1 + 1 + 1)) → (RowAt w' XR 25 #[.string m, .string pt, .slice a1 LQ.length c1, .slice a2 LH.length c2, .string bd]) → (RowAt w' XK 27 #[.string id, .string sec]) → (RowAt w' X8 25 #[.string m, .string pt, .slice a1 LQ.length c1, .slice a2 LH.length c2, .string bd]) → (RowAt w' X9 27 #[.string id, .string sec]) → (OwnHp w' B1 (.slice a1 LQ.length c1) LQ ∧ c < B1) → (OwnHp w' B2 (.slice a2 LH.length c2) LH ∧ c < B2) → (∀ x ∈ LH, x.nm.size ≤ 2000) → (XR < XK ∧ XK < c ∧ c < X8 ∧ X8 < X9 ∧ W0.heap.size ≤ XR ∧ p ≤ 700000) → (OwnStrs w' BS vS xs ∧ c < BS ∧ xs.length ≤ 5 ∧ ∀ x ∈ xs, x.size ≤ 2000) → (R6 < 1000) → (RowAt w' X7 2 #[.int .i64 (R6 : Int), .int .i64 0, .int .i64 4102444800, .int .i64 (-1)] ∧ X9 < X7) → (R9 < 4) → (-1 ≤ z11 ∧ z11 ≤ 4102444801) → (R13 < 1000) → (RowAt w' X14 2 #[.int .i64 (R13 : Int), .int .i64 0, .int .i64 4102444800, .int .i64 4102444801] ∧ X9 < X14) → (R16 < 4) → (-1 ≤ z18 ∧ z18 ≤ 4102444801) → Q .normal { tmps := #[s0, s1, .pointer (some ⟨XR, 0, none⟩), .pointer (some ⟨XK, 0, none⟩), vS, .int .i64 z11, .int .i64 z18, .pointer (some ⟨c, 0, none⟩), .pointer (some ⟨X8, 0, none⟩), .pointer (some ⟨X9, 0, none⟩), s10, s11, s12, s13, s14, s15, s16, s17, s18, s19, s20, s21, s22, s23, s24, s25, s26, s27, s28, s29, s30, s31, s32, s33, s34, s35, .agg #[.string m, .string pt, .slice a1 LQ.length c1, .slice a2 LH.length c2, .string bd], .agg #[.string id, .string sec], .pointer (some ⟨c, 0, none⟩), .agg #[.string m, .string pt, .slice a1 LQ.length c1, .slice a2 LH.length c2, .string bd], vS, .pointer (some ⟨c, 0, none⟩), .int .i64 (R6 : Int), .slice (some ⟨X7, 0, none⟩) 4 4, .pointer (some ⟨c, 0, none⟩), .int .i64 (R9 : Int), .pointer (some ⟨X7, R9, none⟩), .int .i64 z11, .pointer (some ⟨c, 0, none⟩), .int .i64 (R13 : Int), .slice (some ⟨X14, 0, none⟩) 4 4, .pointer (some ⟨c, 0, none⟩), .int .i64 (R16 : Int), .pointer (some ⟨X14, R16, none⟩), .int .i64 z18], defers := [] } w') :
 (Code.region rid srO true).wp Tryz.prog Q { tmps := #[s0, s1, .pointer (some ⟨XR, 0, none⟩), .pointer (some ⟨XK, 0, none⟩), s4, s5, s6, .pointer (some ⟨c, 0, none⟩), .pointer (some ⟨X8, 0, none⟩), .pointer (some ⟨X9, 0, none⟩), s10, s11, s12, s13, s14, s15, s16, s17, s18, s19, s20, s21, s22, s23, s24, s25, s26, s27, s28, s29, s30, s31, s32, s33, s34, s35, s36, s37, s38, s39, s40, s41, s42, s43, s44, s45, s46, s47, s48, s49, s50, s51, s52, s53, s54], defers := [] } w := by
 refine wp_region_invG (ops := srO) (srI ⟨W0, c, a, len, cap, p, XR, XK, X8, X9, m, pt, bd, id, sec, a1, c1, B1, LQ, a2, c2, B2, LH, s0, s1, s4, s5, s6, s10, s11, s12, s13, s14, s15, s16, s17, s18, s19, s20, s21, s22, s23, s24, s25, s26, s27, s28, s29, s30, s31, s32, s33, s34, s35, s36, s37, s38, s39, s40, s41, s42, s43, s44, s45, s46, s47, s48, s49, s50, s51, s52, s53, s54⟩) (by kernel_rfl) (by kernel_rfl) (fun l f v hI => ?_) (fun l f v hC hI i h0 o ho h1 => sr_step ⟨W0, c, a, len, cap, p, XR, XK, X8, X9, m, pt, bd, id, sec, a1, c1, B1, LQ, a2, c2, B2, LH, s0, s1, s4, s5, s6, s10, s11, s12, s13, s14, s15, s16, s17, s18, s19, s20, s21, s22, s23, s24, s25, s26, s27, s28, s29, s30, s31, s32, s33, s34, s35, s36, s37, s38, s39, s40, s41, s42, s43, s44, s45, s46, s47, s48, s49, s50, s51, s52, s53, s54⟩ l f v hC hI i h0 o ho h1) (fun l f v hI hall => ?_) ?_
 · obtain ⟨_, _, _, _, _, _, _, _, _, _, _, _, _, _, _, _, _, _, _, _, _, _, _, _, _, _, _, _, _, _, _, _, _, _, _, _, rfl, _⟩ := hI; rfl
 · obtain ⟨b0, b1, b2, b3, b4, b5, b6, b7, b8, b9, b10, b11, b12, b13, b14, b15, b16, b17, b18, b19, b20, b21, b22, b23, BS, vS, xs, R6, X7, R9, z11, R13, X14, R16, z18, pp, rfl, rfl, hS, hp, hx2, hx3, hx8, hx9, hoq, hoh, hhs, hst, hxs, hR6, hT7, hR9, hz11, hR13, hT14, hR16, hz18⟩ := hI
   have hn := allT hall [0, 1, 2, 3, 4, 5, 6, 7, 8, 9, 10, 11, 12, 13, 14, 15, 16, 17, 18, 19, 20, 21, 22, 23] rfl; repeat (obtain ⟨rfl, hn⟩ := hn)
   exact fin BS vS xs R6 X7 R9 z11 R13 X14 R16 z18 pp v hS hp hx2 hx3 hx8 hx9 hoq hoh hhs hst (hxs rfl) (hR6 rfl) (hT7 rfl) (hR9 rfl) (hz11 rfl) (hR13 rfl) (hT14 rfl) (hR16 rfl) (hz18 rfl)
 · exact ⟨false, false, false, false, false, false, false, false, false, false, false, false, false, false, false, false, false, false, false, false, false, false, false, false, 0, undef, [], 0, 0, 0, 0, 0, 0, 0, 0, p, rfl, rfl, hS.drew, by show p ≤ p + 20 * (0 + 0 + 0 + 0 + 0); omega, hx2.drew, hx3.drew, hx8.drew, hx9.drew, ⟨World.ownsRow.drew hoq.1, hoq.2⟩, ⟨World.ownsRow.drew hoh.1, hoh.2⟩, hhs, hst, fun h => Bool.noConfusion h, fun h => Bool.noConfusion h, fun h => Bool.noConfusion h, fun h => Bool.noConfusion h, fun h => Bool.noConfusion h, fun h => Bool.noConfusion h, fun h => Bool.noConfusion h, fun h => Bool.noConfusion h, fun h => Bool.noConfusion h⟩
end Go.Proofs.YtkcjigelenofhaaGreatDoor
