import Derived.Test.YtmjolkagkeonfaaGreatDoorG3
import Derived.Test.YtmjolkagkeonfaaGreatDoorDrawSt1
namespace Go.Proofs.YtmjolkagkeonfaaGreatDoor
open Go.RowKit
set_option linter.unusedVariables false
theorem st13_tab9 (k : Nat) (hk : k < 2) : ∃ x : ByteArray, (#[.string ⟨#[]⟩, .string ⟨#[120]⟩] : Array Value)[k]? = some (.string x) ∧ x.size ≤ 3 := by
  rcases (by omega : k = 0 ∨ k = 1) with rfl | rfl
  all_goals exact ⟨_, rfl, by decide⟩
def st13o0 : Oper := ⟨some 59, .move (.tmp 3), 23, "l09_policy.go:325", #[], none⟩
def st13o1 : Oper := ⟨some 60, .move (.tmp 4), 2, "l09_policy.go:325", #[], none⟩
def st13o2 : Oper := ⟨some 61, .move (.tmp 3), 23, "l09_policy.go:325", #[], none⟩
def st13o3 : Oper := ⟨some 62, .move (.tmp 4), 2, "l09_policy.go:325", #[], none⟩
def st13o4 : Oper := ⟨some 63, .indexAddr 23 (.tmp 61) (.tmp 62), 0, "l09_policy.go:325", #[⟨2, .data⟩, ⟨3, .data⟩], none⟩
def st13o5 : Oper := ⟨some 64, .fieldAddr 73 (.tmp 63) 4, 0, "l09_policy.go:325", #[⟨4, .data⟩], none⟩
def st13o6 : Oper := ⟨some 65, .load 71 (.tmp 64), 71, "l09_policy.go:325", #[⟨5, .data⟩], none⟩
def st13o7 : Oper := ⟨some 66, .move (.tmp 0), 64, "l09_policy.go:325", #[], none⟩
def st13o8 : Oper := ⟨some 67, .call { callee := .value (.func 41), args := #[.tmp 66, .const (.int .i64 6)], argTypes := #[64, 2] }, 2, "l09_policy.go:325", #[⟨7, .data⟩], none⟩
def st13o9 : Oper := ⟨some 68, .buildSlice 70 2 #[(0, .const (.string { data := #[] })), (1, .const (.string { data := #[120] }))], 70, "l09_policy.go:325", #[], none⟩
def st13o10 : Oper := ⟨some 69, .move (.tmp 0), 64, "l09_policy.go:325", #[], none⟩
def st13o11 : Oper := ⟨some 70, .call { callee := .value (.func 41), args := #[.tmp 69, .const (.int .i64 2)], argTypes := #[64, 2] }, 2, "l09_policy.go:325", #[⟨10, .data⟩, ⟨8, .chain⟩], none⟩
def st13o12 : Oper := ⟨some 71, .indexAddr 70 (.tmp 68) (.tmp 70), 0, "l09_policy.go:325", #[⟨9, .data⟩, ⟨11, .data⟩], none⟩
def st13o13 : Oper := ⟨some 72, .load 9 (.tmp 71), 9, "l09_policy.go:325", #[⟨12, .data⟩], none⟩
def st13o14 : Oper := ⟨some 73, .move (.tmp 0), 64, "l09_policy.go:325", #[], none⟩
def st13o15 : Oper := ⟨some 74, .call { callee := .value (.func 41), args := #[.tmp 73, .const (.int .i64 3)], argTypes := #[64, 2] }, 2, "l09_policy.go:325", #[⟨14, .data⟩, ⟨11, .chain⟩], none⟩
def st13o16 : Oper := ⟨some 75, .binOp .sub 2 (.tmp 74) (.const (.int .i64 1)) 2, 2, "l09_policy.go:325", #[⟨15, .data⟩], none⟩
def st13o17 : Oper := ⟨some 76, .build 83 #[(0, .tmp 67), (1, .tmp 72), (2, .tmp 75)], 83, "l09_policy.go:325", #[⟨8, .data⟩, ⟨13, .data⟩, ⟨16, .data⟩], none⟩
def st13o18 : Oper := ⟨some 77, .buildSlice 71 1 #[(0, .tmp 76)], 71, "l09_policy.go:325", #[⟨17, .data⟩], none⟩
def st13o19 : Oper := ⟨some 78, .call { callee := .builtin Builtin.append, args := #[.tmp 65, .tmp 77], argTypes := #[71, 71] }, 71, "l09_policy.go:325", #[⟨6, .data⟩, ⟨18, .data⟩, ⟨15, .chain⟩], none⟩
def st13o20 : Oper := ⟨some 79, .indexAddr 23 (.tmp 59) (.tmp 60), 0, "l09_policy.go:325", #[⟨0, .data⟩, ⟨1, .data⟩, ⟨0, .phase⟩, ⟨1, .phase⟩, ⟨2, .phase⟩, ⟨3, .phase⟩, ⟨4, .phase⟩, ⟨5, .phase⟩, ⟨6, .phase⟩, ⟨7, .phase⟩, ⟨8, .phase⟩, ⟨9, .phase⟩, ⟨10, .phase⟩, ⟨11, .phase⟩, ⟨12, .phase⟩, ⟨13, .phase⟩, ⟨14, .phase⟩, ⟨15, .phase⟩, ⟨16, .phase⟩, ⟨17, .phase⟩, ⟨18, .phase⟩, ⟨19, .phase⟩], none⟩
def st13o21 : Oper := ⟨some 80, .fieldAddr 73 (.tmp 79) 4, 0, "l09_policy.go:325", #[⟨20, .data⟩, ⟨0, .phase⟩, ⟨1, .phase⟩, ⟨2, .phase⟩, ⟨3, .phase⟩, ⟨4, .phase⟩, ⟨5, .phase⟩, ⟨6, .phase⟩, ⟨7, .phase⟩, ⟨8, .phase⟩, ⟨9, .phase⟩, ⟨10, .phase⟩, ⟨11, .phase⟩, ⟨12, .phase⟩, ⟨13, .phase⟩, ⟨14, .phase⟩, ⟨15, .phase⟩, ⟨16, .phase⟩, ⟨17, .phase⟩, ⟨18, .phase⟩, ⟨19, .phase⟩], none⟩
def st13o22 : Oper := ⟨none, .store 71 (.tmp 80) (.tmp 78), 0, "l09_policy.go:325", #[⟨21, .data⟩, ⟨19, .data⟩, ⟨19, .chain⟩, ⟨0, .phase⟩, ⟨1, .phase⟩, ⟨2, .phase⟩, ⟨3, .phase⟩, ⟨4, .phase⟩, ⟨5, .phase⟩, ⟨6, .phase⟩, ⟨7, .phase⟩, ⟨8, .phase⟩, ⟨9, .phase⟩, ⟨10, .phase⟩, ⟨11, .phase⟩, ⟨12, .phase⟩, ⟨13, .phase⟩, ⟨14, .phase⟩, ⟨15, .phase⟩, ⟨16, .phase⟩, ⟨17, .phase⟩, ⟨18, .phase⟩, ⟨19, .phase⟩], none⟩
def st13O : Array Oper := #[st13o0, st13o1, st13o2, st13o3, st13o4, st13o5, st13o6, st13o7, st13o8, st13o9, st13o10, st13o11, st13o12, st13o13, st13o14, st13o15, st13o16, st13o17, st13o18, st13o19, st13o20, st13o21, st13o22]
structure st13P where
  (W0 w0 : World)
  (c : Nat)
  (a : Option Addr)
  (len cap p gS cS nS kS : Nat)
  (fS : Nat → Value)
  (RS : Nat → St)
  (eS : St)
  (xS : List Cn)
  (s1 s2 s5 s6 s7 s8 s9 s10 s11 s12 s13 s14 s15 s16 s17 s18 s19 s20 s21 s22 s23 s24 s25 s26 s27 s28 s29 s30 s31 s32 s33 s34 s35 s36 s37 s38 s39 s40 s41 s42 s43 s44 s45 s46 s47 s48 s49 s50 s51 s52 s53 s54 s55 s56 s57 s58 s59 s60 s61 s62 s63 s64 s65 s66 s67 s68 s69 s70 s71 s72 s73 s74 s75 s76 s77 s78 s79 s80 s81 s82 s83 s84 s85 s86 s87 s88 s89 s90 s91 s92 s93 s94 s95 s96 s97 s98 s99 s100 s101 : Value)
def st13T (P : st13P) (X9 : Nat) (R8 : Nat) (R11 : Nat) (R15 : Nat) (x13 : ByteArray) (X18 : Nat) (G : Nat) (CP : Nat) (oo : Option Nat) (pp : Nat) (b0 b1 b2 b3 b4 b5 b6 b7 b8 b9 b10 b11 b12 b13 b14 b15 b16 b17 b18 b19 b20 b21 b22 : Bool) : Array Value := #[.pointer (some ⟨P.c, 0, none⟩), P.s1, P.s2, .slice (some ⟨P.gS, 0, none⟩) P.nS P.cS, .int .i64 (P.kS : Int), P.s5, P.s6, P.s7, P.s8, P.s9, P.s10, P.s11, P.s12, P.s13, P.s14, P.s15, P.s16, P.s17, P.s18, P.s19, P.s20, P.s21, P.s22, P.s23, P.s24, P.s25, P.s26, P.s27, P.s28, P.s29, P.s30, P.s31, P.s32, P.s33, P.s34, P.s35, P.s36, P.s37, P.s38, P.s39, P.s40, P.s41, P.s42, P.s43, P.s44, P.s45, P.s46, P.s47, P.s48, P.s49, P.s50, P.s51, P.s52, P.s53, P.s54, P.s55, P.s56, P.s57, P.s58, sel b0 (.slice (some ⟨P.gS, 0, none⟩) P.nS P.cS) (P.s59), sel b1 (.int .i64 (P.kS : Int)) (P.s60), sel b2 (.slice (some ⟨P.gS, 0, none⟩) P.nS P.cS) (P.s61), sel b3 (.int .i64 (P.kS : Int)) (P.s62), sel b4 (.pointer (some ⟨P.gS, P.kS * 5, none⟩)) (P.s63), sel b5 (.pointer (some ⟨P.gS, P.kS * 5 + 4, none⟩)) (P.s64), sel b6 (.slice (P.RS P.kS).cs.ad (P.RS P.kS).cs.n (P.RS P.kS).cs.cap) (P.s65), sel b7 (.pointer (some ⟨P.c, 0, none⟩)) (P.s66), sel b8 (.int .i64 (R8 : Int)) (P.s67), sel b9 (.slice (some ⟨X9, 0, none⟩) 2 2) (P.s68), sel b10 (.pointer (some ⟨P.c, 0, none⟩)) (P.s69), sel b11 (.int .i64 (R11 : Int)) (P.s70), sel b12 (.pointer (some ⟨X9, R11, none⟩)) (P.s71), sel b13 (.string x13) (P.s72), sel b14 (.pointer (some ⟨P.c, 0, none⟩)) (P.s73), sel b15 (.int .i64 (R15 : Int)) (P.s74), sel b16 (.int .i64 ((R15 : Int) - 1)) (P.s75), sel b17 (.agg #[.int .i64 (R8 : Int), .string x13, .int .i64 ((R15 : Int) - 1)]) (P.s76), sel b18 (.slice (some ⟨X18, 0, none⟩) 1 1) (P.s77), sel b19 (.slice (some ⟨G, 0, none⟩) (P.xS.length + 1) CP) (P.s78), sel b20 (.pointer (some ⟨P.gS, P.kS * 5, none⟩)) (P.s79), sel b21 (.pointer (some ⟨P.gS, P.kS * 5 + 4, none⟩)) (P.s80), P.s81, P.s82, P.s83, P.s84, P.s85, P.s86, P.s87, P.s88, P.s89, P.s90, P.s91, P.s92, P.s93, P.s94, P.s95, P.s96, P.s97, P.s98, P.s99, P.s100, P.s101]
def st13F (P : st13P) (X9 : Nat) (R8 : Nat) (R11 : Nat) (R15 : Nat) (x13 : ByteArray) (X18 : Nat) (G : Nat) (CP : Nat) (oo : Option Nat) (pp : Nat) (b0 b1 b2 b3 b4 b5 b6 b7 b8 b9 b10 b11 b12 b13 b14 b15 b16 b17 b18 b19 b20 b21 b22 : Bool) (w : World) : Prop := (Src P.W0 w P.c P.a P.len P.cap pp) ∧ (pp ≤ P.p + 40 * (b8.toNat + b11.toNat + b15.toNat)) ∧ (b22 = false → SX P.W0 P.w0 w P.c P.gS P.cS P.nS P.kS P.fS P.RS P.eS oo) ∧ (b19 = false → OwnCn w P.w0.heap.size (.slice (P.RS P.kS).cs.ad (P.RS P.kS).cs.n (P.RS P.kS).cs.cap) P.xS ∧ oo = (Value.slice (P.RS P.kS).cs.ad (P.RS P.kS).cs.n (P.RS P.kS).cs.cap).ownBlock) ∧ (b19 = true → OwnCn w P.w0.heap.size (.slice (some ⟨G, 0, none⟩) (P.xS.length + 1) CP) (P.xS ++ [(⟨(R8 : Int), x13, (R15 : Int) - 1⟩ : Cn)]) ∧ oo = some G ∧ G ≠ P.gS) ∧ (b22 = true → SX P.W0 P.w0 w P.c P.gS P.cS P.nS P.kS (putF P.fS (P.kS * 5 + 4) (.slice (some ⟨G, 0, none⟩) (P.xS.length + 1) CP)) (stU P.RS P.kS { (P.RS P.kS) with cs := ⟨some ⟨G, 0, none⟩, P.xS.length + 1, CP, atC (P.xS ++ [(⟨(R8 : Int), x13, (R15 : Int) - 1⟩ : Cn)])⟩ }) P.eS (some G)) ∧ (b9 = true → b13 = false → RowAt w X9 9 #[.string ⟨#[]⟩, .string ⟨#[120]⟩] ∧ P.w0.heap.size ≤ X9) ∧ (b8 = true → R8 < 6) ∧ (b11 = true → R11 < 2) ∧ (b15 = true → R15 < 3) ∧ (b13 = true → x13.size ≤ 3) ∧ (b18 = true → b19 = false → RowAt w X18 83 #[.int .i64 (R8 : Int), .string x13, .int .i64 ((R15 : Int) - 1)]) ∧ (P.p ≤ 900000 ∧ P.kS < P.nS ∧ P.xS.length ≤ 1000000 ∧ P.c < P.w0.heap.size ∧ P.w0.heap.size ≤ P.gS ∧ P.W0.heap.size ≤ P.w0.heap.size) ∧ (∀ g, (Value.slice (P.RS P.kS).cs.ad (P.RS P.kS).cs.n (P.RS P.kS).cs.cap).ownBlock = some g → P.w0.heap.size ≤ g ∧ g ≠ P.gS)
def st13I (P : st13P) (l : Array Bool) (f : Act) (w : World) : Prop :=
  ∃ (b0 b1 b2 b3 b4 b5 b6 b7 b8 b9 b10 b11 b12 b13 b14 b15 b16 b17 b18 b19 b20 b21 b22 : Bool) (X9 : Nat) (R8 : Nat) (R11 : Nat) (R15 : Nat) (x13 : ByteArray) (X18 : Nat) (G : Nat) (CP : Nat) (oo : Option Nat) (pp : Nat), l = #[b0, b1, b2, b3, b4, b5, b6, b7, b8, b9, b10, b11, b12, b13, b14, b15, b16, b17, b18, b19, b20, b21, b22] ∧ f = { tmps := st13T P X9 R8 R11 R15 x13 X18 G CP oo pp b0 b1 b2 b3 b4 b5 b6 b7 b8 b9 b10 b11 b12 b13 b14 b15 b16 b17 b18 b19 b20 b21 b22, defers := [] } ∧ st13F P X9 R8 R11 R15 x13 X18 G CP oo pp b0 b1 b2 b3 b4 b5 b6 b7 b8 b9 b10 b11 b12 b13 b14 b15 b16 b17 b18 b19 b20 b21 b22 w
theorem st13M {P : st13P} {b0 b1 b2 b3 b4 b5 b6 b7 b8 b9 b10 b11 b12 b13 b14 b15 b16 b17 b18 b19 b20 b21 b22 : Bool} (X9 : Nat) (R8 : Nat) (R11 : Nat) (R15 : Nat) (x13 : ByteArray) (X18 : Nat) (G : Nat) (CP : Nat) (oo : Option Nat) (pp : Nat) {l : Array Bool} {f : Act} {w : World} (hl : l = #[b0, b1, b2, b3, b4, b5, b6, b7, b8, b9, b10, b11, b12, b13, b14, b15, b16, b17, b18, b19, b20, b21, b22]) (hf : f = { tmps := st13T P X9 R8 R11 R15 x13 X18 G CP oo pp b0 b1 b2 b3 b4 b5 b6 b7 b8 b9 b10 b11 b12 b13 b14 b15 b16 b17 b18 b19 b20 b21 b22, defers := [] }) (h : st13F P X9 R8 R11 R15 x13 X18 G CP oo pp b0 b1 b2 b3 b4 b5 b6 b7 b8 b9 b10 b11 b12 b13 b14 b15 b16 b17 b18 b19 b20 b21 b22 w) : st13I P l f w := ⟨b0, b1, b2, b3, b4, b5, b6, b7, b8, b9, b10, b11, b12, b13, b14, b15, b16, b17, b18, b19, b20, b21, b22, X9, R8, R11, R15, x13, X18, G, CP, oo, pp, hl, hf, h⟩
set_option maxRecDepth 20000 in
set_option maxHeartbeats 20000000 in
theorem st13_step {Q : Exit → Act → World → Prop} (P : st13P) (l : Array Bool) (f : Act) (w : World) (hC : Closed st13O l) (hI : st13I P l f w) (i : Nat) (h0 : l.getD i true = false) (o : Oper) (ho : st13O[i]? = some o) (h1 : ∀ e ∈ o.after, Region.binds .any e = true → l.getD e.on false = true) : wpOp Tryz.prog st13O Q i (st13I P (l.setIfInBounds i true)) f w := by
  obtain ⟨b0, b1, b2, b3, b4, b5, b6, b7, b8, b9, b10, b11, b12, b13, b14, b15, b16, b17, b18, b19, b20, b21, b22, X9, R8, R11, R15, x13, X18, G, CP, oo, pp, rfl, rfl, hF⟩ := hI
  have hi : i < 23 := by
    rcases Nat.lt_or_ge i 23 with h | h
    · exact h
    · rw [show st13O[i]? = none from Array.getElem?_eq_none h] at ho; cases ho
  rcases (by omega : i = 0 ∨ i = 1 ∨ i = 2 ∨ i = 3 ∨ i = 4 ∨ i = 5 ∨ i = 6 ∨ i = 7 ∨ i = 8 ∨ i = 9 ∨ i = 10 ∨ i = 11 ∨ i = 12 ∨ i = 13 ∨ i = 14 ∨ i = 15 ∨ i = 16 ∨ i = 17 ∨ i = 18 ∨ i = 19 ∨ i = 20 ∨ i = 21 ∨ i = 22) with rfl | rfl | rfl | rfl | rfl | rfl | rfl | rfl | rfl | rfl | rfl | rfl | rfl | rfl | rfl | rfl | rfl | rfl | rfl | rfl | rfl | rfl | rfl
  · obtain rfl : st13o0 = o := Option.some.inj ho
    obtain rfl : b0 = false := h0
    have hn := wayN_all hC (i := 0) rfl [(20, 0), (21, 0), (22, 0)] [] nk rfl; repeat (obtain ⟨rfl, hn⟩ := hn)
    obtain ⟨hS, hp, hX, hO1, hO2, hY, hT9, hR8, hR11, hR15, hx13, hB, hk, hob⟩ := hF
    refine wpOp_step (o := st13o0) rfl (fun K hK => ?_)
    replace hK := hid hK
    simp only [st13o0, st13T, sel_f]
    go_simp
    exact hK.out _ _ (st13M X9 R8 R11 R15 x13 X18 G CP oo pp rfl rfl ⟨hS, hp, hX, hO1, hO2, hY, hT9, hR8, hR11, hR15, hx13, hB, hk, hob⟩)
  · obtain rfl : st13o1 = o := Option.some.inj ho
    obtain rfl : b1 = false := h0
    have hn := wayN_all hC (i := 1) rfl [(20, 1), (21, 1), (22, 1)] [] nk rfl; repeat (obtain ⟨rfl, hn⟩ := hn)
    obtain ⟨hS, hp, hX, hO1, hO2, hY, hT9, hR8, hR11, hR15, hx13, hB, hk, hob⟩ := hF
    refine wpOp_step (o := st13o1) rfl (fun K hK => ?_)
    replace hK := hid hK
    simp only [st13o1, st13T, sel_f]
    go_simp
    exact hK.out _ _ (st13M X9 R8 R11 R15 x13 X18 G CP oo pp rfl rfl ⟨hS, hp, hX, hO1, hO2, hY, hT9, hR8, hR11, hR15, hx13, hB, hk, hob⟩)
  · obtain rfl : st13o2 = o := Option.some.inj ho
    obtain rfl : b2 = false := h0
    have hn := wayN_all hC (i := 2) rfl [(4, 2), (5, 4), (6, 5), (19, 6), (20, 2), (21, 2), (22, 2)] [] nk rfl; repeat (obtain ⟨rfl, hn⟩ := hn)
    obtain ⟨hS, hp, hX, hO1, hO2, hY, hT9, hR8, hR11, hR15, hx13, hB, hk, hob⟩ := hF
    refine wpOp_step (o := st13o2) rfl (fun K hK => ?_)
    replace hK := hid hK
    simp only [st13o2, st13T, sel_f]
    go_simp
    exact hK.out _ _ (st13M X9 R8 R11 R15 x13 X18 G CP oo pp rfl rfl ⟨hS, hp, hX, hO1, hO2, hY, hT9, hR8, hR11, hR15, hx13, hB, hk, hob⟩)
  · obtain rfl : st13o3 = o := Option.some.inj ho
    obtain rfl : b3 = false := h0
    have hn := wayN_all hC (i := 3) rfl [(4, 3), (5, 4), (6, 5), (19, 6), (20, 3), (21, 3), (22, 3)] [] nk rfl; repeat (obtain ⟨rfl, hn⟩ := hn)
    obtain ⟨hS, hp, hX, hO1, hO2, hY, hT9, hR8, hR11, hR15, hx13, hB, hk, hob⟩ := hF
    refine wpOp_step (o := st13o3) rfl (fun K hK => ?_)
    replace hK := hid hK
    simp only [st13o3, st13T, sel_f]
    go_simp
    exact hK.out _ _ (st13M X9 R8 R11 R15 x13 X18 G CP oo pp rfl rfl ⟨hS, hp, hX, hO1, hO2, hY, hT9, hR8, hR11, hR15, hx13, hB, hk, hob⟩)
  · obtain rfl : st13o4 = o := Option.some.inj ho
    obtain rfl : b4 = false := h0
    have hn := wayP_all (o := st13o4) hC h1 [(3, none), (2, none)] [] nk rfl; repeat (obtain ⟨rfl, hn⟩ := hn)
    have hn := wayN_all hC (i := 4) rfl [(5, 4), (6, 5), (19, 6), (20, 4), (21, 4), (22, 4)] [] nk rfl; repeat (obtain ⟨rfl, hn⟩ := hn)
    obtain ⟨hS, hp, hX, hO1, hO2, hY, hT9, hR8, hR11, hR15, hx13, hB, hk, hob⟩ := hF
    have r0 : (P.kS : Int) < (P.nS : Int) := by omega
    refine wpOp_step (o := st13o4) rfl (fun K hK => ?_)
    replace hK := hid hK
    simp only [st13o4, st13T, sel_t, sel_f]
    go_simp
    exact hK.out _ _ (st13M X9 R8 R11 R15 x13 X18 G CP oo pp rfl rfl ⟨hS, hp, hX, hO1, hO2, hY, hT9, hR8, hR11, hR15, hx13, hB, hk, hob⟩)
  · obtain rfl : st13o5 = o := Option.some.inj ho
    obtain rfl : b5 = false := h0
    have hn := wayP_all (o := st13o5) hC h1 [(4, none), (2, some 4), (3, some 4)] [] nk rfl; repeat (obtain ⟨rfl, hn⟩ := hn)
    have hn := wayN_all hC (i := 5) rfl [(6, 5), (19, 6), (20, 5), (21, 5), (22, 5)] [] nk rfl; repeat (obtain ⟨rfl, hn⟩ := hn)
    obtain ⟨hS, hp, hX, hO1, hO2, hY, hT9, hR8, hR11, hR15, hx13, hB, hk, hob⟩ := hF
    refine wpOp_step (o := st13o5) rfl (fun K hK => ?_)
    replace hK := hid hK
    simp only [st13o5, st13T, sel_t, sel_f]
    go_simp
    exact hK.out _ _ (st13M X9 R8 R11 R15 x13 X18 G CP oo pp rfl rfl ⟨hS, hp, hX, hO1, hO2, hY, hT9, hR8, hR11, hR15, hx13, hB, hk, hob⟩)
  · obtain rfl : st13o6 = o := Option.some.inj ho
    obtain rfl : b6 = false := h0
    have hn := wayP_all (o := st13o6) hC h1 [(5, none), (4, some 5), (2, some 4), (3, some 4)] [] nk rfl; repeat (obtain ⟨rfl, hn⟩ := hn)
    have hn := wayN_all hC (i := 6) rfl [(19, 6), (20, 6), (21, 6), (22, 6)] [] nk rfl; repeat (obtain ⟨rfl, hn⟩ := hn)
    obtain ⟨hS, hp, hX, hO1, hO2, hY, hT9, hR8, hR11, hR15, hx13, hB, hk, hob⟩ := hF
    have c2 := (hX rfl).at_ (P.kS * 5 + 4) (by omega)
    rw [stF4] at c2
    refine wpOp_step (o := st13o6) rfl (fun K hK => ?_)
    replace hK := hid hK
    simp only [st13o6, st13T, sel_t, sel_f]
    go_simp
    exact hK.out _ _ (st13M X9 R8 R11 R15 x13 X18 G CP oo pp rfl rfl ⟨hS, hp, hX, hO1, hO2, hY, hT9, hR8, hR11, hR15, hx13, hB, hk, hob⟩)
  · obtain rfl : st13o7 = o := Option.some.inj ho
    obtain rfl : b7 = false := h0
    have hn := wayN_all hC (i := 7) rfl [(8, 7), (11, 8), (12, 11), (13, 12), (15, 11), (16, 15), (17, 8), (18, 17), (19, 15), (20, 7), (21, 7), (22, 7)] [] nk rfl; repeat (obtain ⟨rfl, hn⟩ := hn)
    obtain ⟨hS, hp, hX, hO1, hO2, hY, hT9, hR8, hR11, hR15, hx13, hB, hk, hob⟩ := hF
    simp only [Bool.toNat_false] at hp
    refine wpOp_step (o := st13o7) rfl (fun K hK => ?_)
    replace hK := hid hK
    simp only [st13o7, st13T, sel_f]
    go_simp
    exact hK.out _ _ (st13M X9 R8 R11 R15 x13 X18 G CP oo pp rfl rfl ⟨hS, hp, hX, hO1, hO2, hY, hT9, hR8, hR11, hR15, hx13, hB, hk, hob⟩)
  · obtain rfl : st13o8 = o := Option.some.inj ho
    obtain rfl : b8 = false := h0
    have hn := wayP_all (o := st13o8) hC h1 [(7, none)] [] nk rfl; repeat (obtain ⟨rfl, hn⟩ := hn)
    have hn := wayN_all hC (i := 8) rfl [(11, 8), (12, 11), (13, 12), (15, 11), (16, 15), (17, 8), (18, 17), (19, 15), (20, 8), (21, 8), (22, 8)] [] nk rfl; repeat (obtain ⟨rfl, hn⟩ := hn)
    obtain ⟨hS, hp, hX, hO1, hO2, hY, hT9, hR8, hR11, hR15, hx13, hB, hk, hob⟩ := hF
    simp only [Bool.toNat_false] at hp
    have hcB : P.c < P.w0.heap.size := hk.2.2.2.1
    refine wpOp_step (o := st13o8) rfl (fun K hK => ?_)
    replace hK := hid hK
    simp only [st13o8, st13T, sel_t, sel_f]
    go_simp
    refine (n_all P.W0 _ P.c P.a P.len P.cap pp 6 hS (by omega) (by omega) (by omega)).mono ?_
    rintro e w2 ⟨⟨r, rfl, h20, h21⟩, hs2, hg2⟩
    obtain ⟨R, rfl⟩ := Int.eq_ofNat_of_zero_le h20
    dsimp only
    exact hK.out _ _ (st13M X9 R R11 R15 x13 X18 G CP oo (pp + 1) rfl rfl ⟨hs2, by show pp + 1 ≤ P.p + 40 * (1 + 0 + 0); omega, fun h => (hX h).grow hg2, fun h => ⟨(hO1 h).1.keptC hg2 hk.2.2.2.1, (hO1 h).2⟩, fun h => Bool.noConfusion h, fun h => Bool.noConfusion h, fun h e => ⟨rowF (hT9 h e).1 hg2 (by have := (hT9 h e).2; omega), (hT9 h e).2⟩, fun _ => by omega, hR11, hR15, fun h => Bool.noConfusion h, fun h => Bool.noConfusion h, hk, hob⟩)
  · obtain rfl : st13o9 = o := Option.some.inj ho
    obtain rfl : b9 = false := h0
    have hn := wayN_all hC (i := 9) rfl [(12, 9), (13, 12), (17, 13), (18, 17), (19, 18), (20, 9), (21, 9), (22, 9)] [] nk rfl; repeat (obtain ⟨rfl, hn⟩ := hn)
    obtain ⟨hS, hp, hX, hO1, hO2, hY, hT9, hR8, hR11, hR15, hx13, hB, hk, hob⟩ := hF
    refine wpOp_step (o := st13o9) rfl (fun K hK => ?_)
    replace hK := hid hK
    simp only [st13o9, st13T, sel_f]
    go_simp
    exact hK.out _ _ (st13M w.heap.size R8 R11 R15 x13 X18 G CP oo pp rfl rfl ⟨hS.alloc _, hp, fun h => (hX h).alloc _, fun h => ⟨World.ownsRow.alloc (hO1 h).1 _, (hO1 h).2⟩, fun h => Bool.noConfusion h, fun h => Bool.noConfusion h, fun _ _ => ⟨RowAt.new w _ _, (hX rfl).gr.size⟩, hR8, hR11, hR15, fun h => Bool.noConfusion h, fun h => Bool.noConfusion h, hk, hob⟩)
  · obtain rfl : st13o10 = o := Option.some.inj ho
    obtain rfl : b10 = false := h0
    have hn := wayN_all hC (i := 10) rfl [(11, 10), (12, 11), (13, 12), (15, 11), (16, 15), (17, 13), (18, 17), (19, 15), (20, 10), (21, 10), (22, 10)] [] nk rfl; repeat (obtain ⟨rfl, hn⟩ := hn)
    obtain ⟨hS, hp, hX, hO1, hO2, hY, hT9, hR8, hR11, hR15, hx13, hB, hk, hob⟩ := hF
    simp only [Bool.toNat_false] at hp
    refine wpOp_step (o := st13o10) rfl (fun K hK => ?_)
    replace hK := hid hK
    simp only [st13o10, st13T, sel_f]
    go_simp
    exact hK.out _ _ (st13M X9 R8 R11 R15 x13 X18 G CP oo pp rfl rfl ⟨hS, hp, hX, hO1, hO2, hY, hT9, hR8, hR11, hR15, hx13, hB, hk, hob⟩)
  · obtain rfl : st13o11 = o := Option.some.inj ho
    obtain rfl : b11 = false := h0
    have hn := wayP_all (o := st13o11) hC h1 [(10, none), (8, none), (7, some 8)] [] nk rfl; repeat (obtain ⟨rfl, hn⟩ := hn)
    have hn := wayN_all hC (i := 11) rfl [(12, 11), (13, 12), (15, 11), (16, 15), (17, 13), (18, 17), (19, 15), (20, 11), (21, 11), (22, 11)] [] nk rfl; repeat (obtain ⟨rfl, hn⟩ := hn)
    obtain ⟨hS, hp, hX, hO1, hO2, hY, hT9, hR8, hR11, hR15, hx13, hB, hk, hob⟩ := hF
    simp only [Bool.toNat_true, Bool.toNat_false] at hp
    have hcB : P.c < P.w0.heap.size := hk.2.2.2.1
    refine wpOp_step (o := st13o11) rfl (fun K hK => ?_)
    replace hK := hid hK
    simp only [st13o11, st13T, sel_t, sel_f]
    go_simp
    refine (n_all P.W0 _ P.c P.a P.len P.cap pp 2 hS (by omega) (by omega) (by omega)).mono ?_
    rintro e w2 ⟨⟨r, rfl, h20, h21⟩, hs2, hg2⟩
    obtain ⟨R, rfl⟩ := Int.eq_ofNat_of_zero_le h20
    dsimp only
    exact hK.out _ _ (st13M X9 R8 R R15 x13 X18 G CP oo (pp + 1) rfl rfl ⟨hs2, by show pp + 1 ≤ P.p + 40 * (1 + 1 + 0); omega, fun h => (hX h).grow hg2, fun h => ⟨(hO1 h).1.keptC hg2 hk.2.2.2.1, (hO1 h).2⟩, fun h => Bool.noConfusion h, fun h => Bool.noConfusion h, fun h e => ⟨rowF (hT9 h e).1 hg2 (by have := (hT9 h e).2; omega), (hT9 h e).2⟩, hR8, fun _ => by omega, hR15, fun h => Bool.noConfusion h, fun h => Bool.noConfusion h, hk, hob⟩)
  · obtain rfl : st13o12 = o := Option.some.inj ho
    obtain rfl : b12 = false := h0
    have hn := wayP_all (o := st13o12) hC h1 [(11, none), (9, none), (8, some 11), (10, some 11), (7, some 8)] [] nk rfl; repeat (obtain ⟨rfl, hn⟩ := hn)
    have hn := wayN_all hC (i := 12) rfl [(13, 12), (17, 13), (18, 17), (19, 18), (20, 12), (21, 12), (22, 12)] [] nk rfl; repeat (obtain ⟨rfl, hn⟩ := hn)
    obtain ⟨hS, hp, hX, hO1, hO2, hY, hT9, hR8, hR11, hR15, hx13, hB, hk, hob⟩ := hF
    simp only [Bool.toNat_true] at hp
    have r := hR11 rfl
    have r0 : (R11 : Int) < 2 := by omega
    refine wpOp_step (o := st13o12) rfl (fun K hK => ?_)
    replace hK := hid hK
    simp only [st13o12, st13T, sel_t, sel_f]
    go_simp
    exact hK.out _ _ (st13M X9 R8 R11 R15 x13 X18 G CP oo pp rfl rfl ⟨hS, hp, hX, hO1, hO2, hY, hT9, hR8, hR11, hR15, hx13, hB, hk, hob⟩)
  · obtain rfl : st13o13 = o := Option.some.inj ho
    obtain rfl : b13 = false := h0
    have hn := wayP_all (o := st13o13) hC h1 [(12, none), (9, some 12), (11, some 12), (8, some 11), (10, some 11), (7, some 8)] [] nk rfl; repeat (obtain ⟨rfl, hn⟩ := hn)
    have hn := wayN_all hC (i := 13) rfl [(17, 13), (18, 17), (19, 18), (20, 13), (21, 13), (22, 13)] [] nk rfl; repeat (obtain ⟨rfl, hn⟩ := hn)
    obtain ⟨hS, hp, hX, hO1, hO2, hY, hT9, hR8, hR11, hR15, hx13, hB, hk, hob⟩ := hF
    simp only [Bool.toNat_true] at hp
    obtain ⟨k2, hk2, hkk⟩ := st13_tab9 R11 (hR11 rfl)
    have c2 := ((hT9 rfl rfl).1.cell R11).trans hk2
    refine wpOp_step (o := st13o13) rfl (fun K hK => ?_)
    replace hK := hid hK
    simp only [st13o13, st13T, sel_t, sel_f]
    go_simp
    exact hK.out _ _ (st13M X9 R8 R11 R15 k2 X18 G CP oo pp rfl rfl ⟨hS, hp, hX, hO1, fun h => Bool.noConfusion h, fun h => Bool.noConfusion h, fun _ h => Bool.noConfusion h, hR8, hR11, hR15, fun _ => hkk, fun h => Bool.noConfusion h, hk, hob⟩)
  · obtain rfl : st13o14 = o := Option.some.inj ho
    obtain rfl : b14 = false := h0
    have hn := wayN_all hC (i := 14) rfl [(15, 14), (16, 15), (17, 16), (18, 17), (19, 15), (20, 14), (21, 14), (22, 14)] [] nk rfl; repeat (obtain ⟨rfl, hn⟩ := hn)
    obtain ⟨hS, hp, hX, hO1, hO2, hY, hT9, hR8, hR11, hR15, hx13, hB, hk, hob⟩ := hF
    simp only [Bool.toNat_false] at hp
    refine wpOp_step (o := st13o14) rfl (fun K hK => ?_)
    replace hK := hid hK
    simp only [st13o14, st13T, sel_f]
    go_simp
    exact hK.out _ _ (st13M X9 R8 R11 R15 x13 X18 G CP oo pp rfl rfl ⟨hS, hp, hX, hO1, hO2, hY, hT9, hR8, hR11, hR15, hx13, hB, hk, hob⟩)
  · obtain rfl : st13o15 = o := Option.some.inj ho
    obtain rfl : b15 = false := h0
    have hn := wayP_all (o := st13o15) hC h1 [(14, none), (11, none), (8, some 11), (10, some 11), (7, some 8)] [] nk rfl; repeat (obtain ⟨rfl, hn⟩ := hn)
    have hn := wayN_all hC (i := 15) rfl [(16, 15), (17, 16), (18, 17), (19, 15), (20, 15), (21, 15), (22, 15)] [] nk rfl; repeat (obtain ⟨rfl, hn⟩ := hn)
    obtain ⟨hS, hp, hX, hO1, hO2, hY, hT9, hR8, hR11, hR15, hx13, hB, hk, hob⟩ := hF
    simp only [Bool.toNat_true, Bool.toNat_false] at hp
    have hcB : P.c < P.w0.heap.size := hk.2.2.2.1
    refine wpOp_step (o := st13o15) rfl (fun K hK => ?_)
    replace hK := hid hK
    simp only [st13o15, st13T, sel_t, sel_f]
    go_simp
    refine (n_all P.W0 _ P.c P.a P.len P.cap pp 3 hS (by omega) (by omega) (by omega)).mono ?_
    rintro e w2 ⟨⟨r, rfl, h20, h21⟩, hs2, hg2⟩
    obtain ⟨R, rfl⟩ := Int.eq_ofNat_of_zero_le h20
    dsimp only
    exact hK.out _ _ (st13M X9 R8 R11 R x13 X18 G CP oo (pp + 1) rfl rfl ⟨hs2, by show pp + 1 ≤ P.p + 40 * (1 + 1 + 1); omega, fun h => (hX h).grow hg2, fun h => ⟨(hO1 h).1.keptC hg2 hk.2.2.2.1, (hO1 h).2⟩, fun h => Bool.noConfusion h, fun h => Bool.noConfusion h, fun h e => ⟨rowF (hT9 h e).1 hg2 (by have := (hT9 h e).2; omega), (hT9 h e).2⟩, hR8, hR11, fun _ => by omega, hx13, fun h => Bool.noConfusion h, hk, hob⟩)
  · obtain rfl : st13o16 = o := Option.some.inj ho
    obtain rfl : b16 = false := h0
    have hn := wayP_all (o := st13o16) hC h1 [(15, none), (11, some 15), (14, some 15), (8, some 11), (10, some 11), (7, some 8)] [] nk rfl; repeat (obtain ⟨rfl, hn⟩ := hn)
    have hn := wayN_all hC (i := 16) rfl [(17, 16), (18, 17), (19, 18), (20, 16), (21, 16), (22, 16)] [] nk rfl; repeat (obtain ⟨rfl, hn⟩ := hn)
    obtain ⟨hS, hp, hX, hO1, hO2, hY, hT9, hR8, hR11, hR15, hx13, hB, hk, hob⟩ := hF
    simp only [Bool.toNat_true] at hp
    have r := hR15 rfl
    have wz : IntKind.i64.wrap ((R15 : Int) - 1) = (R15 : Int) - 1 := by simp [IntKind.wrap, IntKind.bits, IntKind.signed]; omega
    refine wpOp_step (o := st13o16) rfl (fun K hK => ?_)
    replace hK := hid hK
    simp only [st13o16, st13T, sel_t, sel_f]
    go_simp
    exact hK.out _ _ (st13M X9 R8 R11 R15 x13 X18 G CP oo pp rfl rfl ⟨hS, hp, hX, hO1, hO2, hY, hT9, hR8, hR11, hR15, hx13, hB, hk, hob⟩)
  · obtain rfl : st13o17 = o := Option.some.inj ho
    obtain rfl : b17 = false := h0
    have hn := wayP_all (o := st13o17) hC h1 [(16, none), (13, none), (8, none), (15, some 16), (11, some 15), (14, some 15), (12, some 13), (9, some 12), (10, some 11), (7, some 8)] [] nk rfl; repeat (obtain ⟨rfl, hn⟩ := hn)
    have hn := wayN_all hC (i := 17) rfl [(18, 17), (19, 18), (20, 17), (21, 17), (22, 17)] [] nk rfl; repeat (obtain ⟨rfl, hn⟩ := hn)
    obtain ⟨hS, hp, hX, hO1, hO2, hY, hT9, hR8, hR11, hR15, hx13, hB, hk, hob⟩ := hF
    simp only [Bool.toNat_true] at hp
    refine wpOp_step (o := st13o17) rfl (fun K hK => ?_)
    replace hK := hid hK
    simp only [st13o17, st13T, sel_t, sel_f]
    go_simp
    exact hK.out _ _ (st13M X9 R8 R11 R15 x13 X18 G CP oo pp rfl rfl ⟨hS, hp, hX, hO1, hO2, hY, hT9, hR8, hR11, hR15, hx13, hB, hk, hob⟩)
  · obtain rfl : st13o18 = o := Option.some.inj ho
    obtain rfl : b18 = false := h0
    have hn := wayP_all (o := st13o18) hC h1 [(17, none), (8, some 17), (13, some 17), (16, some 17), (15, some 16), (11, some 15), (14, some 15), (12, some 13), (9, some 12), (10, some 11), (7, some 8)] [] nk rfl; repeat (obtain ⟨rfl, hn⟩ := hn)
    have hn := wayN_all hC (i := 18) rfl [(19, 18), (20, 18), (21, 18), (22, 18)] [] nk rfl; repeat (obtain ⟨rfl, hn⟩ := hn)
    obtain ⟨hS, hp, hX, hO1, hO2, hY, hT9, hR8, hR11, hR15, hx13, hB, hk, hob⟩ := hF
    simp only [Bool.toNat_true] at hp
    refine wpOp_step (o := st13o18) rfl (fun K hK => ?_)
    replace hK := hid hK
    simp only [st13o18, st13T, sel_t, sel_f]
    go_simp
    exact hK.out _ _ (st13M X9 R8 R11 R15 x13 w.heap.size G CP oo pp rfl rfl ⟨hS.alloc _, hp, fun h => (hX h).alloc _, fun h => ⟨World.ownsRow.alloc (hO1 h).1 _, (hO1 h).2⟩, fun h => Bool.noConfusion h, fun h => Bool.noConfusion h, fun _ h => Bool.noConfusion h, hR8, hR11, hR15, hx13, fun _ _ => RowAt.new w _ _, hk, hob⟩)
  · obtain rfl : st13o19 = o := Option.some.inj ho
    obtain rfl : b19 = false := h0
    have hn := wayP_all (o := st13o19) hC h1 [(18, none), (15, none), (6, none), (17, some 18), (8, some 17), (13, some 17), (16, some 17), (11, some 15), (14, some 15), (12, some 13), (9, some 12), (10, some 11), (7, some 8), (5, some 6), (4, some 5), (2, some 4), (3, some 4)] [] nk rfl; repeat (obtain ⟨rfl, hn⟩ := hn)
    have hn := wayN_all hC (i := 19) rfl [(20, 19), (21, 19), (22, 19)] [] nk rfl; repeat (obtain ⟨rfl, hn⟩ := hn)
    obtain ⟨hS, hp, hX, hO1, hO2, hY, hT9, hR8, hR11, hR15, hx13, hB, hk, hob⟩ := hF
    simp only [Bool.toNat_true] at hp
    refine wpOp_step (o := st13o19) rfl (fun K hK => ?_)
    replace hK := hid hK
    have hO := hO1 rfl
    have hsx := hX rfl
    have hbb := hk
    refine step_append_cnE P.w0.heap.size _ (by rfl) _ _ (by rfl) _ P.xS (⟨(R8 : Int), x13, (R15 : Int) - 1⟩ : Cn) (by rfl) hO.1 hsx.gr.size X18 (hB rfl rfl) (by rfl) (by omega) ?_
    intro g3 c3 w3 hO3 hg3 hl3
    have hl4 : oo = some g3 ∨ w.heap.size ≤ g3 := by rw [hO.2]; exact hl3.imp id (fun e => by omega)
    have hob2 : ∀ b, oo = some b → P.w0.heap.size ≤ b ∧ b ≠ P.gS := by rw [hO.2]; exact hob
    have hg4 : w.grownBy w3 oo := by rw [hO.2]; exact hg3
    have hne : g3 ≠ P.gS := by
      rcases hl4 with e | e
      · exact (hob2 g3 e).2
      · have := hsx.row.lt; omega
    exact hK.out _ _ (st13M X9 R8 R11 R15 x13 X18 g3 c3 (some g3) pp rfl rfl ⟨hS.far hg4 (fun e => by have := (hob2 P.c e.symm).1; omega) (fun g e => by have := (hob2 g e).1; omega), hp, fun h => hsx.lies hg4 hl4 hob2, fun h => Bool.noConfusion h, fun _ => ⟨hO3, rfl, hne⟩, fun h => Bool.noConfusion h, fun _ h => Bool.noConfusion h, hR8, hR11, hR15, hx13, fun _ h => Bool.noConfusion h, hk, hob⟩)
  · obtain rfl : st13o20 = o := Option.some.inj ho
    obtain rfl : b20 = false := h0
    have hn := wayP_all (o := st13o20) hC h1 [(19, none), (18, none), (17, none), (16, none), (15, none), (14, none), (13, none), (12, none), (11, none), (10, none), (9, none), (8, none), (7, none), (6, none), (5, none), (4, none), (3, none), (2, none), (1, none), (0, none)] [] nk rfl; repeat (obtain ⟨rfl, hn⟩ := hn)
    have hn := wayN_all hC (i := 20) rfl [(21, 20), (22, 21)] [] nk rfl; repeat (obtain ⟨rfl, hn⟩ := hn)
    obtain ⟨hS, hp, hX, hO1, hO2, hY, hT9, hR8, hR11, hR15, hx13, hB, hk, hob⟩ := hF
    simp only [Bool.toNat_true] at hp
    have r0 : (P.kS : Int) < (P.nS : Int) := by omega
    refine wpOp_step (o := st13o20) rfl (fun K hK => ?_)
    replace hK := hid hK
    simp only [st13o20, st13T, sel_t, sel_f]
    go_simp
    exact hK.out _ _ (st13M X9 R8 R11 R15 x13 X18 G CP oo pp rfl rfl ⟨hS, hp, hX, hO1, hO2, hY, hT9, hR8, hR11, hR15, hx13, hB, hk, hob⟩)
  · obtain rfl : st13o21 = o := Option.some.inj ho
    obtain rfl : b21 = false := h0
    have hn := wayP_all (o := st13o21) hC h1 [(20, none), (19, none), (18, none), (17, none), (16, none), (15, none), (14, none), (13, none), (12, none), (11, none), (10, none), (9, none), (8, none), (7, none), (6, none), (5, none), (4, none), (3, none), (2, none), (1, none), (0, none)] [] nk rfl; repeat (obtain ⟨rfl, hn⟩ := hn)
    have hn := wayN_all hC (i := 21) rfl [(22, 21)] [] nk rfl; repeat (obtain ⟨rfl, hn⟩ := hn)
    obtain ⟨hS, hp, hX, hO1, hO2, hY, hT9, hR8, hR11, hR15, hx13, hB, hk, hob⟩ := hF
    simp only [Bool.toNat_true] at hp
    refine wpOp_step (o := st13o21) rfl (fun K hK => ?_)
    replace hK := hid hK
    simp only [st13o21, st13T, sel_t, sel_f]
    go_simp
    exact hK.out _ _ (st13M X9 R8 R11 R15 x13 X18 G CP oo pp rfl rfl ⟨hS, hp, hX, hO1, hO2, hY, hT9, hR8, hR11, hR15, hx13, hB, hk, hob⟩)
  · obtain rfl : st13o22 = o := Option.some.inj ho
    obtain rfl : b22 = false := h0
    have hn := wayP_all (o := st13o22) hC h1 [(21, none), (19, none), (18, none), (17, none), (16, none), (15, none), (14, none), (13, none), (12, none), (11, none), (10, none), (9, none), (8, none), (7, none), (6, none), (5, none), (4, none), (3, none), (2, none), (1, none), (0, none), (20, some 21)] [] nk rfl; repeat (obtain ⟨rfl, hn⟩ := hn)
    obtain ⟨hS, hp, hX, hO1, hO2, hY, hT9, hR8, hR11, hR15, hx13, hB, hk, hob⟩ := hF
    simp only [Bool.toNat_true] at hp
    have hsx := hX rfl
    have ncc := hsx.nc
    have q1 := hsx.row.at_ (P.kS * 5 + 4) (by omega)
    have q2 := hsx.row.free (P.kS * 5 + 4)
    obtain ⟨hO, hoo, hne⟩ := hO2 rfl
    rw [hoo] at hsx
    refine wpOp_step (o := st13o22) rfl (fun K hK => ?_)
    replace hK := hid hK
    simp only [st13o22, st13T, sel_t]
    go_simp
    exact hK.out _ _ (st13M X9 R8 R11 R15 x13 X18 G CP oo pp rfl rfl ⟨hS.set (by omega) _ _, hp, fun h => Bool.noConfusion h, fun h => Bool.noConfusion h, fun _ => ⟨hO.setC (fun g e => by have e2 : G = g := Option.some.inj e; omega), hoo, hne⟩, fun _ => hsx.set (R' := (stU P.RS P.kS { (P.RS P.kS) with cs := ⟨some ⟨G, 0, none⟩, P.xS.length + 1, CP, atC (P.xS ++ [(⟨(R8 : Int), x13, (R15 : Int) - 1⟩ : Cn)])⟩ })) _ _ (by rw [stF4, stU_k]) (fun q _ hq => stF_q _ _ P.kS 4 (by omega) (fun i hi => stU_o _ _ _ hi) (by rw [stU_k]; intro _; first | rfl | omega) (by rw [stU_k]; intro _; first | rfl | omega) (by rw [stU_k]; intro _; first | rfl | omega) (by rw [stU_k]; intro _; first | rfl | omega) (by rw [stU_k]; intro _; first | rfl | omega) q hq) (fun i _ hi => stU_o _ _ _ hi), fun _ h => Bool.noConfusion h, hR8, hR11, hR15, hx13, fun _ h => Bool.noConfusion h, hk, hob⟩)
set_option maxRecDepth 20000 in
set_option maxHeartbeats 4000000 in
theorem st13_wp {Q : Exit → Act → World → Prop} {rid : Nat} (W0 w0 : World) (c : Nat) (a : Option Addr) (len cap p gS cS nS kS : Nat) (fS : Nat → Value) (RS : Nat → St) (eS : St) (xS : List Cn) {s1 s2 s5 s6 s7 s8 s9 s10 s11 s12 s13 s14 s15 s16 s17 s18 s19 s20 s21 s22 s23 s24 s25 s26 s27 s28 s29 s30 s31 s32 s33 s34 s35 s36 s37 s38 s39 s40 s41 s42 s43 s44 s45 s46 s47 s48 s49 s50 s51 s52 s53 s54 s55 s56 s57 s58 s59 s60 s61 s62 s63 s64 s65 s66 s67 s68 s69 s70 s71 s72 s73 s74 s75 s76 s77 s78 s79 s80 s81 s82 s83 s84 s85 s86 s87 s88 s89 s90 s91 s92 s93 s94 s95 s96 s97 s98 s99 s100 s101 : Value} (w : World) (hS : Src W0 w c a len cap p) (hX : SX W0 w0 w c gS cS nS kS fS RS eS (Value.slice (RS kS).cs.ad (RS kS).cs.n (RS kS).cs.cap).ownBlock) (hO1 : OwnCn w w0.heap.size (.slice (RS kS).cs.ad (RS kS).cs.n (RS kS).cs.cap) xS) (hk : p ≤ 900000 ∧ kS < nS ∧ xS.length ≤ 1000000 ∧ c < w0.heap.size ∧ w0.heap.size ≤ gS ∧ W0.heap.size ≤ w0.heap.size) (hob : ∀ g, (Value.slice (RS kS).cs.ad (RS kS).cs.n (RS kS).cs.cap).ownBlock = some g → w0.heap.size ≤ g ∧ g ≠ gS)
    (fin : ∀ (X9 : Nat) (R8 : Nat) (R11 : Nat) (R15 : Nat) (x13 : ByteArray) (X18 : Nat) (G : Nat) (CP : Nat) (oo : Option Nat) (pp : Nat) (w' : World), (Src W0 w' c a len cap pp) → (pp ≤ p + 40 * (1 + 1 + 1)) → (OwnCn w' w0.heap.size (.slice (some ⟨G, 0, none⟩) (xS.length + 1) CP) (xS ++ [(⟨(R8 : Int), x13, (R15 : Int) - 1⟩ : Cn)]) ∧ oo = some G ∧ G ≠ gS) → (SX W0 w0 w' c gS cS nS kS (putF fS (kS * 5 + 4) (.slice (some ⟨G, 0, none⟩) (xS.length + 1) CP)) (stU RS kS { (RS kS) with cs := ⟨some ⟨G, 0, none⟩, xS.length + 1, CP, atC (xS ++ [(⟨(R8 : Int), x13, (R15 : Int) - 1⟩ : Cn)])⟩ }) eS (some G)) → (R8 < 6) → (R11 < 2) → (R15 < 3) → (x13.size ≤ 3) → (p ≤ 900000 ∧ kS < nS ∧ xS.length ≤ 1000000 ∧ c < w0.heap.size ∧ w0.heap.size ≤ gS ∧ W0.heap.size ≤ w0.heap.size) → (∀ g, (Value.slice (RS kS).cs.ad (RS kS).cs.n (RS kS).cs.cap).ownBlock = some g → w0.heap.size ≤ g ∧ g ≠ gS) → Q .normal { tmps := #[.pointer (some ⟨c, 0, none⟩), s1, s2, .slice (some ⟨gS, 0, none⟩) nS cS, .int .i64 (kS : Int), s5, s6, s7, s8, s9, s10, s11, s12, s13, s14, s15, s16, s17, s18, s19, s20, s21, s22, s23, s24, s25, s26, s27, s28, s29, s30, s31, s32, s33, s34, s35, s36, s37, s38, s39, s40, s41, s42, s43, s44, s45, s46, s47, s48, s49, s50, s51, s52, s53, s54, s55, s56, s57, s58, .slice (some ⟨gS, 0, none⟩) nS cS, .int .i64 (kS : Int), .slice (some ⟨gS, 0, none⟩) nS cS, .int .i64 (kS : Int), .pointer (some ⟨gS, kS * 5, none⟩), .pointer (some ⟨gS, kS * 5 + 4, none⟩), .slice (RS kS).cs.ad (RS kS).cs.n (RS kS).cs.cap, .pointer (some ⟨c, 0, none⟩), .int .i64 (R8 : Int), .slice (some ⟨X9, 0, none⟩) 2 2, .pointer (some ⟨c, 0, none⟩), .int .i64 (R11 : Int), .pointer (some ⟨X9, R11, none⟩), .string x13, .pointer (some ⟨c, 0, none⟩), .int .i64 (R15 : Int), .int .i64 ((R15 : Int) - 1), .agg #[.int .i64 (R8 : Int), .string x13, .int .i64 ((R15 : Int) - 1)], .slice (some ⟨X18, 0, none⟩) 1 1, .slice (some ⟨G, 0, none⟩) (xS.length + 1) CP, .pointer (some ⟨gS, kS * 5, none⟩), .pointer (some ⟨gS, kS * 5 + 4, none⟩), s81, s82, s83, s84, s85, s86, s87, s88, s89, s90, s91, s92, s93, s94, s95, s96, s97, s98, s99, s100, s101], defers := [] } w') :
    (Code.region rid st13O true).wp Tryz.prog Q { tmps := #[.pointer (some ⟨c, 0, none⟩), s1, s2, .slice (some ⟨gS, 0, none⟩) nS cS, .int .i64 (kS : Int), s5, s6, s7, s8, s9, s10, s11, s12, s13, s14, s15, s16, s17, s18, s19, s20, s21, s22, s23, s24, s25, s26, s27, s28, s29, s30, s31, s32, s33, s34, s35, s36, s37, s38, s39, s40, s41, s42, s43, s44, s45, s46, s47, s48, s49, s50, s51, s52, s53, s54, s55, s56, s57, s58, s59, s60, s61, s62, s63, s64, s65, s66, s67, s68, s69, s70, s71, s72, s73, s74, s75, s76, s77, s78, s79, s80, s81, s82, s83, s84, s85, s86, s87, s88, s89, s90, s91, s92, s93, s94, s95, s96, s97, s98, s99, s100, s101], defers := [] } w := by
  refine wp_region_inv (ops := st13O) (st13I ⟨W0, w0, c, a, len, cap, p, gS, cS, nS, kS, fS, RS, eS, xS, s1, s2, s5, s6, s7, s8, s9, s10, s11, s12, s13, s14, s15, s16, s17, s18, s19, s20, s21, s22, s23, s24, s25, s26, s27, s28, s29, s30, s31, s32, s33, s34, s35, s36, s37, s38, s39, s40, s41, s42, s43, s44, s45, s46, s47, s48, s49, s50, s51, s52, s53, s54, s55, s56, s57, s58, s59, s60, s61, s62, s63, s64, s65, s66, s67, s68, s69, s70, s71, s72, s73, s74, s75, s76, s77, s78, s79, s80, s81, s82, s83, s84, s85, s86, s87, s88, s89, s90, s91, s92, s93, s94, s95, s96, s97, s98, s99, s100, s101⟩) (by kernel_rfl) (by kernel_rfl) (fun l f v hI => ?_) (fun l f v hC hI i h0 o ho h1 => st13_step ⟨W0, w0, c, a, len, cap, p, gS, cS, nS, kS, fS, RS, eS, xS, s1, s2, s5, s6, s7, s8, s9, s10, s11, s12, s13, s14, s15, s16, s17, s18, s19, s20, s21, s22, s23, s24, s25, s26, s27, s28, s29, s30, s31, s32, s33, s34, s35, s36, s37, s38, s39, s40, s41, s42, s43, s44, s45, s46, s47, s48, s49, s50, s51, s52, s53, s54, s55, s56, s57, s58, s59, s60, s61, s62, s63, s64, s65, s66, s67, s68, s69, s70, s71, s72, s73, s74, s75, s76, s77, s78, s79, s80, s81, s82, s83, s84, s85, s86, s87, s88, s89, s90, s91, s92, s93, s94, s95, s96, s97, s98, s99, s100, s101⟩ l f v hC hI i h0 o ho h1) (fun l f v hI hall => ?_) ?_
  · obtain ⟨_, _, _, _, _, _, _, _, _, _, _, _, _, _, _, _, _, _, _, _, _, _, _, _, _, _, _, _, _, _, _, _, _, rfl, _⟩ := hI; rfl
  · obtain ⟨b0, b1, b2, b3, b4, b5, b6, b7, b8, b9, b10, b11, b12, b13, b14, b15, b16, b17, b18, b19, b20, b21, b22, X9, R8, R11, R15, x13, X18, G, CP, oo, pp, rfl, rfl, hS, hp, hX, hO1, hO2, hY, hT9, hR8, hR11, hR15, hx13, hB, hk, hob⟩ := hI
    have hn := allT hall [0, 1, 2, 3, 4, 5, 6, 7, 8, 9, 10, 11, 12, 13, 14, 15, 16, 17, 18, 19, 20, 21, 22] rfl; repeat (obtain ⟨rfl, hn⟩ := hn)
    exact fin X9 R8 R11 R15 x13 X18 G CP oo pp v hS hp (hO2 rfl) (hY rfl) (hR8 rfl) (hR11 rfl) (hR15 rfl) (hx13 rfl) hk hob
  · exact ⟨false, false, false, false, false, false, false, false, false, false, false, false, false, false, false, false, false, false, false, false, false, false, false, 0, 0, 0, 0, ⟨#[]⟩, 0, 0, 0, (Value.slice (RS kS).cs.ad (RS kS).cs.n (RS kS).cs.cap).ownBlock, p, rfl, rfl, hS.drew, Nat.le_add_right _ _, fun _ => hX.drew, fun _ => ⟨World.ownsRow.drew hO1, rfl⟩, fun h => Bool.noConfusion h, fun h => Bool.noConfusion h, fun h => Bool.noConfusion h, fun h => Bool.noConfusion h, fun h => Bool.noConfusion h, fun h => Bool.noConfusion h, fun h => Bool.noConfusion h, fun h => Bool.noConfusion h, hk, hob⟩
end Go.Proofs.YtmjolkagkeonfaaGreatDoor
