import Derived.Test.YtkcjigelenofhaaGreatDoorD2
import Derived.Test.YtkcjigelenofhaaGreatDoorD2
import Derived.Deep.RegionHeld3
import Derived.Deep.RegionWith
import Derived.WalkLawsBesides
import Derived.Deep.CutRange
namespace Go.Proofs.YtkcjigelenofhaaGreatDoor
open Go.RowKit
set_option linter.unusedVariables false
theorem rq9_tab9   (k : Nat) (hk : k < 3) : ∃ t : ByteArray, (#[.string ⟨#[]⟩, .string ⟨#[32, 120]⟩, .string ⟨#[58, 32, 121]⟩] : Array Value)[k]? = some (.string t) ∧ t.size ≤ 3 := by
 rcases (by omega : k = 0 ∨ k = 1 ∨ k = 2) with rfl | rfl | rfl
 all_goals exact ⟨_, rfl, by first | decide | assumption⟩
def rq9o0 : Oper := ⟨some 48, .fieldAddr 25 (.tmp 3) 3, 0, "l10_request.go:383", #[], none⟩
def rq9o1 : Oper := ⟨some 49, .load 23 (.tmp 48), 23, "l10_request.go:383", #[⟨0, .data⟩], none⟩
def rq9o2 : Oper := ⟨some 50, .move (.tmp 0), 61, "l10_request.go:383", #[], none⟩
def rq9o3 : Oper := ⟨some 51, .call { callee := .value (.func 68), args := #[.tmp 50], argTypes := #[61] }, 9, "l10_request.go:383", #[⟨2, .data⟩], none⟩
def rq9o4 : Oper := ⟨some 52, .move (.tmp 5), 2, "l10_request.go:383", #[], none⟩
def rq9o5 : Oper := ⟨some 53, .call { callee := .value (.func 50), args := #[.tmp 52], argTypes := #[2] }, 9, "l10_request.go:383", #[⟨4, .data⟩, ⟨3, .chain⟩], none⟩
def rq9o6 : Oper := ⟨some 54, .binOp .add 9 (.tmp 51) (.tmp 53) 9, 9, "l10_request.go:383", #[⟨3, .data⟩, ⟨5, .data⟩], none⟩
def rq9o7 : Oper := ⟨some 55, .move (.tmp 0), 61, "l10_request.go:383", #[], none⟩
def rq9o8 : Oper := ⟨some 56, .call { callee := .value (.func 68), args := #[.tmp 55], argTypes := #[61] }, 9, "l10_request.go:383", #[⟨7, .data⟩, ⟨5, .chain⟩], none⟩
def rq9o9 : Oper := ⟨some 57, .buildSlice 28 3 #[(0, .const (.string { data := #[] })), (1, .const (.string { data := #[32, 120] })), (2, .const (.string { data := #[58, 32, 121] }))], 28, "l10_request.go:383", #[], none⟩
def rq9o10 : Oper := ⟨some 58, .move (.tmp 0), 61, "l10_request.go:383", #[], none⟩
def rq9o11 : Oper := ⟨some 59, .call { callee := .value (.func 36), args := #[.tmp 58, .const (.int .i64 3)], argTypes := #[61, 2] }, 2, "l10_request.go:383", #[⟨10, .data⟩, ⟨8, .chain⟩], none⟩
def rq9o12 : Oper := ⟨some 60, .indexAddr 28 (.tmp 57) (.tmp 59), 0, "l10_request.go:383", #[⟨9, .data⟩, ⟨11, .data⟩], none⟩
def rq9o13 : Oper := ⟨some 61, .load 9 (.tmp 60), 9, "l10_request.go:383", #[⟨12, .data⟩], none⟩
def rq9o14 : Oper := ⟨some 62, .binOp .add 9 (.tmp 56) (.tmp 61) 9, 9, "l10_request.go:383", #[⟨8, .data⟩, ⟨13, .data⟩], none⟩
def rq9o15 : Oper := ⟨some 63, .build 66 #[(0, .tmp 54), (1, .tmp 62)], 66, "l10_request.go:383", #[⟨6, .data⟩, ⟨14, .data⟩], none⟩
def rq9o16 : Oper := ⟨some 64, .buildSlice 23 1 #[(0, .tmp 63)], 23, "l10_request.go:383", #[⟨15, .data⟩], none⟩
def rq9o17 : Oper := ⟨some 65, .call { callee := .builtin Builtin.append, args := #[.tmp 49, .tmp 64], argTypes := #[23, 23] }, 23, "l10_request.go:383", #[⟨1, .data⟩, ⟨16, .data⟩, ⟨11, .chain⟩], none⟩
def rq9o18 : Oper := ⟨some 66, .fieldAddr 25 (.tmp 3) 3, 0, "l10_request.go:383", #[⟨0, .phase⟩, ⟨1, .phase⟩, ⟨2, .phase⟩, ⟨3, .phase⟩, ⟨4, .phase⟩, ⟨5, .phase⟩, ⟨6, .phase⟩, ⟨7, .phase⟩, ⟨8, .phase⟩, ⟨9, .phase⟩, ⟨10, .phase⟩, ⟨11, .phase⟩, ⟨12, .phase⟩, ⟨13, .phase⟩, ⟨14, .phase⟩, ⟨15, .phase⟩, ⟨16, .phase⟩, ⟨17, .phase⟩], none⟩
def rq9o19 : Oper := ⟨none, .store 23 (.tmp 66) (.tmp 65), 0, "l10_request.go:383", #[⟨18, .data⟩, ⟨17, .data⟩, ⟨17, .chain⟩, ⟨0, .phase⟩, ⟨1, .phase⟩, ⟨2, .phase⟩, ⟨3, .phase⟩, ⟨4, .phase⟩, ⟨5, .phase⟩, ⟨6, .phase⟩, ⟨7, .phase⟩, ⟨8, .phase⟩, ⟨9, .phase⟩, ⟨10, .phase⟩, ⟨11, .phase⟩, ⟨12, .phase⟩, ⟨13, .phase⟩, ⟨14, .phase⟩, ⟨15, .phase⟩, ⟨16, .phase⟩, ⟨17, .phase⟩], none⟩
def rq9O : Array Oper := #[rq9o0, rq9o1, rq9o2, rq9o3, rq9o4, rq9o5, rq9o6, rq9o7, rq9o8, rq9o9, rq9o10, rq9o11, rq9o12, rq9o13, rq9o14, rq9o15, rq9o16, rq9o17, rq9o18, rq9o19]
structure rq9P where
 (W0 w0 : World)
 (c : Nat)
 (a : Option Addr)
 (len cap p XR XB B : Nat)
 (zr : Array Value)
 (y0 y1 y2 y4 : Value)
 (aL : Option Addr)
 (cL : Nat)
 (L : List Hp)
 (BO : Nat)
 (aO : Option Addr)
 (nO cO : Nat)
 (LO : List Hp)
 (kk : Nat)
 (s1 s4 s6 s7 s8 s9 s10 s11 s12 s13 s14 s15 s16 s17 s18 s19 s20 s21 s22 s23 s24 s25 s26 s27 s28 s29 s30 s31 s32 s33 s34 s35 s36 s37 s38 s39 s40 s41 s42 s43 s44 s45 s46 s47 s48 s49 s50 s51 s52 s53 s54 s55 s56 s57 s58 s59 s60 s61 s62 s63 s64 s65 s66 s67 s68 s69 s70 s71 s72 : Value)
def rq9T (P : rq9P) (x3 : ByteArray) (x5 : ByteArray) (x8 : ByteArray) (X9 : Nat) (R11 : Nat) (x13 : ByteArray) (X16 : Nat) (G : Nat) (CP : Nat) (pp : Nat) (b0 b1 b2 b3 b4 b5 b6 b7 b8 b9 b10 b11 b12 b13 b14 b15 b16 b17 b18 b19 : Bool) : Array Value := #[.pointer (some ⟨P.c, 0, none⟩), P.s1, .pointer (some ⟨P.XR, 0, none⟩), .pointer (some ⟨P.XB, 0, none⟩), P.s4, .int .i64 (P.kk : Int), P.s6, P.s7, P.s8, P.s9, P.s10, P.s11, P.s12, P.s13, P.s14, P.s15, P.s16, P.s17, P.s18, P.s19, P.s20, P.s21, P.s22, P.s23, P.s24, P.s25, P.s26, P.s27, P.s28, P.s29, P.s30, P.s31, P.s32, P.s33, P.s34, P.s35, P.s36, P.s37, P.s38, P.s39, P.s40, P.s41, P.s42, P.s43, P.s44, P.s45, P.s46, P.s47, sel b0 (.pointer (some ⟨P.XB, 3, none⟩)) (P.s48), sel b1 (.slice P.aL P.L.length P.cL) (P.s49), sel b2 (.pointer (some ⟨P.c, 0, none⟩)) (P.s50), sel b3 (.string x3) (P.s51), sel b4 (.int .i64 (P.kk : Int)) (P.s52), sel b5 (.string x5) (P.s53), sel b6 (.string (x3 ++ x5)) (P.s54), sel b7 (.pointer (some ⟨P.c, 0, none⟩)) (P.s55), sel b8 (.string x8) (P.s56), sel b9 (.slice (some ⟨X9, 0, none⟩) 3 3) (P.s57), sel b10 (.pointer (some ⟨P.c, 0, none⟩)) (P.s58), sel b11 (.int .i64 (R11 : Int)) (P.s59), sel b12 (.pointer (some ⟨X9, R11, none⟩)) (P.s60), sel b13 (.string x13) (P.s61), sel b14 (.string (x8 ++ x13)) (P.s62), sel b15 (.agg #[.string (x3 ++ x5), .string (x8 ++ x13)]) (P.s63), sel b16 (.slice (some ⟨X16, 0, none⟩) 1 1) (P.s64), sel b17 (.slice (some ⟨G, 0, none⟩) (P.L.length + 1) CP) (P.s65), sel b18 (.pointer (some ⟨P.XB, 3, none⟩)) (P.s66), P.s67, P.s68, P.s69, P.s70, P.s71, P.s72]
def rq9F (P : rq9P) (x3 : ByteArray) (x5 : ByteArray) (x8 : ByteArray) (X9 : Nat) (R11 : Nat) (x13 : ByteArray) (X16 : Nat) (G : Nat) (CP : Nat) (pp : Nat) (b0 b1 b2 b3 b4 b5 b6 b7 b8 b9 b10 b11 b12 b13 b14 b15 b16 b17 b18 b19 : Bool) (w : World) : Prop := (Src P.W0 w P.c P.a P.len P.cap pp) ∧ (pp ≤ P.p + 40 * (b3.toNat + b8.toNat + b11.toNat)) ∧ (P.w0.grownBy w (some P.c)) ∧ (RowAt w P.XB 25 (cond b19 #[P.y0, P.y1, P.y2, .slice (some ⟨G, 0, none⟩) (P.L.length + 1) CP, P.y4] #[P.y0, P.y1, P.y2, .slice P.aL P.L.length P.cL, P.y4])) ∧ (RowAt w P.XR 25 P.zr) ∧ (P.B ≤ w.heap.size) ∧ (P.c < P.XB ∧ P.c < P.B ∧ P.w0.heap.size ≤ P.B ∧ P.XR ≠ P.XB ∧ P.w0.heap.size ≤ P.XB ∧ P.W0.heap.size ≤ P.c ∧ P.p ≤ 900000 ∧ P.c ≠ P.XR) ∧ (b17 = false → OwnHp w P.B (.slice P.aL P.L.length P.cL) P.L) ∧ (b17 = true → OwnHp w P.B (.slice (some ⟨G, 0, none⟩) (P.L.length + 1) CP) (P.L ++ [(⟨(x3 ++ x5), (x8 ++ x13)⟩ : Hp)])) ∧ (P.L.length ≤ 1000) ∧ (OwnHp w P.BO (.slice P.aO P.nO P.cO) P.LO ∧ P.c < P.BO ∧ ((Value.slice P.aO P.nO P.cO).ownBlock = none ∨ (Value.slice P.aO P.nO P.cO).ownBlock ≠ (Value.slice P.aL P.L.length P.cL).ownBlock)) ∧ (P.kk < 50) ∧ (b3 = true → x3.size ≤ 6) ∧ (b5 = true → x5.size ≤ 2) ∧ (b8 = true → x8.size ≤ 6) ∧ (b9 = true → b17 = false → RowAt w X9 9 #[.string ⟨#[]⟩, .string ⟨#[32, 120]⟩, .string ⟨#[58, 32, 121]⟩] ∧ P.B ≤ X9) ∧ (b11 = true → R11 < 3) ∧ (b13 = true → x13.size ≤ 3) ∧ (b16 = true → b17 = false → RowAt w X16 66 #[.string (x3 ++ x5), .string (x8 ++ x13)] ∧ P.B ≤ X16)
def rq9I (P : rq9P) (l : Array Bool) (f : Act) (w : World) : Prop :=
 ∃ (b0 b1 b2 b3 b4 b5 b6 b7 b8 b9 b10 b11 b12 b13 b14 b15 b16 b17 b18 b19 : Bool) (x3 : ByteArray) (x5 : ByteArray) (x8 : ByteArray) (X9 : Nat) (R11 : Nat) (x13 : ByteArray) (X16 : Nat) (G : Nat) (CP : Nat) (pp : Nat), l = #[b0, b1, b2, b3, b4, b5, b6, b7, b8, b9, b10, b11, b12, b13, b14, b15, b16, b17, b18, b19] ∧ f = { tmps := rq9T P x3 x5 x8 X9 R11 x13 X16 G CP pp b0 b1 b2 b3 b4 b5 b6 b7 b8 b9 b10 b11 b12 b13 b14 b15 b16 b17 b18 b19, defers := [] } ∧ rq9F P x3 x5 x8 X9 R11 x13 X16 G CP pp b0 b1 b2 b3 b4 b5 b6 b7 b8 b9 b10 b11 b12 b13 b14 b15 b16 b17 b18 b19 w
theorem rq9M {P : rq9P} {b0 b1 b2 b3 b4 b5 b6 b7 b8 b9 b10 b11 b12 b13 b14 b15 b16 b17 b18 b19 : Bool} (x3 : ByteArray) (x5 : ByteArray) (x8 : ByteArray) (X9 : Nat) (R11 : Nat) (x13 : ByteArray) (X16 : Nat) (G : Nat) (CP : Nat) (pp : Nat) {l : Array Bool} {f : Act} {w : World} (hl : l = #[b0, b1, b2, b3, b4, b5, b6, b7, b8, b9, b10, b11, b12, b13, b14, b15, b16, b17, b18, b19]) (hf : f = { tmps := rq9T P x3 x5 x8 X9 R11 x13 X16 G CP pp b0 b1 b2 b3 b4 b5 b6 b7 b8 b9 b10 b11 b12 b13 b14 b15 b16 b17 b18 b19, defers := [] }) (h : rq9F P x3 x5 x8 X9 R11 x13 X16 G CP pp b0 b1 b2 b3 b4 b5 b6 b7 b8 b9 b10 b11 b12 b13 b14 b15 b16 b17 b18 b19 w) : rq9I P l f w := ⟨b0, b1, b2, b3, b4, b5, b6, b7, b8, b9, b10, b11, b12, b13, b14, b15, b16, b17, b18, b19, x3, x5, x8, X9, R11, x13, X16, G, CP, pp, hl, hf, h⟩
set_option maxRecDepth 20000 in
set_option maxHeartbeats 20000000 in
theorem rq9_step {Q : Exit → Act → World → Prop} (P : rq9P) (l : Array Bool) (f : Act) (w : World) (hC : Closed rq9O l) (hI : rq9I P l f w) (i : Nat) (h0 : l.getD i true = false) (o : Oper) (ho : rq9O[i]? = some o) (h1 : ∀ e ∈ o.after, Region.binds .any e = true → l.getD e.on false = true) : wpOp Tryz.prog rq9O Q i (rq9I P (l.setIfInBounds i true)) f w := by
 obtain ⟨b0, b1, b2, b3, b4, b5, b6, b7, b8, b9, b10, b11, b12, b13, b14, b15, b16, b17, b18, b19, x3, x5, x8, X9, R11, x13, X16, G, CP, pp, rfl, rfl, hF⟩ := hI
 have hi : i < 20 := by
  rcases Nat.lt_or_ge i 20 with h | h
  · exact h
  · rw [show rq9O[i]? = none from Array.getElem?_eq_none h] at ho; cases ho
 rcases (by omega : i = 0 ∨ i = 1 ∨ i = 2 ∨ i = 3 ∨ i = 4 ∨ i = 5 ∨ i = 6 ∨ i = 7 ∨ i = 8 ∨ i = 9 ∨ i = 10 ∨ i = 11 ∨ i = 12 ∨ i = 13 ∨ i = 14 ∨ i = 15 ∨ i = 16 ∨ i = 17 ∨ i = 18 ∨ i = 19) with rfl | rfl | rfl | rfl | rfl | rfl | rfl | rfl | rfl | rfl | rfl | rfl | rfl | rfl | rfl | rfl | rfl | rfl | rfl | rfl
 · obtain rfl : rq9o0 = o := Option.some.inj ho
   obtain rfl : b0 = false := h0
   have hn := wayN_all hC (i := 0) rfl [(1, 0), (17, 1), (18, 0), (19, 0)] [] nk rfl; repeat (obtain ⟨rfl, hn⟩ := hn)
   obtain ⟨hS, hp, hg, hbox, hR, hBz, hst, ho1, ho2, hLn, hoO, hex, hx3, hx5, hx8, hX9, hR11, hx13, hX16⟩ := hF
   refine wpOp_step (o := rq9o0) rfl (fun K hK => ?_)
   replace hK := hid hK
   simp only [rq9o0, rq9T, sel_f]
   go_simp
   exact hK.out _ _ (rq9M x3 x5 x8 X9 R11 x13 X16 G CP pp rfl rfl ⟨hS, hp, hg, hbox, hR, hBz, hst, ho1, ho2, hLn, hoO, hex, hx3, hx5, hx8, hX9, hR11, hx13, hX16⟩)
 · obtain rfl : rq9o1 = o := Option.some.inj ho
   obtain rfl : b1 = false := h0
   have hn := wayP_all (o := rq9o1) hC h1 [(0, none)] [] nk rfl; repeat (obtain ⟨rfl, hn⟩ := hn)
   have hn := wayN_all hC (i := 1) rfl [(17, 1), (18, 1), (19, 1)] [] nk rfl; repeat (obtain ⟨rfl, hn⟩ := hn)
   obtain ⟨hS, hp, hg, hbox, hR, hBz, hst, ho1, ho2, hLn, hoO, hex, hx3, hx5, hx8, hX9, hR11, hx13, hX16⟩ := hF
   have q := hbox.cell 3
   refine wpOp_step (o := rq9o1) rfl (fun K hK => ?_)
   replace hK := hid hK
   simp only [rq9o1, rq9T, sel_t, sel_f]
   go_simp
   exact hK.out _ _ (rq9M x3 x5 x8 X9 R11 x13 X16 G CP pp rfl rfl ⟨hS, hp, hg, hbox, hR, hBz, hst, ho1, ho2, hLn, hoO, hex, hx3, hx5, hx8, hX9, hR11, hx13, hX16⟩)
 · obtain rfl : rq9o2 = o := Option.some.inj ho
   obtain rfl : b2 = false := h0
   have hn := wayN_all hC (i := 2) rfl [(3, 2), (5, 3), (6, 3), (8, 5), (11, 8), (12, 11), (13, 12), (14, 8), (15, 6), (16, 15), (17, 11), (18, 2), (19, 2)] [] nk rfl; repeat (obtain ⟨rfl, hn⟩ := hn)
   obtain ⟨hS, hp, hg, hbox, hR, hBz, hst, ho1, ho2, hLn, hoO, hex, hx3, hx5, hx8, hX9, hR11, hx13, hX16⟩ := hF
   simp only [Bool.toNat_false] at hp
   refine wpOp_step (o := rq9o2) rfl (fun K hK => ?_)
   replace hK := hid hK
   simp only [rq9o2, rq9T, sel_f]
   go_simp
   exact hK.out _ _ (rq9M x3 x5 x8 X9 R11 x13 X16 G CP pp rfl rfl ⟨hS, hp, hg, hbox, hR, hBz, hst, ho1, ho2, hLn, hoO, hex, hx3, hx5, hx8, hX9, hR11, hx13, hX16⟩)
 · obtain rfl : rq9o3 = o := Option.some.inj ho
   obtain rfl : b3 = false := h0
   have hn := wayP_all (o := rq9o3) hC h1 [(2, none)] [] nk rfl; repeat (obtain ⟨rfl, hn⟩ := hn)
   have hn := wayN_all hC (i := 3) rfl [(5, 3), (6, 3), (8, 5), (11, 8), (12, 11), (13, 12), (14, 8), (15, 6), (16, 15), (17, 11), (18, 3), (19, 3)] [] nk rfl; repeat (obtain ⟨rfl, hn⟩ := hn)
   obtain ⟨hS, hp, hg, hbox, hR, hBz, hst, ho1, ho2, hLn, hoO, hex, hx3, hx5, hx8, hX9, hR11, hx13, hX16⟩ := hF
   simp only [Bool.toNat_false] at hp
   have hcB : P.c < P.B := by omega
   refine wpOp_step (o := rq9o3) rfl (fun K hK => ?_)
   replace hK := hid hK
   simp only [rq9o3, rq9T, sel_t, sel_f]
   go_simp
   refine (word_all P.W0 _ P.c P.a P.len P.cap pp hS (by omega)).mono ?_
   rintro e w2 ⟨⟨t2, rfl, ht2⟩, ⟨p3, hs2, hp3⟩, hg2⟩
   dsimp only
   exact hK.out _ _ (rq9M t2 x5 x8 X9 R11 x13 X16 G CP p3 rfl rfl ⟨hs2, by show p3 ≤ P.p + 40 * (1 + 0 + 0); omega, grown_trans hg hg2, rowF hbox hg2 hst.1, rowF2 hR hg2 hst.2.2.2.2.2.2.2, Nat.le_trans hBz hg2.size, hst, fun h => OwnHp.keptC (ho1 h) hg2 (by omega), fun h => Bool.noConfusion h, hLn, ⟨OwnHp.keptC hoO.1 hg2 hoO.2.1, hoO.2⟩, hex, fun _ => ht2, hx5, hx8, fun h e => ⟨rowF (hX9 h e).1 hg2 (by have := (hX9 h e).2; omega), (hX9 h e).2⟩, hR11, hx13, fun h => Bool.noConfusion h⟩)
 · obtain rfl : rq9o4 = o := Option.some.inj ho
   obtain rfl : b4 = false := h0
   have hn := wayN_all hC (i := 4) rfl [(5, 4), (6, 5), (8, 5), (11, 8), (12, 11), (13, 12), (14, 8), (15, 6), (16, 15), (17, 11), (18, 4), (19, 4)] [] nk rfl; repeat (obtain ⟨rfl, hn⟩ := hn)
   obtain ⟨hS, hp, hg, hbox, hR, hBz, hst, ho1, ho2, hLn, hoO, hex, hx3, hx5, hx8, hX9, hR11, hx13, hX16⟩ := hF
   simp only [Bool.toNat_false] at hp
   refine wpOp_step (o := rq9o4) rfl (fun K hK => ?_)
   replace hK := hid hK
   simp only [rq9o4, rq9T, sel_f]
   go_simp
   exact hK.out _ _ (rq9M x3 x5 x8 X9 R11 x13 X16 G CP pp rfl rfl ⟨hS, hp, hg, hbox, hR, hBz, hst, ho1, ho2, hLn, hoO, hex, hx3, hx5, hx8, hX9, hR11, hx13, hX16⟩)
 · obtain rfl : rq9o5 = o := Option.some.inj ho
   obtain rfl : b5 = false := h0
   have hn := wayP_all (o := rq9o5) hC h1 [(4, none), (3, none), (2, some 3)] [] nk rfl; repeat (obtain ⟨rfl, hn⟩ := hn)
   have hn := wayN_all hC (i := 5) rfl [(6, 5), (8, 5), (11, 8), (12, 11), (13, 12), (14, 8), (15, 6), (16, 15), (17, 11), (18, 5), (19, 5)] [] nk rfl; repeat (obtain ⟨rfl, hn⟩ := hn)
   obtain ⟨hS, hp, hg, hbox, hR, hBz, hst, ho1, ho2, hLn, hoO, hex, hx3, hx5, hx8, hX9, hR11, hx13, hX16⟩ := hF
   simp only [Bool.toNat_true, Bool.toNat_false] at hp
   refine wpOp_step (o := rq9o5) rfl (fun K hK => ?_)
   replace hK := hid hK
   simp only [rq9o5, rq9T, sel_t, sel_f]
   go_simp
   refine (dec_all P.kk (by omega) _).mono ?_
   rintro e w2 ⟨⟨t2, rfl, ht2⟩, hb2⟩
   dsimp only
   exact hK.out _ _ (rq9M x3 t2 x8 X9 R11 x13 X16 G CP pp rfl rfl ⟨Src.belowD hS hb2, hp, grown_trans hg (below_grown hb2 _), RowAt.nxD hb2 hbox, RowAt.nxD hb2 hR, Nat.le_trans hBz hb2.size, hst, fun h => OwnHp.next hb2 (ho1 h), fun h => Bool.noConfusion h, hLn, ⟨OwnHp.next hb2 hoO.1, hoO.2⟩, hex, hx3, fun _ => ht2, hx8, fun h e => ⟨RowAt.nxD hb2 (hX9 h e).1, (hX9 h e).2⟩, hR11, hx13, fun h => Bool.noConfusion h⟩)
 · obtain rfl : rq9o6 = o := Option.some.inj ho
   obtain rfl : b6 = false := h0
   have hn := wayP_all (o := rq9o6) hC h1 [(5, none), (3, none), (4, some 5), (2, some 3)] [] nk rfl; repeat (obtain ⟨rfl, hn⟩ := hn)
   have hn := wayN_all hC (i := 6) rfl [(15, 6), (16, 15), (17, 16), (18, 6), (19, 6)] [] nk rfl; repeat (obtain ⟨rfl, hn⟩ := hn)
   obtain ⟨hS, hp, hg, hbox, hR, hBz, hst, ho1, ho2, hLn, hoO, hex, hx3, hx5, hx8, hX9, hR11, hx13, hX16⟩ := hF
   simp only [Bool.toNat_true] at hp
   have za := hx3 rfl
   have zb := hx5 rfl
   have z1 : ¬ 9223372036854775807 < x3.size + x5.size := by omega
   refine wpOp_step (o := rq9o6) rfl (fun K hK => ?_)
   replace hK := hid hK
   simp only [rq9o6, rq9T, sel_t, sel_f]
   go_simp
   exact hK.out _ _ (rq9M x3 x5 x8 X9 R11 x13 X16 G CP pp rfl rfl ⟨hS, hp, hg, hbox, hR, hBz, hst, ho1, ho2, hLn, hoO, hex, hx3, hx5, hx8, hX9, hR11, hx13, hX16⟩)
 · obtain rfl : rq9o7 = o := Option.some.inj ho
   obtain rfl : b7 = false := h0
   have hn := wayN_all hC (i := 7) rfl [(8, 7), (11, 8), (12, 11), (13, 12), (14, 8), (15, 14), (16, 15), (17, 11), (18, 7), (19, 7)] [] nk rfl; repeat (obtain ⟨rfl, hn⟩ := hn)
   obtain ⟨hS, hp, hg, hbox, hR, hBz, hst, ho1, ho2, hLn, hoO, hex, hx3, hx5, hx8, hX9, hR11, hx13, hX16⟩ := hF
   simp only [Bool.toNat_false] at hp
   refine wpOp_step (o := rq9o7) rfl (fun K hK => ?_)
   replace hK := hid hK
   simp only [rq9o7, rq9T, sel_f]
   go_simp
   exact hK.out _ _ (rq9M x3 x5 x8 X9 R11 x13 X16 G CP pp rfl rfl ⟨hS, hp, hg, hbox, hR, hBz, hst, ho1, ho2, hLn, hoO, hex, hx3, hx5, hx8, hX9, hR11, hx13, hX16⟩)
 · obtain rfl : rq9o8 = o := Option.some.inj ho
   obtain rfl : b8 = false := h0
   have hn := wayP_all (o := rq9o8) hC h1 [(7, none), (5, none), (3, some 5), (4, some 5), (2, some 3)] [] nk rfl; repeat (obtain ⟨rfl, hn⟩ := hn)
   have hn := wayN_all hC (i := 8) rfl [(11, 8), (12, 11), (13, 12), (14, 8), (15, 14), (16, 15), (17, 11), (18, 8), (19, 8)] [] nk rfl; repeat (obtain ⟨rfl, hn⟩ := hn)
   obtain ⟨hS, hp, hg, hbox, hR, hBz, hst, ho1, ho2, hLn, hoO, hex, hx3, hx5, hx8, hX9, hR11, hx13, hX16⟩ := hF
   simp only [Bool.toNat_true, Bool.toNat_false] at hp
   have hcB : P.c < P.B := by omega
   refine wpOp_step (o := rq9o8) rfl (fun K hK => ?_)
   replace hK := hid hK
   simp only [rq9o8, rq9T, sel_t, sel_f]
   go_simp
   refine (word_all P.W0 _ P.c P.a P.len P.cap pp hS (by omega)).mono ?_
   rintro e w2 ⟨⟨t2, rfl, ht2⟩, ⟨p3, hs2, hp3⟩, hg2⟩
   dsimp only
   exact hK.out _ _ (rq9M x3 x5 t2 X9 R11 x13 X16 G CP p3 rfl rfl ⟨hs2, by show p3 ≤ P.p + 40 * (1 + 1 + 0); omega, grown_trans hg hg2, rowF hbox hg2 hst.1, rowF2 hR hg2 hst.2.2.2.2.2.2.2, Nat.le_trans hBz hg2.size, hst, fun h => OwnHp.keptC (ho1 h) hg2 (by omega), fun h => Bool.noConfusion h, hLn, ⟨OwnHp.keptC hoO.1 hg2 hoO.2.1, hoO.2⟩, hex, hx3, hx5, fun _ => ht2, fun h e => ⟨rowF (hX9 h e).1 hg2 (by have := (hX9 h e).2; omega), (hX9 h e).2⟩, hR11, hx13, fun h => Bool.noConfusion h⟩)
 · obtain rfl : rq9o9 = o := Option.some.inj ho
   obtain rfl : b9 = false := h0
   have hn := wayN_all hC (i := 9) rfl [(12, 9), (13, 12), (14, 13), (15, 14), (16, 15), (17, 16), (18, 9), (19, 9)] [] nk rfl; repeat (obtain ⟨rfl, hn⟩ := hn)
   obtain ⟨hS, hp, hg, hbox, hR, hBz, hst, ho1, ho2, hLn, hoO, hex, hx3, hx5, hx8, hX9, hR11, hx13, hX16⟩ := hF
   refine wpOp_step (o := rq9o9) rfl (fun K hK => ?_)
   replace hK := hid hK
   simp only [rq9o9, rq9T, sel_f]
   go_simp
   exact hK.out _ _ (rq9M x3 x5 x8 w.heap.size R11 x13 X16 G CP pp rfl rfl ⟨hS.alloc _, hp, grown_al hg _, hbox.alloc _, hR.alloc _, by simp only [World.size_alloc]; omega, hst, fun h => World.ownsRow.alloc (ho1 h) _, fun h => Bool.noConfusion h, hLn, ⟨World.ownsRow.alloc hoO.1 _, hoO.2⟩, hex, hx3, hx5, hx8, fun _ _ => ⟨RowAt.new w _ _, hBz⟩, hR11, hx13, fun h => Bool.noConfusion h⟩)
 · obtain rfl : rq9o10 = o := Option.some.inj ho
   obtain rfl : b10 = false := h0
   have hn := wayN_all hC (i := 10) rfl [(11, 10), (12, 11), (13, 12), (14, 13), (15, 14), (16, 15), (17, 11), (18, 10), (19, 10)] [] nk rfl; repeat (obtain ⟨rfl, hn⟩ := hn)
   obtain ⟨hS, hp, hg, hbox, hR, hBz, hst, ho1, ho2, hLn, hoO, hex, hx3, hx5, hx8, hX9, hR11, hx13, hX16⟩ := hF
   simp only [Bool.toNat_false] at hp
   refine wpOp_step (o := rq9o10) rfl (fun K hK => ?_)
   replace hK := hid hK
   simp only [rq9o10, rq9T, sel_f]
   go_simp
   exact hK.out _ _ (rq9M x3 x5 x8 X9 R11 x13 X16 G CP pp rfl rfl ⟨hS, hp, hg, hbox, hR, hBz, hst, ho1, ho2, hLn, hoO, hex, hx3, hx5, hx8, hX9, hR11, hx13, hX16⟩)
 · obtain rfl : rq9o11 = o := Option.some.inj ho
   obtain rfl : b11 = false := h0
   have hn := wayP_all (o := rq9o11) hC h1 [(10, none), (8, none), (5, some 8), (7, some 8), (3, some 5), (4, some 5), (2, some 3)] [] nk rfl; repeat (obtain ⟨rfl, hn⟩ := hn)
   have hn := wayN_all hC (i := 11) rfl [(12, 11), (13, 12), (14, 13), (15, 14), (16, 15), (17, 11), (18, 11), (19, 11)] [] nk rfl; repeat (obtain ⟨rfl, hn⟩ := hn)
   obtain ⟨hS, hp, hg, hbox, hR, hBz, hst, ho1, ho2, hLn, hoO, hex, hx3, hx5, hx8, hX9, hR11, hx13, hX16⟩ := hF
   simp only [Bool.toNat_true, Bool.toNat_false] at hp
   have hcB : P.c < P.B := by omega
   refine wpOp_step (o := rq9o11) rfl (fun K hK => ?_)
   replace hK := hid hK
   simp only [rq9o11, rq9T, sel_t, sel_f]
   go_simp
   refine (n_all P.W0 _ P.c P.a P.len P.cap pp 3 hS (by omega) (by omega) (by omega)).mono ?_
   rintro e w2 ⟨⟨r, rfl, h20, h21⟩, hs2, hg2⟩
   obtain ⟨R, rfl⟩ := Int.eq_ofNat_of_zero_le h20
   dsimp only
   exact hK.out _ _ (rq9M x3 x5 x8 X9 R x13 X16 G CP (pp + 1) rfl rfl ⟨hs2, by show pp + 1 ≤ P.p + 40 * (1 + 1 + 1); omega, grown_trans hg hg2, rowF hbox hg2 hst.1, rowF2 hR hg2 hst.2.2.2.2.2.2.2, Nat.le_trans hBz hg2.size, hst, fun h => OwnHp.keptC (ho1 h) hg2 (by omega), fun h => Bool.noConfusion h, hLn, ⟨OwnHp.keptC hoO.1 hg2 hoO.2.1, hoO.2⟩, hex, hx3, hx5, hx8, fun h e => ⟨rowF (hX9 h e).1 hg2 (by have := (hX9 h e).2; omega), (hX9 h e).2⟩, fun _ => by omega, hx13, fun h => Bool.noConfusion h⟩)
 · obtain rfl : rq9o12 = o := Option.some.inj ho
   obtain rfl : b12 = false := h0
   have hn := wayP_all (o := rq9o12) hC h1 [(11, none), (9, none), (8, some 11), (10, some 11), (5, some 8), (7, some 8), (3, some 5), (4, some 5), (2, some 3)] [] nk rfl; repeat (obtain ⟨rfl, hn⟩ := hn)
   have hn := wayN_all hC (i := 12) rfl [(13, 12), (14, 13), (15, 14), (16, 15), (17, 16), (18, 12), (19, 12)] [] nk rfl; repeat (obtain ⟨rfl, hn⟩ := hn)
   obtain ⟨hS, hp, hg, hbox, hR, hBz, hst, ho1, ho2, hLn, hoO, hex, hx3, hx5, hx8, hX9, hR11, hx13, hX16⟩ := hF
   simp only [Bool.toNat_true] at hp
   have r := hR11 rfl
   have r0 : (R11 : Int) < 3 := by omega
   refine wpOp_step (o := rq9o12) rfl (fun K hK => ?_)
   replace hK := hid hK
   simp only [rq9o12, rq9T, sel_t, sel_f]
   go_simp
   exact hK.out _ _ (rq9M x3 x5 x8 X9 R11 x13 X16 G CP pp rfl rfl ⟨hS, hp, hg, hbox, hR, hBz, hst, ho1, ho2, hLn, hoO, hex, hx3, hx5, hx8, hX9, hR11, hx13, hX16⟩)
 · obtain rfl : rq9o13 = o := Option.some.inj ho
   obtain rfl : b13 = false := h0
   have hn := wayP_all (o := rq9o13) hC h1 [(12, none), (9, some 12), (11, some 12), (8, some 11), (10, some 11), (5, some 8), (7, some 8), (3, some 5), (4, some 5), (2, some 3)] [] nk rfl; repeat (obtain ⟨rfl, hn⟩ := hn)
   have hn := wayN_all hC (i := 13) rfl [(14, 13), (15, 14), (16, 15), (17, 16), (18, 13), (19, 13)] [] nk rfl; repeat (obtain ⟨rfl, hn⟩ := hn)
   obtain ⟨hS, hp, hg, hbox, hR, hBz, hst, ho1, ho2, hLn, hoO, hex, hx3, hx5, hx8, hX9, hR11, hx13, hX16⟩ := hF
   simp only [Bool.toNat_true] at hp
   obtain ⟨tt, hk2, htt⟩ := rq9_tab9  R11 (hR11 rfl)
   have c2 := ((hX9 rfl rfl).1.cell R11).trans hk2
   refine wpOp_step (o := rq9o13) rfl (fun K hK => ?_)
   replace hK := hid hK
   simp only [rq9o13, rq9T, sel_t, sel_f]
   go_simp
   exact hK.out _ _ (rq9M x3 x5 x8 X9 R11 tt X16 G CP pp rfl rfl ⟨hS, hp, hg, hbox, hR, hBz, hst, ho1, fun h => Bool.noConfusion h, hLn, hoO, hex, hx3, hx5, hx8, hX9, hR11, fun _ => htt, fun h => Bool.noConfusion h⟩)
 · obtain rfl : rq9o14 = o := Option.some.inj ho
   obtain rfl : b14 = false := h0
   have hn := wayP_all (o := rq9o14) hC h1 [(13, none), (8, none), (12, some 13), (9, some 12), (11, some 12), (10, some 11), (5, some 8), (7, some 8), (3, some 5), (4, some 5), (2, some 3)] [] nk rfl; repeat (obtain ⟨rfl, hn⟩ := hn)
   have hn := wayN_all hC (i := 14) rfl [(15, 14), (16, 15), (17, 16), (18, 14), (19, 14)] [] nk rfl; repeat (obtain ⟨rfl, hn⟩ := hn)
   obtain ⟨hS, hp, hg, hbox, hR, hBz, hst, ho1, ho2, hLn, hoO, hex, hx3, hx5, hx8, hX9, hR11, hx13, hX16⟩ := hF
   simp only [Bool.toNat_true] at hp
   have za := hx8 rfl
   have zb := hx13 rfl
   have z1 : ¬ 9223372036854775807 < x8.size + x13.size := by omega
   refine wpOp_step (o := rq9o14) rfl (fun K hK => ?_)
   replace hK := hid hK
   simp only [rq9o14, rq9T, sel_t, sel_f]
   go_simp
   exact hK.out _ _ (rq9M x3 x5 x8 X9 R11 x13 X16 G CP pp rfl rfl ⟨hS, hp, hg, hbox, hR, hBz, hst, ho1, ho2, hLn, hoO, hex, hx3, hx5, hx8, hX9, hR11, hx13, hX16⟩)
 · obtain rfl : rq9o15 = o := Option.some.inj ho
   obtain rfl : b15 = false := h0
   have hn := wayP_all (o := rq9o15) hC h1 [(14, none), (6, none), (8, some 14), (13, some 14), (12, some 13), (9, some 12), (11, some 12), (10, some 11), (5, some 8), (7, some 8), (3, some 6), (4, some 5), (2, some 3)] [] nk rfl; repeat (obtain ⟨rfl, hn⟩ := hn)
   have hn := wayN_all hC (i := 15) rfl [(16, 15), (17, 16), (18, 15), (19, 15)] [] nk rfl; repeat (obtain ⟨rfl, hn⟩ := hn)
   obtain ⟨hS, hp, hg, hbox, hR, hBz, hst, ho1, ho2, hLn, hoO, hex, hx3, hx5, hx8, hX9, hR11, hx13, hX16⟩ := hF
   simp only [Bool.toNat_true] at hp
   refine wpOp_step (o := rq9o15) rfl (fun K hK => ?_)
   replace hK := hid hK
   simp only [rq9o15, rq9T, sel_t, sel_f]
   go_simp
   exact hK.out _ _ (rq9M x3 x5 x8 X9 R11 x13 X16 G CP pp rfl rfl ⟨hS, hp, hg, hbox, hR, hBz, hst, ho1, ho2, hLn, hoO, hex, hx3, hx5, hx8, hX9, hR11, hx13, hX16⟩)
 · obtain rfl : rq9o16 = o := Option.some.inj ho
   obtain rfl : b16 = false := h0
   have hn := wayP_all (o := rq9o16) hC h1 [(15, none), (6, some 15), (14, some 15), (8, some 14), (13, some 14), (12, some 13), (9, some 12), (11, some 12), (10, some 11), (5, some 8), (7, some 8), (3, some 6), (4, some 5), (2, some 3)] [] nk rfl; repeat (obtain ⟨rfl, hn⟩ := hn)
   have hn := wayN_all hC (i := 16) rfl [(17, 16), (18, 16), (19, 16)] [] nk rfl; repeat (obtain ⟨rfl, hn⟩ := hn)
   obtain ⟨hS, hp, hg, hbox, hR, hBz, hst, ho1, ho2, hLn, hoO, hex, hx3, hx5, hx8, hX9, hR11, hx13, hX16⟩ := hF
   simp only [Bool.toNat_true] at hp
   refine wpOp_step (o := rq9o16) rfl (fun K hK => ?_)
   replace hK := hid hK
   simp only [rq9o16, rq9T, sel_t, sel_f]
   go_simp
   exact hK.out _ _ (rq9M x3 x5 x8 X9 R11 x13 w.heap.size G CP pp rfl rfl ⟨hS.alloc _, hp, grown_al hg _, hbox.alloc _, hR.alloc _, by simp only [World.size_alloc]; omega, hst, fun h => World.ownsRow.alloc (ho1 h) _, fun h => Bool.noConfusion h, hLn, ⟨World.ownsRow.alloc hoO.1 _, hoO.2⟩, hex, hx3, hx5, hx8, fun h e => ⟨(hX9 h e).1.alloc _, (hX9 h e).2⟩, hR11, hx13, fun _ _ => ⟨RowAt.new w _ _, hBz⟩⟩)
 · obtain rfl : rq9o17 = o := Option.some.inj ho
   obtain rfl : b17 = false := h0
   have hn := wayP_all (o := rq9o17) hC h1 [(16, none), (11, none), (1, none), (15, some 16), (6, some 15), (14, some 15), (8, some 14), (13, some 14), (12, some 13), (9, some 12), (10, some 11), (5, some 8), (7, some 8), (3, some 6), (4, some 5), (2, some 3), (0, some 1)] [] nk rfl; repeat (obtain ⟨rfl, hn⟩ := hn)
   have hn := wayN_all hC (i := 17) rfl [(18, 17), (19, 17)] [] nk rfl; repeat (obtain ⟨rfl, hn⟩ := hn)
   obtain ⟨hS, hp, hg, hbox, hR, hBz, hst, ho1, ho2, hLn, hoO, hex, hx3, hx5, hx8, hX9, hR11, hx13, hX16⟩ := hF
   simp only [Bool.toNat_true] at hp
   refine wpOp_step (o := rq9o17) rfl (fun K hK => ?_)
   replace hK := hid hK
   have hO := ho1 rfl
   refine step_append_hpD P.B _ (by rfl) _ _ 23 (by rfl) Tryz.underlying23 Tryz.infoHpF _ P.L (x3 ++ x5) (x8 ++ x13) (by rfl) hO hBz X16 (hX16 rfl rfl).1 (by rfl) (by omega) ?_
   intro g3 c3 w3 hO3 hg3
   exact hK.out _ _ (rq9M x3 x5 x8 X9 R11 x13 X16 g3 c3 pp rfl rfl ⟨hS.far hg3 (OwnHp.apart hO (by omega)) (fun g hg => by have := (World.ownsRow.lt hO _ hg).1; omega), hp, grown_own hg hg3 (fun g hg => (World.ownsRow.lt hO _ hg).1) (by omega), row_grown hbox hg3 (OwnHp.neRow hO hbox (by decide)), row_grown hR hg3 (OwnHp.neRow hO hR (by decide)), Nat.le_trans hBz hg3.size, hst, fun h => Bool.noConfusion h, fun _ => hO3, hLn, ⟨World.ownsRow.kept hoO.1 hg3 hoO.2.2, hoO.2⟩, hex, hx3, hx5, hx8, fun h e => Bool.noConfusion e, hR11, hx13, fun h e => Bool.noConfusion e⟩)
 · obtain rfl : rq9o18 = o := Option.some.inj ho
   obtain rfl : b18 = false := h0
   have hn := wayP_all (o := rq9o18) hC h1 [(17, none), (16, none), (15, none), (14, none), (13, none), (12, none), (11, none), (10, none), (9, none), (8, none), (7, none), (6, none), (5, none), (4, none), (3, none), (2, none), (1, none), (0, none)] [] nk rfl; repeat (obtain ⟨rfl, hn⟩ := hn)
   have hn := wayN_all hC (i := 18) rfl [(19, 18)] [] nk rfl; repeat (obtain ⟨rfl, hn⟩ := hn)
   obtain ⟨hS, hp, hg, hbox, hR, hBz, hst, ho1, ho2, hLn, hoO, hex, hx3, hx5, hx8, hX9, hR11, hx13, hX16⟩ := hF
   simp only [Bool.toNat_true] at hp
   refine wpOp_step (o := rq9o18) rfl (fun K hK => ?_)
   replace hK := hid hK
   simp only [rq9o18, rq9T, sel_t, sel_f]
   go_simp
   exact hK.out _ _ (rq9M x3 x5 x8 X9 R11 x13 X16 G CP pp rfl rfl ⟨hS, hp, hg, hbox, hR, hBz, hst, ho1, ho2, hLn, hoO, hex, hx3, hx5, hx8, hX9, hR11, hx13, hX16⟩)
 · obtain rfl : rq9o19 = o := Option.some.inj ho
   obtain rfl : b19 = false := h0
   have hn := wayP_all (o := rq9o19) hC h1 [(18, none), (17, none), (16, none), (15, none), (14, none), (13, none), (12, none), (11, none), (10, none), (9, none), (8, none), (7, none), (6, none), (5, none), (4, none), (3, none), (2, none), (1, none), (0, none)] [] nk rfl; repeat (obtain ⟨rfl, hn⟩ := hn)
   obtain ⟨hS, hp, hg, hbox, hR, hBz, hst, ho1, ho2, hLn, hoO, hex, hx3, hx5, hx8, hX9, hR11, hx13, hX16⟩ := hF
   simp only [Bool.toNat_true] at hp
   have hbx : RowAt w P.XB 25 #[P.y0, P.y1, P.y2, .slice P.aL P.L.length P.cL, P.y4] := hbox
   have q := hbx.cell 3
   have f := hbx.free 3
   refine wpOp_step (o := rq9o19) rfl (fun K hK => ?_)
   replace hK := hid hK
   simp only [rq9o19, rq9T, sel_t]
   go_simp
   exact hK.out _ _ (rq9M x3 x5 x8 X9 R11 x13 X16 G CP pp rfl rfl ⟨hS.set hst.1 3 _, hp, grown_far hg hst.2.2.2.2.1 3 _, hbx.set 3 _, hR.other ⟨P.XB, 3, none⟩ _ hst.2.2.2.1, by simp; omega, hst, fun h => Bool.noConfusion h, fun h => OwnHp.setCellN (ho2 h) (OwnHp.neRow (ho2 h) hbx (by decide)), hLn, ⟨OwnHp.setCellN hoO.1 (OwnHp.neRow hoO.1 hbx (by decide)), hoO.2⟩, hex, hx3, hx5, hx8, fun h e => Bool.noConfusion e, hR11, hx13, fun h e => Bool.noConfusion e⟩)
set_option maxRecDepth 20000 in
set_option maxHeartbeats 4000000 in
theorem rq9_wp {Q : Exit → Act → World → Prop} {rid : Nat} (W0 w0 : World) (c : Nat) (a : Option Addr) (len cap p XR XB B : Nat) (zr : Array Value) (y0 y1 y2 y4 : Value) (aL : Option Addr) (cL : Nat) (L : List Hp) (BO : Nat) (aO : Option Addr) (nO cO : Nat) (LO : List Hp) (kk : Nat) {s1 s4 s6 s7 s8 s9 s10 s11 s12 s13 s14 s15 s16 s17 s18 s19 s20 s21 s22 s23 s24 s25 s26 s27 s28 s29 s30 s31 s32 s33 s34 s35 s36 s37 s38 s39 s40 s41 s42 s43 s44 s45 s46 s47 s48 s49 s50 s51 s52 s53 s54 s55 s56 s57 s58 s59 s60 s61 s62 s63 s64 s65 s66 s67 s68 s69 s70 s71 s72 : Value} (w : World) (hS : Src W0 w c a len cap p) (hg : w0.grownBy w (some c)) (hbox : RowAt w XB 25 #[y0, y1, y2, .slice aL L.length cL, y4]) (hR : RowAt w XR 25 zr) (hBz : B ≤ w.heap.size) (hst : c < XB ∧ c < B ∧ w0.heap.size ≤ B ∧ XR ≠ XB ∧ w0.heap.size ≤ XB ∧ W0.heap.size ≤ c ∧ p ≤ 900000 ∧ c ≠ XR) (ho1 : OwnHp w B (.slice aL L.length cL) L) (hLn : L.length ≤ 1000) (hoO : OwnHp w BO (.slice aO nO cO) LO ∧ c < BO ∧ ((Value.slice aO nO cO).ownBlock = none ∨ (Value.slice aO nO cO).ownBlock ≠ (Value.slice aL L.length cL).ownBlock)) (hex : kk < 50)
 (fin : ∀ (x3 : ByteArray) (x5 : ByteArray) (x8 : ByteArray) (X9 : Nat) (R11 : Nat) (x13 : ByteArray) (X16 : Nat) (G : Nat) (CP : Nat) (pp : Nat) (w' : World), (Src W0 w' c a len cap pp) → (pp ≤ p + 40 * (1 + 1 + 1)) → (w0.grownBy w' (some c)) → (RowAt w' XB 25 #[y0, y1, y2, .slice (some ⟨G, 0, none⟩) (L.length + 1) CP, y4]) → (RowAt w' XR 25 zr) → (B ≤ w'.heap.size) → (c < XB ∧ c < B ∧ w0.heap.size ≤ B ∧ XR ≠ XB ∧ w0.heap.size ≤ XB ∧ W0.heap.size ≤ c ∧ p ≤ 900000 ∧ c ≠ XR) → (OwnHp w' B (.slice (some ⟨G, 0, none⟩) (L.length + 1) CP) (L ++ [(⟨(x3 ++ x5), (x8 ++ x13)⟩ : Hp)])) → (L.length ≤ 1000) → (OwnHp w' BO (.slice aO nO cO) LO ∧ c < BO ∧ ((Value.slice aO nO cO).ownBlock = none ∨ (Value.slice aO nO cO).ownBlock ≠ (Value.slice aL L.length cL).ownBlock)) → (kk < 50) → (x3.size ≤ 6) → (x5.size ≤ 2) → (x8.size ≤ 6) → (R11 < 3) → (x13.size ≤ 3) → Q .normal { tmps := #[.pointer (some ⟨c, 0, none⟩), s1, .pointer (some ⟨XR, 0, none⟩), .pointer (some ⟨XB, 0, none⟩), s4, .int .i64 (kk : Int), s6, s7, s8, s9, s10, s11, s12, s13, s14, s15, s16, s17, s18, s19, s20, s21, s22, s23, s24, s25, s26, s27, s28, s29, s30, s31, s32, s33, s34, s35, s36, s37, s38, s39, s40, s41, s42, s43, s44, s45, s46, s47, .pointer (some ⟨XB, 3, none⟩), .slice aL L.length cL, .pointer (some ⟨c, 0, none⟩), .string x3, .int .i64 (kk : Int), .string x5, .string (x3 ++ x5), .pointer (some ⟨c, 0, none⟩), .string x8, .slice (some ⟨X9, 0, none⟩) 3 3, .pointer (some ⟨c, 0, none⟩), .int .i64 (R11 : Int), .pointer (some ⟨X9, R11, none⟩), .string x13, .string (x8 ++ x13), .agg #[.string (x3 ++ x5), .string (x8 ++ x13)], .slice (some ⟨X16, 0, none⟩) 1 1, .slice (some ⟨G, 0, none⟩) (L.length + 1) CP, .pointer (some ⟨XB, 3, none⟩), s67, s68, s69, s70, s71, s72], defers := [] } w') :
 (Code.region rid rq9O true).wp Tryz.prog Q { tmps := #[.pointer (some ⟨c, 0, none⟩), s1, .pointer (some ⟨XR, 0, none⟩), .pointer (some ⟨XB, 0, none⟩), s4, .int .i64 (kk : Int), s6, s7, s8, s9, s10, s11, s12, s13, s14, s15, s16, s17, s18, s19, s20, s21, s22, s23, s24, s25, s26, s27, s28, s29, s30, s31, s32, s33, s34, s35, s36, s37, s38, s39, s40, s41, s42, s43, s44, s45, s46, s47, s48, s49, s50, s51, s52, s53, s54, s55, s56, s57, s58, s59, s60, s61, s62, s63, s64, s65, s66, s67, s68, s69, s70, s71, s72], defers := [] } w := by
 refine wp_region_inv (ops := rq9O) (rq9I ⟨W0, w0, c, a, len, cap, p, XR, XB, B, zr, y0, y1, y2, y4, aL, cL, L, BO, aO, nO, cO, LO, kk, s1, s4, s6, s7, s8, s9, s10, s11, s12, s13, s14, s15, s16, s17, s18, s19, s20, s21, s22, s23, s24, s25, s26, s27, s28, s29, s30, s31, s32, s33, s34, s35, s36, s37, s38, s39, s40, s41, s42, s43, s44, s45, s46, s47, s48, s49, s50, s51, s52, s53, s54, s55, s56, s57, s58, s59, s60, s61, s62, s63, s64, s65, s66, s67, s68, s69, s70, s71, s72⟩) (by kernel_rfl) (by kernel_rfl) (fun l f v hI => ?_) (fun l f v hC hI i h0 o ho h1 => rq9_step ⟨W0, w0, c, a, len, cap, p, XR, XB, B, zr, y0, y1, y2, y4, aL, cL, L, BO, aO, nO, cO, LO, kk, s1, s4, s6, s7, s8, s9, s10, s11, s12, s13, s14, s15, s16, s17, s18, s19, s20, s21, s22, s23, s24, s25, s26, s27, s28, s29, s30, s31, s32, s33, s34, s35, s36, s37, s38, s39, s40, s41, s42, s43, s44, s45, s46, s47, s48, s49, s50, s51, s52, s53, s54, s55, s56, s57, s58, s59, s60, s61, s62, s63, s64, s65, s66, s67, s68, s69, s70, s71, s72⟩ l f v hC hI i h0 o ho h1) (fun l f v hI hall => ?_) ?_
 · obtain ⟨_, _, _, _, _, _, _, _, _, _, _, _, _, _, _, _, _, _, _, _, _, _, _, _, _, _, _, _, _, _, rfl, _⟩ := hI; rfl
 · obtain ⟨b0, b1, b2, b3, b4, b5, b6, b7, b8, b9, b10, b11, b12, b13, b14, b15, b16, b17, b18, b19, x3, x5, x8, X9, R11, x13, X16, G, CP, pp, rfl, rfl, hS, hp, hg, hbox, hR, hBz, hst, ho1, ho2, hLn, hoO, hex, hx3, hx5, hx8, hX9, hR11, hx13, hX16⟩ := hI
   have hn := allT hall [0, 1, 2, 3, 4, 5, 6, 7, 8, 9, 10, 11, 12, 13, 14, 15, 16, 17, 18, 19] rfl; repeat (obtain ⟨rfl, hn⟩ := hn)
   exact fin x3 x5 x8 X9 R11 x13 X16 G CP pp v hS hp hg hbox hR hBz hst (ho2 rfl) hLn hoO hex (hx3 rfl) (hx5 rfl) (hx8 rfl) (hR11 rfl) (hx13 rfl)
 · exact ⟨false, false, false, false, false, false, false, false, false, false, false, false, false, false, false, false, false, false, false, false, ⟨#[]⟩, ⟨#[]⟩, ⟨#[]⟩, 0, 0, ⟨#[]⟩, 0, 0, 0, p, rfl, rfl, hS.drew, Nat.le_add_right _ _, grown_trans hg (grown_drewS _ _), hbox.drew, hR.drew, hBz, hst, fun _ => World.ownsRow.drew ho1, fun h => Bool.noConfusion h, hLn, ⟨World.ownsRow.drew hoO.1, hoO.2⟩, hex, fun h => Bool.noConfusion h, fun h => Bool.noConfusion h, fun h => Bool.noConfusion h, fun h => Bool.noConfusion h, fun h => Bool.noConfusion h, fun h => Bool.noConfusion h, fun h => Bool.noConfusion h⟩
end Go.Proofs.YtkcjigelenofhaaGreatDoor
namespace Go.Proofs.YtkcjigelenofhaaGreatDoor
open Go.RowKit
theorem OwnHp.setQ {w : World} {base : Nat} {v : Value} {L : List Hp} (h : OwnHp w base v L) (a : Addr) (x : Value) (hb : a.block < base) : OwnHp (w.setCell a x) base v L := by
 refine ⟨h.1, ?_⟩
 rcases h.2 with h2 | ⟨g, cap, cur, e1, e2, e3, e4⟩
 · exact .inl h2
 · exact .inr ⟨g, cap, cur, e1, e2, (show RowAt w g _ cur from e3).other a x (by omega), e4⟩
attribute [local go_sem ↓] Go.wp_at_zero Go.wp_at_succ
theorem grown_refl (w : World) (r : Option Nat) : w.grownBy w r := ⟨rfl, rfl, rfl, Nat.le_refl _, fun _ _ _ => rfl⟩
theorem hp_len (Q : List Hp) (x : Hp) : (Q ++ [x]).length = Q.length + 1 := by simp
theorem apart2 {w : World} {B : Nat} {u v : Value} {L : List Hp} (h : ∀ g, u.ownBlock = some g → g < B) (hO : OwnHp w B v L) : u.ownBlock = none ∨ u.ownBlock ≠ v.ownBlock := by
 cases hu : u.ownBlock with
 | none => exact .inl rfl
 | some g => exact .inr fun e => by have := h g hu; have := (World.ownsRow.lt hO g e.symm).1; omega
theorem mem_app {Q : List Hp} {x : Hp} {P : Hp → Prop} (h : ∀ q ∈ Q, P q) (hx : P x) : ∀ q ∈ Q ++ [x], P q := fun q hq => by
 rcases List.mem_append.1 hq with h1 | h1
 · exact h q h1
 · rw [List.mem_singleton.1 h1]; exact hx
def DrawnRq (W0 w : World) (c : Nat) (a : Option Addr) (len cap p : Nat) (e : Ending) (w' : World) : Prop :=
 ∃ (m pt b : ByteArray) (Q H : List Hp) (a1 : Option Addr) (c1 : Nat) (a2 : Option Addr) (c2 B1 B2 p' : Nat),
  e = .returned (.agg #[.string m, .string pt, .slice a1 Q.length c1, .slice a2 H.length c2, .string b]) ∧ (m.size ≤ 6 ∧ pt.size ≤ 20 ∧ b.size ≤ 20 ∧ Q.length ≤ 3 ∧ H.length ≤ 3 ∧ (∀ x ∈ Q, x.nm.size ≤ 20 ∧ x.vl.size ≤ 20) ∧ ∀ x ∈ H, x.nm.size ≤ 20 ∧ x.vl.size ≤ 20) ∧
  OwnHp w' B1 (.slice a1 Q.length c1) Q ∧ OwnHp w' B2 (.slice a2 H.length c2) H ∧ w.heap.size ≤ B1 ∧ w.heap.size ≤ B2 ∧ (∀ g, (Value.slice a1 Q.length c1).ownBlock = some g → g < B2) ∧ (B1 ≤ w'.heap.size ∧ B2 ≤ w'.heap.size) ∧ Src W0 w' c a len cap p' ∧ p' ≤ p + 3000 ∧ w.grownBy w' (some c)
set_option maxRecDepth 20000 in
set_option maxHeartbeats 8000000 in
theorem request_all (W0 w : World) (c : Nat) (a : Option Addr) (len cap p : Nat) (h : Src W0 w c a len cap p) (hp : p ≤ 800000) :
 Calls Tryz.prog 32 #[.pointer (some ⟨c, 0, none⟩)] w fun e w' => DrawnRq W0 w c a len cap p e w' := by
 have hcl := h.lt
 have hw0 := h.2.2.2.2
 obtain ⟨W1, hW1⟩ : ∃ W, W = w.alloc (.cells #[.string ⟨#[]⟩, .string ⟨#[]⟩, .slice none 0 0, .slice none 0 0, .string ⟨#[]⟩] 25) := ⟨_, rfl⟩
 have S0 : Hid (Src W0 W1 c a len cap p) := by rw [hW1]; exact h.alloc _
 have G0 : Hid (w.grownBy W1 (some c)) := by rw [hW1]; exact World.grownBy_alloc w _ _
 have RR : Hid (RowAt W1 w.heap.size 25 #[.string ⟨#[]⟩, .string ⟨#[]⟩, .slice none 0 0, .slice none 0 0, .string ⟨#[]⟩]) := by rw [hW1]; exact RowAt.new _ _ _
 have hc1 : c < W1.heap.size := S0.out.lt
 have hs1 : w.heap.size < W1.heap.size := RR.out.lt
 have HW1 := hid hW1
 clear h hW1
 go_enter Tryz.func32, Tryz.ntmps32
 go_upto_region 1 with fail
 rw [← HW1.out]
 refine rq1_wp W0 W1 c a len cap p w.heap.size W1 S0.out (grown_refl _ _) hc1 (by omega) ?_
 intro XT XB R2 mt wd R4 bt pp v hS hp1 hg _ _ _ hm hwd _ hbt hb _
 have HS := hid hS
 have G1 := hid (grown_trans G0.out hg)
 have hXB := hb.1
 have HB := hid hb.2
 have HR := hid (rowF2 RR.out hg (by omega))
 have hsv : W1.heap.size ≤ v.heap.size := hg.size
 have hbv : XB < v.heap.size := hb.2.lt
 clear hS hg hb S0 G0 RR
 go_wp2_with fail
 refine (n_all W0 _ c a len cap pp 4 HS.out (by omega) (by omega) (by omega)).mono ?_
 rintro e w2 ⟨⟨r2, rfl, h20, h21⟩, hs2, hg2⟩
 obtain ⟨N1, rfl⟩ := Int.eq_ofNat_of_zero_le h20
 have S2 := hid hs2
 have G2 := hid (grown_trans G1.out hg2)
 have B2 := hid (rowF HB.out hg2 (by omega))
 have R2' := hid (rowF2 HR.out hg2 (by omega))
 obtain ⟨B, hB⟩ : ∃ B, B = w2.heap.size := ⟨_, rfl⟩
 have hBv : v.heap.size ≤ B := by rw [hB]; exact hg2.size
 have HBe := hid hB
 clear hs2 hg2 HS G1 HB HR hB
 go_wp2_with fail
 go_loopw [4] (fun q wr => ∃ (k : Nat) (Q : List Hp) (aL : Option Addr) (cL pq : Nat), k ≤ 3 ∧ q = .int .i64 (k : Int) ∧ Q.length + k ≤ 3 ∧ (∀ x ∈ Q, x.nm.size ≤ 20 ∧ x.vl.size ≤ 20) ∧ OwnHp wr B (.slice aL Q.length cL) Q ∧ RowAt wr XB 25 #[.string mt, .string ((⟨#[47]⟩ : ByteArray) ++ wd ++ (⟨#[47]⟩ : ByteArray) ++ bt), .slice aL Q.length cL, .slice none 0 0, .string ⟨#[]⟩] ∧ RowAt wr w.heap.size 25 #[.string ⟨#[]⟩, .string ⟨#[]⟩, .slice none 0 0, .slice none 0 0, .string ⟨#[]⟩] ∧ B ≤ wr.heap.size ∧ Src W0 wr c a len cap pq ∧ pq + 160 * k ≤ p + 700 ∧ w.grownBy wr (some c)) (fun q _ => (intOf q).toNat)
 case atStart => exact ⟨N1, [], none, 0, pp + 1, by omega, rfl, by simp; omega, fun x hx => absurd hx List.not_mem_nil, OwnHp.nil _ _, B2.out, R2'.out, by rw [HBe.out]; exact Nat.le_refl _, S2.out, by omega, G2.out⟩
 case round =>
  clear S2 G2 B2 R2'
  obtain ⟨k, Q, aL, cL, pq, hk, rfl, hQk, hQs, hO, hBX, hRR, hBz, hS, hpq, hG⟩ := hrel
  have HO := hid hO
  have HBX := hid hBX
  have HRR := hid hRR
  have HS := hid hS
  have HG := hid hG
  have HQ := hid hQs
  clear hO hBX hRR hS hG hQs
  by_cases hlt : 0 < k
  · have d0 : (0 : Int) < (k : Int) := by omega
    go_upto_region 5 with fail
    refine rq5_wp W0 w c a len cap pq w.heap.size XB B #[.string ⟨#[]⟩, .string ⟨#[]⟩, .slice none 0 0, .slice none 0 0, .string ⟨#[]⟩] (.string mt) (.string ((⟨#[47]⟩ : ByteArray) ++ wd ++ (⟨#[47]⟩ : ByteArray) ++ bt)) (.slice none 0 0) (.string ⟨#[]⟩) aL cL Q k wr HS.out HG.out HBX.out HRR.out hBz ⟨by omega, by omega, by omega, by omega, by omega, hw0, by omega, by omega⟩ HO.out (by omega) (by omega) ?_
    intro x3 x5 R9 x10 X12 G CP pp2 w' hS2 hp2 hg2 hbx2 hR2 hBz2 _ ho2 _ _ hx3 hx5 _ hx10
    have S3 := hid hS2
    have G3 := hid hg2
    have X3 := hid hbx2
    have R3 := hid hR2
    have O3 := hid ho2
    clear hS2 hg2 hbx2 hR2 ho2 HS HG HBX HRR HO
    go_wp2
    go_roundw
    case rel => exact ⟨k - 1, Q ++ [⟨x3 ++ x5, x10⟩], some ⟨G, 0, none⟩, CP, pp2, by omega, by go_num, by rw [hp_len]; omega, mem_app HQ.out ⟨by show (x3 ++ x5).size ≤ 20; rw [ByteArray.size_append]; omega, by show x10.size ≤ 20; omega⟩, by rw [hp_len]; exact O3.out, by rw [hp_len]; exact X3.out, R3.out, hBz2, S3.out, by omega, G3.out⟩
    case measure => simp [intOf]; omega
  · have d0 : ¬ (0 : Int) < (k : Int) := by omega
    go_wp2_with fail
    refine (n_all W0 _ c a len cap pq 4 HS.out (by omega) (by omega) (by omega)).mono ?_
    rintro e w3 ⟨⟨r3, rfl, h30, h31⟩, hs3, hg3⟩
    obtain ⟨N2, rfl⟩ := Int.eq_ofNat_of_zero_le h30
    have S3 := hid hs3
    have G3 := hid (grown_trans HG.out hg3)
    have X3 := hid (rowF HBX.out hg3 (by omega))
    have R3 := hid (rowF2 HRR.out hg3 (by omega))
    have O3 := hid (OwnHp.keptC HO.out hg3 (by omega))
    obtain ⟨B3, hB3⟩ : ∃ B, B = w3.heap.size := ⟨_, rfl⟩
    have hB3v : B ≤ B3 := by rw [hB3]; exact Nat.le_trans hBz hg3.size
    have QB : Hid (∀ g, (Value.slice aL Q.length cL).ownBlock = some g → g < B3) := fun g hg => by rw [hB3]; exact (World.ownsRow.lt O3.out g hg).2
    have HBe3 := hid hB3
    clear hs3 hg3 HS HG HBX HRR HO hB3
    go_wp2_with fail
    go_loopw [5] (fun q wr => ∃ (k : Nat) (H : List Hp) (a2 : Option Addr) (c2 pq : Nat), k ≤ 3 ∧ q = .int .i64 (k : Int) ∧ H.length + k ≤ 3 ∧ (∀ x ∈ H, x.nm.size ≤ 20 ∧ x.vl.size ≤ 20) ∧ OwnHp wr B (.slice aL Q.length cL) Q ∧ OwnHp wr B3 (.slice a2 H.length c2) H ∧ RowAt wr XB 25 #[.string mt, .string ((⟨#[47]⟩ : ByteArray) ++ wd ++ (⟨#[47]⟩ : ByteArray) ++ bt), .slice aL Q.length cL, .slice a2 H.length c2, .string ⟨#[]⟩] ∧ RowAt wr w.heap.size 25 #[.string ⟨#[]⟩, .string ⟨#[]⟩, .slice none 0 0, .slice none 0 0, .string ⟨#[]⟩] ∧ B3 ≤ wr.heap.size ∧ Src W0 wr c a len cap pq ∧ pq + 160 * k ≤ p + 1400 ∧ w.grownBy wr (some c)) (fun q _ => (intOf q).toNat)
    case atStart => exact ⟨N2, [], none, 0, pq + 1, by omega, rfl, by simp; omega, fun x hx => absurd hx List.not_mem_nil, O3.out, OwnHp.nil _ _, X3.out, R3.out, by rw [HBe3.out]; exact Nat.le_refl _, S3.out, by omega, G3.out⟩
    case round =>
     clear S3 G3 X3 R3 O3
     obtain ⟨k4, H, a2, c2, p4, hk4, rfl, hHk, hHs, hOQ, hOH, hBX, hRR, hBz4, hS, hp4, hG⟩ := hrel
     have HOQ := hid hOQ
     have HOH := hid hOH
     have HBX := hid hBX
     have HRR := hid hRR
     have HS := hid hS
     have HG := hid hG
     have HH := hid hHs
     clear hOQ hOH hBX hRR hS hG hHs
     by_cases hlt4 : 0 < k4
     · have d4 : (0 : Int) < (k4 : Int) := by omega
       go_upto_region 9 with fail
       refine rq9_wp W0 w c a len cap p4 w.heap.size XB B3 #[.string ⟨#[]⟩, .string ⟨#[]⟩, .slice none 0 0, .slice none 0 0, .string ⟨#[]⟩] (.string mt) (.string ((⟨#[47]⟩ : ByteArray) ++ wd ++ (⟨#[47]⟩ : ByteArray) ++ bt)) (.slice aL Q.length cL) (.string ⟨#[]⟩) a2 c2 H B aL Q.length cL Q k4 wr HS.out HG.out HBX.out HRR.out hBz4 ⟨by omega, by omega, by omega, by omega, by omega, hw0, by omega, by omega⟩ HOH.out (by omega) ⟨HOQ.out, by omega, apart2 QB.out HOH.out⟩ (by omega) ?_
       intro x3 x5 x8 X9 R11 x13 X16 G CP pp2 w' hS2 hp2 hg2 hbx2 hR2 hBz2 _ ho2 _ hoO _ hx3 hx5 hx8 _ hx13
       have S5 := hid hS2
       have G5 := hid hg2
       have X5 := hid hbx2
       have R5 := hid hR2
       have O5 := hid ho2
       have Q5 := hid hoO.1
       clear hS2 hg2 hbx2 hR2 ho2 hoO HS HG HBX HRR HOH HOQ
       go_wp2
       go_roundw
       case rel => exact ⟨k4 - 1, H ++ [⟨x3 ++ x5, x8 ++ x13⟩], some ⟨G, 0, none⟩, CP, pp2, by omega, by go_num, by rw [hp_len]; omega, mem_app HH.out ⟨by show (x3 ++ x5).size ≤ 20; rw [ByteArray.size_append]; omega, by show (x8 ++ x13).size ≤ 20; rw [ByteArray.size_append]; omega⟩, Q5.out, by rw [hp_len]; exact O5.out, by rw [hp_len]; exact X5.out, R5.out, hBz2, S5.out, by omega, G5.out⟩
       case measure => simp [intOf]; omega
     · have d4 : ¬ (0 : Int) < (k4 : Int) := by omega
       go_wp2_with fail
       refine (n_all W0 _ c a len cap p4 20 HS.out (by omega) (by omega) (by omega)).mono ?_
       rintro e w5 ⟨⟨r5, rfl, h50, h51⟩, hs5, hg5⟩
       obtain ⟨N5, rfl⟩ := Int.eq_ofNat_of_zero_le h50
       have G5 := hid (grown_trans HG.out hg5)
       have X5 := hid (rowF HBX.out hg5 (by omega))
       have R5 := hid (rowF2 HRR.out hg5 (by omega))
       have Q5 := hid (OwnHp.keptC HOQ.out hg5 (by omega))
       have H5 := hid (OwnHp.keptC HOH.out hg5 (by omega))
       have hz5 : B3 ≤ w5.heap.size := Nat.le_trans hBz4 hg5.size
       clear hg5 HS HG HBX HRR HOH HOQ
       go_wp2_with fail
       refine (bytes_all W0 _ c a len cap (p4 + 1) N5 hs5 (by omega) (by omega)).mono ?_
       rintro e w6 ⟨⟨bb, rfl, hbb⟩, ⟨p6, hs6, hp6⟩, hg6⟩
       have X6 := rowF X5.out hg6 (by omega)
       obtain ⟨W7, hW7⟩ : ∃ W, W = w6.setCell ⟨XB, 4, none⟩ (.string bb) := ⟨_, rfl⟩
       have S7 : Hid (Src W0 W7 c a len cap p6) := by rw [hW7]; exact hs6.set (by omega) 4 _
       have G7 : Hid (w.grownBy W7 (some c)) := by rw [hW7]; exact grown_far (grown_trans G5.out hg6) (by omega) 4 _
       have X7 : Hid (RowAt W7 XB 25 #[.string mt, .string ((⟨#[47]⟩ : ByteArray) ++ wd ++ (⟨#[47]⟩ : ByteArray) ++ bt), .slice aL Q.length cL, .slice a2 H.length c2, .string bb]) := by rw [hW7]; exact X6.set 4 _
       have R7 : Hid (RowAt W7 w.heap.size 25 #[.string ⟨#[]⟩, .string ⟨#[]⟩, .slice none 0 0, .slice none 0 0, .string ⟨#[]⟩]) := by rw [hW7]; exact (rowF2 R5.out hg6 (by omega)).other ⟨XB, 4, none⟩ _ (by simp; omega)
       have Q7 : Hid (OwnHp W7 B (.slice aL Q.length cL) Q) := by rw [hW7]; exact OwnHp.setQ (OwnHp.keptC Q5.out hg6 (by omega)) ⟨XB, 4, none⟩ _ (by simp; omega)
       have H7 : Hid (OwnHp W7 B3 (.slice a2 H.length c2) H) := by rw [hW7]; exact OwnHp.setQ (OwnHp.keptC H5.out hg6 (by omega)) ⟨XB, 4, none⟩ _ (by simp; omega)
       have hz7 : B3 ≤ W7.heap.size := by rw [hW7]; have := hg6.size; simp; omega
       have q4 := X6.cell 4
       have f4 := X6.free 4
       have HW7 := hid hW7
       clear hs5 hs6 hg6 hW7 X6 X5 R5 Q5 H5 G5
       go_upto_region 11 with fail
       rw [← HW7.out]
       clear q4 f4 HW7
       have z0 := X7.out.cell 0
       have z1 := X7.out.cell 1
       have z2 := X7.out.cell 2
       have z3 := X7.out.cell 3
       have z4 := X7.out.cell 4
       go_wp2_with (refine wpList_store_row rfl 25 (.tmp 2) (.tmp 72) rfl w.heap.size #[.string mt, .string ((⟨#[47]⟩ : ByteArray) ++ wd ++ (⟨#[47]⟩ : ByteArray) ++ bt), .slice aL Q.length cL, .slice a2 H.length c2, .string bb] rfl rfl _ _ R7.out (by kernel_rfl) rfl (by simp [Value.oneCell']) ?_)
       refine bodyPost_ret (v := .agg #[.string mt, .string ((⟨#[47]⟩ : ByteArray) ++ wd ++ (⟨#[47]⟩ : ByteArray) ++ bt), .slice aL Q.length cL, .slice a2 H.length c2, .string bb]) ?_ rfl ⟨mt, (⟨#[47]⟩ : ByteArray) ++ wd ++ (⟨#[47]⟩ : ByteArray) ++ bt, bb, Q, H, aL, cL, a2, c2, B, B3, p6, rfl, ⟨hm, ?_, by omega, by omega, by omega, HQ.out, HH.out⟩, ?_, ?_, by omega, by omega, QB.out, ?_, ?_, by omega, ?_⟩
       · exact results_cell_row Tryz.results32 _ _ w.heap.size _ _ _ _ rfl (R7.out.setRow _) Tryz.underlying25 rfl (by kernel_rfl)
       · rw [ByteArray.size_append, ByteArray.size_append, ByteArray.size_append]; show 1 + wd.size + 1 + bt.size ≤ 20; omega
       · exact OwnHp.setRow Q7.out (by omega) _
       · exact OwnHp.setRow H7.out (by omega) _
       · have e7 : (W7.setRow w.heap.size #[.string mt, .string ((⟨#[47]⟩ : ByteArray) ++ wd ++ (⟨#[47]⟩ : ByteArray) ++ bt), .slice aL Q.length cL, .slice a2 H.length c2, .string bb]).heap.size = W7.heap.size := by simp [World.setRow]
         rw [e7]
         exact ⟨by omega, hz7⟩
       · exact S7.out.setRowD (by omega) _
       · exact grown_setRowD G7.out (by omega) _
end Go.Proofs.YtkcjigelenofhaaGreatDoor
