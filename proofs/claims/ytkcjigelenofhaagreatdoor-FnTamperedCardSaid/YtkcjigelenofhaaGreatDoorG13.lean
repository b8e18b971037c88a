import Derived.Test.YtkcjigelenofhaaGreatDoorG10
import Derived.Test.YtkcjigelenofhaaGreatDoorG2
import Derived.Test.YtkcjigelenofhaaGreatDoorICan
import Derived.Test.YtkcjigelenofhaaGreatDoorK2
import Derived.Shelf.Strings.Split
import Derived.Test.YtkcjigelenofhaaGreatDoorG9
namespace Go.Proofs.YtkcjigelenofhaaGreatDoor
open Go.RowKit
set_option linter.unusedVariables false
def clro0 : Oper := ⟨some 3, .fieldAddr 25 (.tmp 1) 0, 0, "l10_request.go:380", #[], none⟩
def clro1 : Oper := ⟨some 4, .load 9 (.tmp 3), 9, "l10_request.go:380", #[⟨0, .data⟩], none⟩
def clro2 : Oper := ⟨some 5, .call { callee := .value (.func 57), args := #[.tmp 4], argTypes := #[9] }, 9, "l10_request.go:381", #[⟨1, .data⟩], none⟩
def clro3 : Oper := ⟨some 6, .fieldAddr 25 (.tmp 1) 1, 0, "l10_request.go:380", #[], none⟩
def clro4 : Oper := ⟨some 7, .load 9 (.tmp 6), 9, "l10_request.go:380", #[⟨3, .data⟩], none⟩
def clro5 : Oper := ⟨some 8, .call { callee := .value (.func 57), args := #[.tmp 7], argTypes := #[9] }, 9, "l10_request.go:382", #[⟨4, .data⟩, ⟨2, .chain⟩], none⟩
def clro6 : Oper := ⟨some 9, .fieldAddr 25 (.tmp 1) 2, 0, "l10_request.go:380", #[], none⟩
def clro7 : Oper := ⟨some 10, .load 23 (.tmp 9), 23, "l10_request.go:380", #[⟨6, .data⟩], none⟩
def clro8 : Oper := ⟨some 11, .call { callee := .value (.func 42), args := #[.tmp 10], argTypes := #[23] }, 23, "l10_request.go:383", #[⟨7, .data⟩, ⟨5, .chain⟩], none⟩
def clro9 : Oper := ⟨some 12, .fieldAddr 25 (.tmp 1) 3, 0, "l10_request.go:380", #[], none⟩
def clro10 : Oper := ⟨some 13, .load 23 (.tmp 12), 23, "l10_request.go:380", #[⟨9, .data⟩], none⟩
def clro11 : Oper := ⟨some 14, .call { callee := .value (.func 42), args := #[.tmp 13], argTypes := #[23] }, 23, "l10_request.go:384", #[⟨10, .data⟩, ⟨8, .chain⟩], none⟩
def clro12 : Oper := ⟨some 15, .fieldAddr 25 (.tmp 1) 4, 0, "l10_request.go:380", #[], none⟩
def clro13 : Oper := ⟨some 16, .load 9 (.tmp 15), 9, "l10_request.go:380", #[⟨12, .data⟩], none⟩
def clro14 : Oper := ⟨some 17, .call { callee := .value (.func 57), args := #[.tmp 16], argTypes := #[9] }, 9, "l10_request.go:385", #[⟨13, .data⟩, ⟨11, .chain⟩], none⟩
def clro15 : Oper := ⟨some 18, .build 25 #[(0, .tmp 5), (1, .tmp 8), (2, .tmp 11), (3, .tmp 14), (4, .tmp 17)], 25, "l10_request.go:380", #[⟨2, .data⟩, ⟨5, .data⟩, ⟨8, .data⟩, ⟨11, .data⟩, ⟨14, .data⟩], none⟩
def clro16 : Oper := ⟨none, .store 25 (.tmp 2) (.tmp 18), 0, "l10_request.go:380", #[⟨15, .data⟩, ⟨14, .chain⟩, ⟨0, .phase⟩, ⟨1, .phase⟩, ⟨2, .phase⟩, ⟨3, .phase⟩, ⟨4, .phase⟩, ⟨5, .phase⟩, ⟨6, .phase⟩, ⟨7, .phase⟩, ⟨8, .phase⟩, ⟨9, .phase⟩, ⟨10, .phase⟩, ⟨11, .phase⟩, ⟨12, .phase⟩, ⟨13, .phase⟩, ⟨14, .phase⟩, ⟨15, .phase⟩], none⟩
def clrO : Array Oper := #[clro0, clro1, clro2, clro3, clro4, clro5, clro6, clro7, clro8, clro9, clro10, clro11, clro12, clro13, clro14, clro15, clro16]
structure clrP where
 (w0 : World)
 (X1 X2 : Nat)
 (mt pt bd : ByteArray)
 (a1 : Option Addr)
 (n1 c1 : Nat)
 (o1 : Nat → Hp)
 (a2 : Option Addr)
 (n2 c2 : Nat)
 (o2 : Nat → Hp)
 (s0 s3 s4 s5 s6 s7 s8 s9 s10 s11 s12 s13 s14 s15 s16 s17 s18 : Value)
def clrT (P : clrP) (aQ : Option Addr) (cQ : Nat) (BQ : Nat) (aH : Option Addr) (cH : Nat) (BH : Nat) (b0 b1 b2 b3 b4 b5 b6 b7 b8 b9 b10 b11 b12 b13 b14 b15 b16 : Bool) : Array Value := #[P.s0, .pointer (some ⟨P.X1, 0, none⟩), .pointer (some ⟨P.X2, 0, none⟩), selS b0 (.pointer (some ⟨P.X1, 0, none⟩)) (P.s3), selS b1 (.string P.mt) (P.s4), selS b2 (.string P.mt) (P.s5), selS b3 (.pointer (some ⟨P.X1, 1, none⟩)) (P.s6), selS b4 (.string P.pt) (P.s7), selS b5 (.string P.pt) (P.s8), selS b6 (.pointer (some ⟨P.X1, 2, none⟩)) (P.s9), selS b7 (.slice P.a1 P.n1 P.c1) (P.s10), selS b8 (.slice aQ P.n1 cQ) (P.s11), selS b9 (.pointer (some ⟨P.X1, 3, none⟩)) (P.s12), selS b10 (.slice P.a2 P.n2 P.c2) (P.s13), selS b11 (.slice aH P.n2 cH) (P.s14), selS b12 (.pointer (some ⟨P.X1, 4, none⟩)) (P.s15), selS b13 (.string P.bd) (P.s16), selS b14 (.string P.bd) (P.s17), selS b15 (.agg #[.string P.mt, .string P.pt, .slice aQ P.n1 cQ, .slice aH P.n2 cH, .string P.bd]) (P.s18)]
def clrF (P : clrP) (aQ : Option Addr) (cQ : Nat) (BQ : Nat) (aH : Option Addr) (cH : Nat) (BH : Nat) (b0 b1 b2 b3 b4 b5 b6 b7 b8 b9 b10 b11 b12 b13 b14 b15 b16 : Bool) (w : World) : Prop := (Below P.w0.heap.size P.w0 w) ∧ (RowAt w P.X1 25 #[.string P.mt, .string P.pt, .slice P.a1 P.n1 P.c1, .slice P.a2 P.n2 P.c2, .string P.bd]) ∧ (RowAt w P.X2 25 (cond b16 #[.string P.mt, .string P.pt, .slice aQ P.n1 cQ, .slice aH P.n2 cH, .string P.bd] #[.string ⟨#[]⟩, .string ⟨#[]⟩, .slice none 0 0, .slice none 0 0, .string ⟨#[]⟩])) ∧ (b8 = true → OwnHp w BQ (.slice aQ P.n1 cQ) (hpList P.o1 P.n1) ∧ P.w0.heap.size ≤ BQ) ∧ (b11 = true → OwnHp w BH (.slice aH P.n2 cH) (hpList P.o2 P.n2) ∧ P.w0.heap.size ≤ BH) ∧ (b11 = true → ∀ g, (Value.slice aQ P.n1 cQ).ownBlock = some g → g < BH) ∧ (P.w0.heap.size ≤ P.X1 ∧ P.w0.heap.size ≤ P.X2 ∧ P.X1 ≠ P.X2) ∧ (∀ wx, Calls Tryz.prog 57 #[.string P.mt] wx fun e w' => e = .returned (.string P.mt) ∧ Below wx.heap.size wx w') ∧ (∀ wx, Calls Tryz.prog 57 #[.string P.pt] wx fun e w' => e = .returned (.string P.pt) ∧ Below wx.heap.size wx w') ∧ (∀ wx, Calls Tryz.prog 57 #[.string P.bd] wx fun e w' => e = .returned (.string P.bd) ∧ Below wx.heap.size wx w') ∧ (∀ wx, Below P.w0.heap.size P.w0 wx → Calls Tryz.prog 42 #[.slice P.a1 P.n1 P.c1] wx fun e w' => (∃ a' c', e = .returned (.slice a' P.n1 c') ∧ OwnHp w' wx.heap.size (.slice a' P.n1 c') (hpList P.o1 P.n1)) ∧ Below wx.heap.size wx w') ∧ (∀ wx, Below P.w0.heap.size P.w0 wx → Calls Tryz.prog 42 #[.slice P.a2 P.n2 P.c2] wx fun e w' => (∃ a' c', e = .returned (.slice a' P.n2 c') ∧ OwnHp w' wx.heap.size (.slice a' P.n2 c') (hpList P.o2 P.n2)) ∧ Below wx.heap.size wx w')
def clrI (P : clrP) (l : Array Bool) (f : Act) (w : World) : Prop :=
 ∃ (b0 b1 b2 b3 b4 b5 b6 b7 b8 b9 b10 b11 b12 b13 b14 b15 b16 : Bool) (aQ : Option Addr) (cQ : Nat) (BQ : Nat) (aH : Option Addr) (cH : Nat) (BH : Nat), l = #[b0, b1, b2, b3, b4, b5, b6, b7, b8, b9, b10, b11, b12, b13, b14, b15, b16] ∧ f = { tmps := clrT P aQ cQ BQ aH cH BH b0 b1 b2 b3 b4 b5 b6 b7 b8 b9 b10 b11 b12 b13 b14 b15 b16, defers := [] } ∧ clrF P aQ cQ BQ aH cH BH b0 b1 b2 b3 b4 b5 b6 b7 b8 b9 b10 b11 b12 b13 b14 b15 b16 w
theorem clrM {P : clrP} {b0 b1 b2 b3 b4 b5 b6 b7 b8 b9 b10 b11 b12 b13 b14 b15 b16 : Bool} (aQ : Option Addr) (cQ : Nat) (BQ : Nat) (aH : Option Addr) (cH : Nat) (BH : Nat) {l : Array Bool} {f : Act} {w : World} (hl : l = #[b0, b1, b2, b3, b4, b5, b6, b7, b8, b9, b10, b11, b12, b13, b14, b15, b16]) (hf : f = { tmps := clrT P aQ cQ BQ aH cH BH b0 b1 b2 b3 b4 b5 b6 b7 b8 b9 b10 b11 b12 b13 b14 b15 b16, defers := [] }) (h : clrF P aQ cQ BQ aH cH BH b0 b1 b2 b3 b4 b5 b6 b7 b8 b9 b10 b11 b12 b13 b14 b15 b16 w) : clrI P l f w := ⟨b0, b1, b2, b3, b4, b5, b6, b7, b8, b9, b10, b11, b12, b13, b14, b15, b16, aQ, cQ, BQ, aH, cH, BH, hl, hf, h⟩
set_option maxRecDepth 20000 in
set_option maxHeartbeats 20000000 in
theorem clr_step {Q : Exit → Act → World → Prop} (P : clrP) (l : Array Bool) (f : Act) (w : World) (hC : Closed clrO l) (hI : clrI P l f w) (i : Nat) (h0 : l.getD i true = false) (o : Oper) (ho : clrO[i]? = some o) (h1 : ∀ e ∈ o.after, Region.binds .any e = true → l.getD e.on false = true) : wpOp Tryz.prog clrO Q i (clrI P (l.setIfInBounds i true)) f w := by
 obtain ⟨b0, b1, b2, b3, b4, b5, b6, b7, b8, b9, b10, b11, b12, b13, b14, b15, b16, aQ, cQ, BQ, aH, cH, BH, rfl, rfl, hF⟩ := hI
 have hi : i < 17 := by
  rcases Nat.lt_or_ge i 17 with h | h
  · exact h
  · rw [show clrO[i]? = none from Array.getElem?_eq_none h] at ho; cases ho
 rcases (by omega : i = 0 ∨ i = 1 ∨ i = 2 ∨ i = 3 ∨ i = 4 ∨ i = 5 ∨ i = 6 ∨ i = 7 ∨ i = 8 ∨ i = 9 ∨ i = 10 ∨ i = 11 ∨ i = 12 ∨ i = 13 ∨ i = 14 ∨ i = 15 ∨ i = 16) with rfl | rfl | rfl | rfl | rfl | rfl | rfl | rfl | rfl | rfl | rfl | rfl | rfl | rfl | rfl | rfl | rfl
 · obtain rfl : clro0 = o := Option.some.inj ho
   obtain rfl : b0 = false := h0
   have hn := wayN_all hC (i := 0) rfl [(1, 0), (2, 1), (5, 2), (8, 5), (11, 8), (14, 11), (15, 2), (16, 0)] [] nk rfl; repeat (obtain ⟨rfl, hn⟩ := hn)
   obtain ⟨hB, hx1, hx2, hoq, hoh, hap, hst, hkm, hkp, hkb, hk1, hk2⟩ := hF
   refine wpOp_step (o := clro0) rfl (fun K hK => ?_)
   replace hK := hid hK
   simp only [clro0, clrT, selS_f]
   go_simp
   exact hK.out _ _ (clrM aQ cQ BQ aH cH BH rfl rfl ⟨hB, hx1, hx2, hoq, hoh, hap, hst, hkm, hkp, hkb, hk1, hk2⟩)
 · obtain rfl : clro1 = o := Option.some.inj ho
   obtain rfl : b1 = false := h0
   have hn := wayP_all (o := clro1) hC h1 [(0, none)] [] nk rfl; repeat (obtain ⟨rfl, hn⟩ := hn)
   have hn := wayN_all hC (i := 1) rfl [(2, 1), (5, 2), (8, 5), (11, 8), (14, 11), (15, 2), (16, 1)] [] nk rfl; repeat (obtain ⟨rfl, hn⟩ := hn)
   obtain ⟨hB, hx1, hx2, hoq, hoh, hap, hst, hkm, hkp, hkb, hk1, hk2⟩ := hF
   have q0 := hx1.cell 0
   have q1 := hx1.cell 1
   have q2 := hx1.cell 2
   have q3 := hx1.cell 3
   have q4 := hx1.cell 4
   refine wpOp_step (o := clro1) rfl (fun K hK => ?_)
   replace hK := hid hK
   simp only [clro1, clrT, selS_t, selS_f]
   go_simp
   exact hK.out _ _ (clrM aQ cQ BQ aH cH BH rfl rfl ⟨hB, hx1, hx2, hoq, hoh, hap, hst, hkm, hkp, hkb, hk1, hk2⟩)
 · obtain rfl : clro2 = o := Option.some.inj ho
   obtain rfl : b2 = false := h0
   have hn := wayP_all (o := clro2) hC h1 [(1, none), (0, some 1)] [] nk rfl; repeat (obtain ⟨rfl, hn⟩ := hn)
   have hn := wayN_all hC (i := 2) rfl [(5, 2), (8, 5), (11, 8), (14, 11), (15, 2), (16, 2)] [] nk rfl; repeat (obtain ⟨rfl, hn⟩ := hn)
   obtain ⟨hB, hx1, hx2, hoq, hoh, hap, hst, hkm, hkp, hkb, hk1, hk2⟩ := hF
   refine wpOp_step (o := clro2) rfl (fun K hK => ?_)
   replace hK := hid hK
   simp only [clro2, clrT, selS_t, selS_f]
   go_simp
   refine (hkm _).mono ?_
   rintro e w2 ⟨rfl, hb2⟩
   dsimp only
   exact hK.out _ _ (clrM aQ cQ BQ aH cH BH rfl rfl ⟨hB.trans (hb2.mono hB.size), RowAt.nxS hb2 hx1, RowAt.nxS hb2 hx2, fun h => Bool.noConfusion h, fun h => Bool.noConfusion h, fun h => Bool.noConfusion h, hst, hkm, hkp, hkb, hk1, hk2⟩)
 · obtain rfl : clro3 = o := Option.some.inj ho
   obtain rfl : b3 = false := h0
   have hn := wayN_all hC (i := 3) rfl [(4, 3), (5, 4), (8, 5), (11, 8), (14, 11), (15, 5), (16, 3)] [] nk rfl; repeat (obtain ⟨rfl, hn⟩ := hn)
   obtain ⟨hB, hx1, hx2, hoq, hoh, hap, hst, hkm, hkp, hkb, hk1, hk2⟩ := hF
   refine wpOp_step (o := clro3) rfl (fun K hK => ?_)
   replace hK := hid hK
   simp only [clro3, clrT, selS_f]
   go_simp
   exact hK.out _ _ (clrM aQ cQ BQ aH cH BH rfl rfl ⟨hB, hx1, hx2, hoq, hoh, hap, hst, hkm, hkp, hkb, hk1, hk2⟩)
 · obtain rfl : clro4 = o := Option.some.inj ho
   obtain rfl : b4 = false := h0
   have hn := wayP_all (o := clro4) hC h1 [(3, none)] [] nk rfl; repeat (obtain ⟨rfl, hn⟩ := hn)
   have hn := wayN_all hC (i := 4) rfl [(5, 4), (8, 5), (11, 8), (14, 11), (15, 5), (16, 4)] [] nk rfl; repeat (obtain ⟨rfl, hn⟩ := hn)
   obtain ⟨hB, hx1, hx2, hoq, hoh, hap, hst, hkm, hkp, hkb, hk1, hk2⟩ := hF
   have q0 := hx1.cell 0
   have q1 := hx1.cell 1
   have q2 := hx1.cell 2
   have q3 := hx1.cell 3
   have q4 := hx1.cell 4
   refine wpOp_step (o := clro4) rfl (fun K hK => ?_)
   replace hK := hid hK
   simp only [clro4, clrT, selS_t, selS_f]
   go_simp
   exact hK.out _ _ (clrM aQ cQ BQ aH cH BH rfl rfl ⟨hB, hx1, hx2, hoq, hoh, hap, hst, hkm, hkp, hkb, hk1, hk2⟩)
 · obtain rfl : clro5 = o := Option.some.inj ho
   obtain rfl : b5 = false := h0
   have hn := wayP_all (o := clro5) hC h1 [(4, none), (2, none), (3, some 4), (1, some 2), (0, some 1)] [] nk rfl; repeat (obtain ⟨rfl, hn⟩ := hn)
   have hn := wayN_all hC (i := 5) rfl [(8, 5), (11, 8), (14, 11), (15, 5), (16, 5)] [] nk rfl; repeat (obtain ⟨rfl, hn⟩ := hn)
   obtain ⟨hB, hx1, hx2, hoq, hoh, hap, hst, hkm, hkp, hkb, hk1, hk2⟩ := hF
   refine wpOp_step (o := clro5) rfl (fun K hK => ?_)
   replace hK := hid hK
   simp only [clro5, clrT, selS_t, selS_f]
   go_simp
   refine (hkp _).mono ?_
   rintro e w2 ⟨rfl, hb2⟩
   dsimp only
   exact hK.out _ _ (clrM aQ cQ BQ aH cH BH rfl rfl ⟨hB.trans (hb2.mono hB.size), RowAt.nxS hb2 hx1, RowAt.nxS hb2 hx2, fun h => Bool.noConfusion h, fun h => Bool.noConfusion h, fun h => Bool.noConfusion h, hst, hkm, hkp, hkb, hk1, hk2⟩)
 · obtain rfl : clro6 = o := Option.some.inj ho
   obtain rfl : b6 = false := h0
   have hn := wayN_all hC (i := 6) rfl [(7, 6), (8, 7), (11, 8), (14, 11), (15, 8), (16, 6)] [] nk rfl; repeat (obtain ⟨rfl, hn⟩ := hn)
   obtain ⟨hB, hx1, hx2, hoq, hoh, hap, hst, hkm, hkp, hkb, hk1, hk2⟩ := hF
   refine wpOp_step (o := clro6) rfl (fun K hK => ?_)
   replace hK := hid hK
   simp only [clro6, clrT, selS_f]
   go_simp
   exact hK.out _ _ (clrM aQ cQ BQ aH cH BH rfl rfl ⟨hB, hx1, hx2, hoq, hoh, hap, hst, hkm, hkp, hkb, hk1, hk2⟩)
 · obtain rfl : clro7 = o := Option.some.inj ho
   obtain rfl : b7 = false := h0
   have hn := wayP_all (o := clro7) hC h1 [(6, none)] [] nk rfl; repeat (obtain ⟨rfl, hn⟩ := hn)
   have hn := wayN_all hC (i := 7) rfl [(8, 7), (11, 8), (14, 11), (15, 8), (16, 7)] [] nk rfl; repeat (obtain ⟨rfl, hn⟩ := hn)
   obtain ⟨hB, hx1, hx2, hoq, hoh, hap, hst, hkm, hkp, hkb, hk1, hk2⟩ := hF
   have q0 := hx1.cell 0
   have q1 := hx1.cell 1
   have q2 := hx1.cell 2
   have q3 := hx1.cell 3
   have q4 := hx1.cell 4
   refine wpOp_step (o := clro7) rfl (fun K hK => ?_)
   replace hK := hid hK
   simp only [clro7, clrT, selS_t, selS_f]
   go_simp
   exact hK.out _ _ (clrM aQ cQ BQ aH cH BH rfl rfl ⟨hB, hx1, hx2, hoq, hoh, hap, hst, hkm, hkp, hkb, hk1, hk2⟩)
 · obtain rfl : clro8 = o := Option.some.inj ho
   obtain rfl : b8 = false := h0
   have hn := wayP_all (o := clro8) hC h1 [(7, none), (5, none), (6, some 7), (2, some 5), (4, some 5), (3, some 4), (1, some 2), (0, some 1)] [] nk rfl; repeat (obtain ⟨rfl, hn⟩ := hn)
   have hn := wayN_all hC (i := 8) rfl [(11, 8), (14, 11), (15, 8), (16, 8)] [] nk rfl; repeat (obtain ⟨rfl, hn⟩ := hn)
   obtain ⟨hB, hx1, hx2, hoq, hoh, hap, hst, hkm, hkp, hkb, hk1, hk2⟩ := hF
   refine wpOp_step (o := clro8) rfl (fun K hK => ?_)
   replace hK := hid hK
   simp only [clro8, clrT, selS_t, selS_f]
   go_simp
   refine (hk1 _ hB).mono ?_
   rintro e w2 ⟨⟨a3, c3, rfl, hO3⟩, hb2⟩
   dsimp only
   exact hK.out _ _ (clrM a3 c3 w.heap.size aH cH BH rfl rfl ⟨hB.trans (hb2.mono hB.size), RowAt.nxS hb2 hx1, RowAt.nxS hb2 hx2, fun _ => ⟨hO3, hB.size⟩, fun h => Bool.noConfusion h, fun h => Bool.noConfusion h, hst, hkm, hkp, hkb, hk1, hk2⟩)
 · obtain rfl : clro9 = o := Option.some.inj ho
   obtain rfl : b9 = false := h0
   have hn := wayN_all hC (i := 9) rfl [(10, 9), (11, 10), (14, 11), (15, 11), (16, 9)] [] nk rfl; repeat (obtain ⟨rfl, hn⟩ := hn)
   obtain ⟨hB, hx1, hx2, hoq, hoh, hap, hst, hkm, hkp, hkb, hk1, hk2⟩ := hF
   refine wpOp_step (o := clro9) rfl (fun K hK => ?_)
   replace hK := hid hK
   simp only [clro9, clrT, selS_f]
   go_simp
   exact hK.out _ _ (clrM aQ cQ BQ aH cH BH rfl rfl ⟨hB, hx1, hx2, hoq, hoh, hap, hst, hkm, hkp, hkb, hk1, hk2⟩)
 · obtain rfl : clro10 = o := Option.some.inj ho
   obtain rfl : b10 = false := h0
   have hn := wayP_all (o := clro10) hC h1 [(9, none)] [] nk rfl; repeat (obtain ⟨rfl, hn⟩ := hn)
   have hn := wayN_all hC (i := 10) rfl [(11, 10), (14, 11), (15, 11), (16, 10)] [] nk rfl; repeat (obtain ⟨rfl, hn⟩ := hn)
   obtain ⟨hB, hx1, hx2, hoq, hoh, hap, hst, hkm, hkp, hkb, hk1, hk2⟩ := hF
   have q0 := hx1.cell 0
   have q1 := hx1.cell 1
   have q2 := hx1.cell 2
   have q3 := hx1.cell 3
   have q4 := hx1.cell 4
   refine wpOp_step (o := clro10) rfl (fun K hK => ?_)
   replace hK := hid hK
   simp only [clro10, clrT, selS_t, selS_f]
   go_simp
   exact hK.out _ _ (clrM aQ cQ BQ aH cH BH rfl rfl ⟨hB, hx1, hx2, hoq, hoh, hap, hst, hkm, hkp, hkb, hk1, hk2⟩)
 · obtain rfl : clro11 = o := Option.some.inj ho
   obtain rfl : b11 = false := h0
   have hn := wayP_all (o := clro11) hC h1 [(10, none), (8, none), (9, some 10), (5, some 8), (7, some 8), (6, some 7), (2, some 5), (4, some 5), (3, some 4), (1, some 2), (0, some 1)] [] nk rfl; repeat (obtain ⟨rfl, hn⟩ := hn)
   have hn := wayN_all hC (i := 11) rfl [(14, 11), (15, 11), (16, 11)] [] nk rfl; repeat (obtain ⟨rfl, hn⟩ := hn)
   obtain ⟨hB, hx1, hx2, hoq, hoh, hap, hst, hkm, hkp, hkb, hk1, hk2⟩ := hF
   refine wpOp_step (o := clro11) rfl (fun K hK => ?_)
   replace hK := hid hK
   simp only [clro11, clrT, selS_t, selS_f]
   go_simp
   refine (hk2 _ hB).mono ?_
   rintro e w2 ⟨⟨a3, c3, rfl, hO3⟩, hb2⟩
   dsimp only
   exact hK.out _ _ (clrM aQ cQ BQ a3 c3 w.heap.size rfl rfl ⟨hB.trans (hb2.mono hB.size), RowAt.nxS hb2 hx1, RowAt.nxS hb2 hx2, fun h => ⟨OwnHp.next hb2 (hoq h).1, (hoq h).2⟩, fun _ => ⟨hO3, hB.size⟩, fun _ g hg => (World.ownsRow.lt (hoq rfl).1 g hg).2, hst, hkm, hkp, hkb, hk1, hk2⟩)
 · obtain rfl : clro12 = o := Option.some.inj ho
   obtain rfl : b12 = false := h0
   have hn := wayN_all hC (i := 12) rfl [(13, 12), (14, 13), (15, 14), (16, 12)] [] nk rfl; repeat (obtain ⟨rfl, hn⟩ := hn)
   obtain ⟨hB, hx1, hx2, hoq, hoh, hap, hst, hkm, hkp, hkb, hk1, hk2⟩ := hF
   refine wpOp_step (o := clro12) rfl (fun K hK => ?_)
   replace hK := hid hK
   simp only [clro12, clrT, selS_f]
   go_simp
   exact hK.out _ _ (clrM aQ cQ BQ aH cH BH rfl rfl ⟨hB, hx1, hx2, hoq, hoh, hap, hst, hkm, hkp, hkb, hk1, hk2⟩)
 · obtain rfl : clro13 = o := Option.some.inj ho
   obtain rfl : b13 = false := h0
   have hn := wayP_all (o := clro13) hC h1 [(12, none)] [] nk rfl; repeat (obtain ⟨rfl, hn⟩ := hn)
   have hn := wayN_all hC (i := 13) rfl [(14, 13), (15, 14), (16, 13)] [] nk rfl; repeat (obtain ⟨rfl, hn⟩ := hn)
   obtain ⟨hB, hx1, hx2, hoq, hoh, hap, hst, hkm, hkp, hkb, hk1, hk2⟩ := hF
   have q0 := hx1.cell 0
   have q1 := hx1.cell 1
   have q2 := hx1.cell 2
   have q3 := hx1.cell 3
   have q4 := hx1.cell 4
   refine wpOp_step (o := clro13) rfl (fun K hK => ?_)
   replace hK := hid hK
   simp only [clro13, clrT, selS_t, selS_f]
   go_simp
   exact hK.out _ _ (clrM aQ cQ BQ aH cH BH rfl rfl ⟨hB, hx1, hx2, hoq, hoh, hap, hst, hkm, hkp, hkb, hk1, hk2⟩)
 · obtain rfl : clro14 = o := Option.some.inj ho
   obtain rfl : b14 = false := h0
   have hn := wayP_all (o := clro14) hC h1 [(13, none), (11, none), (12, some 13), (8, some 11), (10, some 11), (9, some 10), (5, some 8), (7, some 8), (6, some 7), (2, some 5), (4, some 5), (3, some 4), (1, some 2), (0, some 1)] [] nk rfl; repeat (obtain ⟨rfl, hn⟩ := hn)
   have hn := wayN_all hC (i := 14) rfl [(15, 14), (16, 14)] [] nk rfl; repeat (obtain ⟨rfl, hn⟩ := hn)
   obtain ⟨hB, hx1, hx2, hoq, hoh, hap, hst, hkm, hkp, hkb, hk1, hk2⟩ := hF
   refine wpOp_step (o := clro14) rfl (fun K hK => ?_)
   replace hK := hid hK
   simp only [clro14, clrT, selS_t, selS_f]
   go_simp
   refine (hkb _).mono ?_
   rintro e w2 ⟨rfl, hb2⟩
   dsimp only
   exact hK.out _ _ (clrM aQ cQ BQ aH cH BH rfl rfl ⟨hB.trans (hb2.mono hB.size), RowAt.nxS hb2 hx1, RowAt.nxS hb2 hx2, fun h => ⟨OwnHp.next hb2 (hoq h).1, (hoq h).2⟩, fun h => ⟨OwnHp.next hb2 (hoh h).1, (hoh h).2⟩, hap, hst, hkm, hkp, hkb, hk1, hk2⟩)
 · obtain rfl : clro15 = o := Option.some.inj ho
   obtain rfl : b15 = false := h0
   have hn := wayP_all (o := clro15) hC h1 [(14, none), (11, none), (8, none), (5, none), (2, none), (13, some 14), (12, some 13), (10, some 11), (9, some 10), (7, some 8), (6, some 7), (4, some 5), (3, some 4), (1, some 2), (0, some 1)] [] nk rfl; repeat (obtain ⟨rfl, hn⟩ := hn)
   have hn := wayN_all hC (i := 15) rfl [(16, 15)] [] nk rfl; repeat (obtain ⟨rfl, hn⟩ := hn)
   obtain ⟨hB, hx1, hx2, hoq, hoh, hap, hst, hkm, hkp, hkb, hk1, hk2⟩ := hF
   refine wpOp_step (o := clro15) rfl (fun K hK => ?_)
   replace hK := hid hK
   simp only [clro15, clrT, selS_t, selS_f]
   go_simp
   exact hK.out _ _ (clrM aQ cQ BQ aH cH BH rfl rfl ⟨hB, hx1, hx2, hoq, hoh, hap, hst, hkm, hkp, hkb, hk1, hk2⟩)
 · obtain rfl : clro16 = o := Option.some.inj ho
   obtain rfl : b16 = false := h0
   have hn := wayP_all (o := clro16) hC h1 [(15, none), (14, none), (13, none), (12, none), (11, none), (10, none), (9, none), (8, none), (7, none), (6, none), (5, none), (4, none), (3, none), (2, none), (1, none), (0, none)] [] nk rfl; repeat (obtain ⟨rfl, hn⟩ := hn)
   obtain ⟨hB, hx1, hx2, hoq, hoh, hap, hst, hkm, hkp, hkb, hk1, hk2⟩ := hF
   have h2 : RowAt w P.X2 25 #[.string ⟨#[]⟩, .string ⟨#[]⟩, .slice none 0 0, .slice none 0 0, .string ⟨#[]⟩] := hx2
   have q0 := h2.cell 0
   have q1 := h2.cell 1
   have q2 := h2.cell 2
   have q3 := h2.cell 3
   have q4 := h2.cell 4
   have f0 := h2.free 0
   have f1 := h2.free 1
   have f2 := h2.free 2
   have f3 := h2.free 3
   have f4 := h2.free 4
   have W1 := OwnHp.neRowS (hoq rfl).1 h2 (by decide)
   have W2 := OwnHp.neRowS (hoh rfl).1 h2 (by decide)
   refine wpOp_step (o := clro16) rfl (fun K hK => ?_)
   replace hK := hid hK
   simp only [clro16, clrT, selS_t]
   go_simp
   exact hK.out _ _ (clrM aQ cQ BQ aH cH BH rfl rfl ⟨(((((hB.setCell (by simp; omega) _).setCell (by simp; omega) _).setCell (by simp; omega) _).setCell (by simp; omega) _).setCell (by simp; omega) _), (((((hx1.other ⟨P.X2, 0, none⟩ _ (by simp; omega)).other ⟨P.X2, 1, none⟩ _ (by simp; omega)).other ⟨P.X2, 2, none⟩ _ (by simp; omega)).other ⟨P.X2, 3, none⟩ _ (by simp; omega)).other ⟨P.X2, 4, none⟩ _ (by simp; omega)), (((((h2.set 0 _).set 1 _).set 2 _).set 3 _).set 4 _), fun _ => ⟨(OwnHp.setCellS (k := 4) (OwnHp.setCellS (k := 3) (OwnHp.setCellS (k := 2) (OwnHp.setCellS (k := 1) (OwnHp.setCellS (k := 0) (hoq rfl).1 W1) W1) W1) W1) W1), (hoq rfl).2⟩, fun _ => ⟨(OwnHp.setCellS (k := 4) (OwnHp.setCellS (k := 3) (OwnHp.setCellS (k := 2) (OwnHp.setCellS (k := 1) (OwnHp.setCellS (k := 0) (hoh rfl).1 W2) W2) W2) W2) W2), (hoh rfl).2⟩, hap, hst, hkm, hkp, hkb, hk1, hk2⟩)
set_option maxRecDepth 20000 in
set_option maxHeartbeats 4000000 in
theorem clr_wp {Q : Exit → Act → World → Prop} {rid : Nat} (w0 : World) (X1 X2 : Nat) (mt pt bd : ByteArray) (a1 : Option Addr) (n1 c1 : Nat) (o1 : Nat → Hp) (a2 : Option Addr) (n2 c2 : Nat) (o2 : Nat → Hp) {s0 s3 s4 s5 s6 s7 s8 s9 s10 s11 s12 s13 s14 s15 s16 s17 s18 : Value} (w : World) (hB : Below w0.heap.size w0 w) (hx1 : RowAt w X1 25 #[.string mt, .string pt, .slice a1 n1 c1, .slice a2 n2 c2, .string bd]) (hx2 : RowAt w X2 25 #[.string ⟨#[]⟩, .string ⟨#[]⟩, .slice none 0 0, .slice none 0 0, .string ⟨#[]⟩]) (hst : w0.heap.size ≤ X1 ∧ w0.heap.size ≤ X2 ∧ X1 ≠ X2) (hkm : ∀ wx, Calls Tryz.prog 57 #[.string mt] wx fun e w' => e = .returned (.string mt) ∧ Below wx.heap.size wx w') (hkp : ∀ wx, Calls Tryz.prog 57 #[.string pt] wx fun e w' => e = .returned (.string pt) ∧ Below wx.heap.size wx w') (hkb : ∀ wx, Calls Tryz.prog 57 #[.string bd] wx fun e w' => e = .returned (.string bd) ∧ Below wx.heap.size wx w') (hk1 : ∀ wx, Below w0.heap.size w0 wx → Calls Tryz.prog 42 #[.slice a1 n1 c1] wx fun e w' => (∃ a' c', e = .returned (.slice a' n1 c') ∧ OwnHp w' wx.heap.size (.slice a' n1 c') (hpList o1 n1)) ∧ Below wx.heap.size wx w') (hk2 : ∀ wx, Below w0.heap.size w0 wx → Calls Tryz.prog 42 #[.slice a2 n2 c2] wx fun e w' => (∃ a' c', e = .returned (.slice a' n2 c') ∧ OwnHp w' wx.heap.size (.slice a' n2 c') (hpList o2 n2)) ∧ Below wx.heap.size wx w')
 (fin : ∀ (aQ : Option Addr) (cQ : Nat) (BQ : Nat) (aH : Option Addr) (cH : Nat) (BH : Nat) (w' : World), (Below w0.heap.size w0 w') → (RowAt w' X1 25 #[.string mt, .string pt, .slice a1 n1 c1, .slice a2 n2 c2, .string bd]) → (RowAt w' X2 25 #[.string mt, .string pt, .slice aQ n1 cQ, .slice aH n2 cH, .string bd]) → (OwnHp w' BQ (.slice aQ n1 cQ) (hpList o1 n1) ∧ w0.heap.size ≤ BQ) → (OwnHp w' BH (.slice aH n2 cH) (hpList o2 n2) ∧ w0.heap.size ≤ BH) → (∀ g, (Value.slice aQ n1 cQ).ownBlock = some g → g < BH) → (w0.heap.size ≤ X1 ∧ w0.heap.size ≤ X2 ∧ X1 ≠ X2) → (∀ wx, Calls Tryz.prog 57 #[.string mt] wx fun e w' => e = .returned (.string mt) ∧ Below wx.heap.size wx w') → (∀ wx, Calls Tryz.prog 57 #[.string pt] wx fun e w' => e = .returned (.string pt) ∧ Below wx.heap.size wx w') → (∀ wx, Calls Tryz.prog 57 #[.string bd] wx fun e w' => e = .returned (.string bd) ∧ Below wx.heap.size wx w') → (∀ wx, Below w0.heap.size w0 wx → Calls Tryz.prog 42 #[.slice a1 n1 c1] wx fun e w' => (∃ a' c', e = .returned (.slice a' n1 c') ∧ OwnHp w' wx.heap.size (.slice a' n1 c') (hpList o1 n1)) ∧ Below wx.heap.size wx w') → (∀ wx, Below w0.heap.size w0 wx → Calls Tryz.prog 42 #[.slice a2 n2 c2] wx fun e w' => (∃ a' c', e = .returned (.slice a' n2 c') ∧ OwnHp w' wx.heap.size (.slice a' n2 c') (hpList o2 n2)) ∧ Below wx.heap.size wx w') → Q .normal { tmps := #[s0, .pointer (some ⟨X1, 0, none⟩), .pointer (some ⟨X2, 0, none⟩), .pointer (some ⟨X1, 0, none⟩), .string mt, .string mt, .pointer (some ⟨X1, 1, none⟩), .string pt, .string pt, .pointer (some ⟨X1, 2, none⟩), .slice a1 n1 c1, .slice aQ n1 cQ, .pointer (some ⟨X1, 3, none⟩), .slice a2 n2 c2, .slice aH n2 cH, .pointer (some ⟨X1, 4, none⟩), .string bd, .string bd, .agg #[.string mt, .string pt, .slice aQ n1 cQ, .slice aH n2 cH, .string bd]], defers := [] } w') :
 (Code.region rid clrO true).wp Tryz.prog Q { tmps := #[s0, .pointer (some ⟨X1, 0, none⟩), .pointer (some ⟨X2, 0, none⟩), s3, s4, s5, s6, s7, s8, s9, s10, s11, s12, s13, s14, s15, s16, s17, s18], defers := [] } w := by
 refine wp_region_inv (ops := clrO) (clrI ⟨w0, X1, X2, mt, pt, bd, a1, n1, c1, o1, a2, n2, c2, o2, s0, s3, s4, s5, s6, s7, s8, s9, s10, s11, s12, s13, s14, s15, s16, s17, s18⟩) (by kernel_rfl) (by kernel_rfl) (fun l f v hI => ?_) (fun l f v hC hI i h0 o ho h1 => clr_step ⟨w0, X1, X2, mt, pt, bd, a1, n1, c1, o1, a2, n2, c2, o2, s0, s3, s4, s5, s6, s7, s8, s9, s10, s11, s12, s13, s14, s15, s16, s17, s18⟩ l f v hC hI i h0 o ho h1) (fun l f v hI hall => ?_) ?_
 · obtain ⟨_, _, _, _, _, _, _, _, _, _, _, _, _, _, _, _, _, _, _, _, _, _, _, rfl, _⟩ := hI; rfl
 · obtain ⟨b0, b1, b2, b3, b4, b5, b6, b7, b8, b9, b10, b11, b12, b13, b14, b15, b16, aQ, cQ, BQ, aH, cH, BH, rfl, rfl, hB, hx1, hx2, hoq, hoh, hap, hst, hkm, hkp, hkb, hk1, hk2⟩ := hI
   have hn := allT hall [0, 1, 2, 3, 4, 5, 6, 7, 8, 9, 10, 11, 12, 13, 14, 15, 16] rfl; repeat (obtain ⟨rfl, hn⟩ := hn)
   exact fin aQ cQ BQ aH cH BH v hB hx1 hx2 (hoq rfl) (hoh rfl) (hap rfl) hst hkm hkp hkb hk1 hk2
 · exact ⟨false, false, false, false, false, false, false, false, false, false, false, false, false, false, false, false, false, none, 0, 0, none, 0, 0, rfl, rfl, hB.drew, hx1.drew, hx2.drew, fun h => Bool.noConfusion h, fun h => Bool.noConfusion h, fun h => Bool.noConfusion h, hst, hkm, hkp, hkb, hk1, hk2⟩
set_option maxRecDepth 20000 in
set_option maxHeartbeats 4000000 in
theorem iCloneRq (mt pt bd : ByteArray) (a1 : Option Addr) (n1 c1 : Nat) (o1 : Nat → Hp) (a2 : Option Addr) (n2 c2 : Nat) (o2 : Nat → Hp) (hb : RqB ⟨mt, pt, ⟨a1, n1, c1, o1⟩, ⟨a2, n2, c2, o2⟩, bd⟩ 1000000) (w : World) (h : RqIn w ⟨mt, pt, ⟨a1, n1, c1, o1⟩, ⟨a2, n2, c2, o2⟩, bd⟩) :
 Calls Tryz.prog 41 #[.agg #[.string mt, .string pt, .slice a1 n1 c1, .slice a2 n2 c2, .string bd]] w fun e w' => (∃ aQ cQ BQ aH cH BH, e = .returned (.agg #[.string mt, .string pt, .slice aQ n1 cQ, .slice aH n2 cH, .string bd]) ∧ OwnHp w' BQ (.slice aQ n1 cQ) (hpList o1 n1) ∧ OwnHp w' BH (.slice aH n2 cH) (hpList o2 n2) ∧ w.heap.size ≤ BQ ∧ w.heap.size ≤ BH ∧ ∀ g, (Value.slice aQ n1 cQ).ownBlock = some g → g < BH) ∧ Below w.heap.size w w' := by
 obtain ⟨W1, hW1⟩ : ∃ W, W = (w.alloc (.cells #[.string mt, .string pt, .slice a1 n1 c1, .slice a2 n2 c2, .string bd] 25)).alloc (.cells #[.string ⟨#[]⟩, .string ⟨#[]⟩, .slice none 0 0, .slice none 0 0, .string ⟨#[]⟩] 25) := ⟨_, rfl⟩
 have X1 : Hid (RowAt W1 w.heap.size 25 #[.string mt, .string pt, .slice a1 n1 c1, .slice a2 n2 c2, .string bd]) := by rw [hW1]; exact (RowAt.new _ _ _).alloc _
 have X2 : Hid (RowAt W1 (w.heap.size + 1) 25 #[.string ⟨#[]⟩, .string ⟨#[]⟩, .slice none 0 0, .slice none 0 0, .string ⟨#[]⟩]) := by rw [hW1]; exact RowAt.next _ _ _ (by simp only [size_al])
 have B1 : Hid (Below w.heap.size w W1) := by rw [hW1]; exact ((Below.refl _ _).alloc (Nat.le_refl _) _).alloc (by simp) _
 have HB := hid hb
 have HI := hid h
 have HW1 := hid hW1
 clear hW1 hb h
 go_enter Tryz.func41, Tryz.ntmps41
 go_upto_region 1 with fail
 rw [← HW1.out]
 refine clr_wp w w.heap.size (w.heap.size + 1) mt pt bd a1 n1 c1 o1 a2 n2 c2 o2 W1 B1.out X1.out X2.out ⟨by omega, by omega, by omega⟩ (fun wx => clone_any mt wx (by have := HB.out.mt; dsimp only at this; omega)) (fun wx => clone_any pt wx (by have := HB.out.pt; dsimp only at this; omega)) (fun wx => clone_any bd wx (by have := HB.out.bd; dsimp only at this; omega)) (fun wx hbx => iClonePairs a1 n1 c1 o1 HB.out.qs.1 (fun i hi => by have := HB.out.qs.2 i hi; dsimp only at this; omega) wx (HI.out.below hbx).qs) (fun wx hbx => iClonePairs a2 n2 c2 o2 HB.out.hs.1 (fun i hi => by have := HB.out.hs.2 i hi; dsimp only at this; omega) wx (HI.out.below hbx).hs) ?_
 intro aQ cQ BQ aH cH BH w2 hB2 _ h2 hoq hoh hap _ _ _ _ _ _
 have X2b := hid h2
 have OQ := hid hoq
 have OH := hid hoh
 have AP := hid hap
 have B2 := hid hB2
 clear hB2 h2 hoq hoh hap
 go_wp2
 refine bodyPost_ret (v := .agg #[.string mt, .string pt, .slice aQ n1 cQ, .slice aH n2 cH, .string bd]) ?_ rfl ⟨⟨aQ, cQ, BQ, aH, cH, BH, rfl, OQ.out.1, OH.out.1, OQ.out.2, OH.out.2, AP.out⟩, B2.out⟩
 exact results_cell_row Tryz.results41 _ _ (w.heap.size + 1) _ _ _ _ rfl X2b.out Tryz.underlying25 rfl (by kernel_rfl)
end Go.Proofs.YtkcjigelenofhaaGreatDoor
namespace Go.Proofs.YtkcjigelenofhaaGreatDoor
open Go.RowKit Go.Maps
theorem step_append_hpsO {P : Program} (base : Nat) (w : World) {ops : Array Oper} {op : Oper} {a : Act} {K : Act → World → Prop} {Q : Exit → Act → World → Prop} {E : Prop} (hgd : op.guard = none) (s x : Operand) (t : TypeId)
 (ho : op.op = .call { callee := .builtin .append, args := #[s, x], argTypes := #[t, t] })
 (ht : P.underlying t = some (.slice 66)) (hinfo : (P.info? 66).map (fun i => (i.zero, i.size, i.bytes)) = some (some hz2, 2, 32))
 (v : Value) (L : List Hp) (M : List Hp) (hM : 0 < M.length) (hs : a.eval s = v) (hown : OwnHp w base v L) (hsz : base ≤ w.heap.size)
 (BC : Nat) (aC : Option Addr) (cC m : Nat) (hbox : OwnHp w BC (.slice aC m cC) M) (hm : M.length = m) (hx : a.eval x = .slice aC m cC) (hlen : L.length + M.length ≤ 1048576)
 (h : ∀ g cap w', OwnHp w' base (.slice (some ⟨g, 0, none⟩) (L.length + m) cap) (L ++ M) → w.grownBy w' v.ownBlock → (v.ownBlock = some g ∨ g = w.heap.size) → K (a.put op.dst (.slice (some ⟨g, 0, none⟩) (L.length + m) cap)) w') :
 if Region.wanted op (yielded ops a.tmps) = true then Oper.wp P op a w K Q else E := by
 subst hm
 obtain ⟨b, cap0, e0, _, _, _, hc⟩ := hbox.shape hM
 cases e0
 obtain ⟨i0, hi, hz0, hz1, hz2⟩ := info_parts hinfo
 refine step_append_lies _ hgd s x t ho base 66 i0 _ 2 32 ht hi hz0 hz1 hz2 rfl (by decide) v L.length (hpL L) hs hown ⟨b, 0, none⟩ M.length cC (hpL M) hx (hpL_len M) ?_ ?_ hM ?_ ?_ hsz w.heap.size rfl ?_
 · intro j u hj
   have hadd : (⟨b, 0, none⟩ : Addr).add j = ⟨b, j, none⟩ := by unfold Addr.add; split <;> simp_all
   rw [hadd]
   have hl : j < M.length * 2 := by rw [← hpL_len]; exact (List.getElem?_eq_some_iff.1 hj).1
   rcases Nat.mod_two_eq_zero_or_one j with e | e
   · obtain ⟨k, rfl⟩ : ∃ k, j = k * 2 := ⟨j / 2, by omega⟩
     rw [(hpL_at M k (by omega)).1] at hj
     rw [(hc k (by omega)).1]; exact hj
   · obtain ⟨k, rfl⟩ : ∃ k, j = k * 2 + 1 := ⟨j / 2, by omega⟩
     rw [(hpL_at M k (by omega)).2] at hj
     rw [(hc k (by omega)).2]; exact hj
 · intro u hu
   unfold hpL at hu
   obtain ⟨p, _, hp⟩ := List.mem_flatMap.1 hu
   simp at hp
   rcases hp with rfl | rfl <;> rfl
 · unfold maxLen; omega
 · omega
 · intro g cap w' h1 h2 h3 _
   exact h g cap w' (by unfold OwnHp; rw [hpL_app, List.length_append]; exact h1) h2 h3
def sg4B (id D1 D2 JN : ByteArray) : List Hp := [(⟨⟨#[120, 45, 105, 100]⟩, id⟩ : Hp), ⟨⟨#[120, 45, 102, 114, 111, 109]⟩, D1⟩, ⟨⟨#[120, 45, 108, 97, 115, 116, 115]⟩, D2⟩, ⟨⟨#[120, 45, 115, 105, 103, 110, 101, 100]⟩, JN⟩]
noncomputable def sg4 (id : ByteArray) (nw ls : Int) (ts : Nat → ByteArray) (m : Nat) : List Hp := [(⟨⟨#[120, 45, 105, 100]⟩, id⟩ : Hp), ⟨⟨#[120, 45, 102, 114, 111, 109]⟩, ofL (Lib.decDigits nw.toNat)⟩, ⟨⟨#[120, 45, 108, 97, 115, 116, 115]⟩, ofL (Lib.decDigits ls.toNat)⟩, ⟨⟨#[120, 45, 115, 105, 103, 110, 101, 100]⟩, ofL (jn ts m)⟩]
theorem sgQ1_4 (r : Rq) (id : ByteArray) (nw ls : Int) (ts : Nat → ByteArray) (m : Nat) : sgQ1 r id nw ls ts m = hpList r.qs.o r.qs.n ++ sg4 id nw ls ts m := rfl
theorem iJoinT (tA : Option Addr) (m mc : Nat) (ts : Nat → ByteArray) (hm : m ≤ 10) (hts : ∀ i, i < m → (ts i).size ≤ 60) (w : World) (h : Strs w tA m mc ts) :
 Calls Tryz.prog 82 #[.slice tA m mc, .string ⟨#[44]⟩] w fun e w' => e = .returned (.string (ofL (jn ts m))) ∧ Below w.heap.size w w' := by
 rcases Nat.eq_zero_or_pos m with h0 | h0
 · subst h0
   exact iJoin0 tA mc ⟨#[44]⟩ w
 · exact iJoinC tA m mc ts ⟨#[44]⟩ h0 (by omega) (by have := jn_sz ts m hts; show (jn ts m).length ≤ _; omega) w h
theorem tmS_dec {t : Int} (h : tmS t) : t.toNat ≤ 4102444800 := by have := h.1; have := h.2; omega
set_option maxRecDepth 20000 in
set_option maxHeartbeats 8000000 in
theorem iSPairsG (id D1 D2 JN : ByteArray) (nw ls : Int) (tA : Option Addr) (m mc : Nat) (w : World)
 (k1 : ∀ wx, Below w.heap.size w wx → Calls Tryz.prog 45 #[.int .i64 nw] wx fun e w' => e = .returned (.string D1) ∧ Below wx.heap.size wx w')
 (k2 : ∀ wx, Below w.heap.size w wx → Calls Tryz.prog 45 #[.int .i64 ls] wx fun e w' => e = .returned (.string D2) ∧ Below wx.heap.size wx w')
 (kJ : ∀ wx, Below w.heap.size w wx → Calls Tryz.prog 82 #[.slice tA m mc, .string ⟨#[44]⟩] wx fun e w' => e = .returned (.string JN) ∧ Below wx.heap.size wx w') :
 Calls Tryz.prog 43 #[.agg #[.string id, .int .i64 nw, .int .i64 ls, .slice tA m mc]] w fun e w' => ∃ X, e = .returned (.slice (some ⟨X, 0, none⟩) 4 4) ∧ Hps w' (some ⟨X, 0, none⟩) 4 4 (hAt (sg4B id D1 D2 JN)) ∧ Below w.heap.size w w' := by
 have K1 := fun wx (hx : Below w.heap.size w wx) => hid (k1 wx hx)
 have K2 := fun wx (hx : Below w.heap.size w wx) => hid (k2 wx hx)
 have KJ := fun wx (hx : Below w.heap.size w wx) => hid (kJ wx hx)
 have HF : Hid (∀ wx X, RowAt wx X 66 #[.string ⟨#[120, 45, 105, 100]⟩, .string id, .string ⟨#[120, 45, 102, 114, 111, 109]⟩, .string D1, .string ⟨#[120, 45, 108, 97, 115, 116, 115]⟩, .string D2, .string ⟨#[120, 45, 115, 105, 103, 110, 101, 100]⟩, .string JN] → Hps wx (some ⟨X, 0, none⟩) 4 4 (hAt (sg4B id D1 D2 JN))) := fun wx X hr => by
  refine ⟨Nat.le_refl _, .inr ⟨X, 0, rfl, hr.lt, fun k hk => ?_⟩⟩
  rw [hr.cell, hr.cell]
  rcases (by omega : k = 0 ∨ k = 1 ∨ k = 2 ∨ k = 3) with rfl | rfl | rfl | rfl <;> exact ⟨rfl, rfl⟩
 generalize sg4B id D1 D2 JN = PL at HF ⊢
 clear k1 k2 kJ
 have J := Jn.box w 72 #[.string id, .int .i64 nw, .int .i64 ls, .slice tA m mc]
 obtain ⟨W0, hW0⟩ : ∃ W, W = w.alloc (.cells #[.string id, .int .i64 nw, .int .i64 ls, .slice tA m mc] 72) := ⟨_, rfl⟩
 rw [← hW0] at J
 go_enter Tryz.func43, Tryz.ntmps43
 go_upto_region 1 with fail
 rw [← hW0]
 clear hW0
 have x0 : W0.cell? ⟨w.heap.size, 0, none⟩ = some (.string id) := J.out.1.cell 0
 have x1 : W0.cell? ⟨w.heap.size, 1, none⟩ = some (.int .i64 nw) := J.out.1.cell 1
 have x2 : W0.cell? ⟨w.heap.size, 2, none⟩ = some (.int .i64 ls) := J.out.1.cell 2
 have x3 : W0.cell? ⟨w.heap.size, 3, none⟩ = some (.slice tA m mc) := J.out.1.cell 3
 go_region_held3 (fun wx => (wx.cell? ⟨w.heap.size, 0, none⟩ = some (.string id) ∧ wx.cell? ⟨w.heap.size, 1, none⟩ = some (.int .i64 nw)) ∧ wx.cell? ⟨w.heap.size, 2, none⟩ = some (.int .i64 ls) ∧ wx.cell? ⟨w.heap.size, 3, none⟩ = some (.slice tA m mc))
  (first | (go_keep; done) | exact ⟨⟨J.out.1.cell 0, J.out.1.cell 1⟩, J.out.1.cell 2, J.out.1.cell 3⟩)
  ((first
   | (go_at_call_of 45 (Value.int IntKind.i64 nw); have hJ2 := J.out.2; (first | with_reducible refine (K1 _ hJ2).out.mono ?_ | with_reducible refine (K1 _ (Below.drew hJ2)).out.mono ?_); clear hJ2; rintro e v1 ⟨rfl, hb2⟩; (first | replace J := Jn.next hb2 J | (replace hb2 := nxD hb2; replace J := Jn.next hb2 J)))
   | (go_at_call_of 45 (Value.int IntKind.i64 ls); have hJ2 := J.out.2; (first | with_reducible refine (K2 _ hJ2).out.mono ?_ | with_reducible refine (K2 _ (Below.drew hJ2)).out.mono ?_); clear hJ2; rintro e v1 ⟨rfl, hb2⟩; (first | replace J := Jn.next hb2 J | (replace hb2 := nxD hb2; replace J := Jn.next hb2 J)))
   | (go_at_call 82; have hJ2 := J.out.2; (first | with_reducible refine (KJ _ hJ2).out.mono ?_ | with_reducible refine (KJ _ (Below.drew hJ2)).out.mono ?_); clear hJ2; rintro e v1 ⟨rfl, hb2⟩; (first | replace J := Jn.next hb2 J | (replace hb2 := nxD hb2; replace J := Jn.next hb2 J)))))
 go_wp2
 go_ret
 exact ⟨_, rfl, HF.out _ _ (RowAt.new _ _ _), J.out.2.alloc J.out.2.size _⟩
theorem iSPairs (id : ByteArray) (nw ls : Int) (hnw : tmS nw) (hls : tmS ls) (tA : Option Addr) (m mc : Nat) (ts : Nat → ByteArray) (hm : m ≤ 10) (hts : ∀ i, i < m → (ts i).size ≤ 60) (w : World) (hT : TB w) (hS : Strs w tA m mc ts) :
 Calls Tryz.prog 43 #[.agg #[.string id, .int .i64 nw, .int .i64 ls, .slice tA m mc]] w fun e w' => ∃ X, e = .returned (.slice (some ⟨X, 0, none⟩) 4 4) ∧ Hps w' (some ⟨X, 0, none⟩) 4 4 (hAt (sg4 id nw ls ts m)) ∧ Below w.heap.size w w' :=
 iSPairsG id (ofL (Lib.decDigits nw.toNat)) (ofL (Lib.decDigits ls.toNat)) (ofL (jn ts m)) nw ls tA m mc w
  (fun wx hx => iDecm nw.toNat (tmS_dec hnw) nw (by have := hnw.1; omega) wx (hT.below hx))
  (fun wx hx => iDecm ls.toNat (tmS_dec hls) ls (by have := hls.1; omega) wx (hT.below hx))
  (fun wx hx => iJoinT tA m mc ts hm hts wx (hS.below hx))
noncomputable def sgV (r : Rq) (sec : ByteArray) (ts : Nat → ByteArray) (m : Nat) : Int := if pb (rqP r) then sgS r sec ts m else sumOf (ofL (sec.data.toList ++ [10])) 9
theorem sgV_bd (r : Rq) (sec : ByteArray) (hs : sec.size ≤ 100) (ts : Nat → ByteArray) (m : Nat) (hm : m ≤ 10) (ht : ∀ i, i < m → (ts i).size ≤ 1000) : 0 ≤ sgV r sec ts m ∧ sgV r sec ts m ≤ 2147483647 := by
 unfold sgV
 by_cases hr : rqP r
 · rw [pb_t hr, if_pos rfl]
   exact sgS_bd hr sec hs ts m hm ht
 · rw [pb_f hr, if_neg (by simp)]
   unfold sumOf
   have e : sec.data.toList.length = sec.size := by simp
   rw [if_neg (by rw [ofL_size]; simp only [List.length_append, List.length_cons, List.length_nil]; omega)]
   exact sumL_bd _ _ (by decide) (by decide)
set_option maxRecDepth 20000 in
set_option maxHeartbeats 4000000 in
theorem iSgSum (mt pt : ByteArray) (a1 : Option Addr) (n1 c1 : Nat) (o1 : Nat → Hp) (a2 : Option Addr) (n2 c2 : Nat) (o2 : Nat → Hp) (bd : ByteArray) (hb : RqB ⟨mt, pt, ⟨a1, n1, c1, o1⟩, ⟨a2, n2, c2, o2⟩, bd⟩ 1048576) (sec : ByteArray) (hs : sec.size ≤ 100) (tA : Option Addr) (m mc : Nat) (ts : Nat → ByteArray) (hm : m ≤ 10) (hts : ∀ i, i < m → (ts i).size ≤ 1000) (w : World) (hT : TB w) (h : RqIn w ⟨mt, pt, ⟨a1, n1, c1, o1⟩, ⟨a2, n2, c2, o2⟩, bd⟩) (hS : Strs w tA m mc ts) :
 Calls Tryz.prog 44 #[.agg #[.string mt, .string pt, .slice a1 n1 c1, .slice a2 n2 c2, .string bd], .string sec, .slice tA m mc] w fun e w' => e = .returned (.int .i64 (sgV ⟨mt, pt, ⟨a1, n1, c1, o1⟩, ⟨a2, n2, c2, o2⟩, bd⟩ sec ts m)) ∧ Below w.heap.size w w' := by
 have KC : ∃ CN : ByteArray, CN.size ≤ 200000 ∧ sumOf (sec ++ ⟨#[10]⟩ ++ CN) 9 = sgV ⟨mt, pt, ⟨a1, n1, c1, o1⟩, ⟨a2, n2, c2, o2⟩, bd⟩ sec ts m ∧ ∀ wx, TB wx → RqIn wx ⟨mt, pt, ⟨a1, n1, c1, o1⟩, ⟨a2, n2, c2, o2⟩, bd⟩ → Strs wx tA m mc ts → Calls Tryz.prog 84 #[.agg #[.string mt, .string pt, .slice a1 n1 c1, .slice a2 n2 c2, .string bd], .slice tA m mc] wx fun e w' => e = .returned (.string CN) ∧ Below wx.heap.size wx w' := by
  by_cases hr : rqP ⟨mt, pt, ⟨a1, n1, c1, o1⟩, ⟨a2, n2, c2, o2⟩, bd⟩
  · refine ⟨ofL (canL ⟨mt, pt, ⟨a1, n1, c1, o1⟩, ⟨a2, n2, c2, o2⟩, bd⟩ ts m), ?_, ?_, fun wx h1 h2 h3 => iCanonYes mt pt a1 n1 c1 o1 a2 n2 c2 o2 bd hr tA m mc ts hm hts wx h1 h2 h3⟩
    · rw [ofL_size]; exact canL_len hr ts m hm hts
    · unfold sgV sgS
      rw [pb_t hr, if_pos rfl]
      rw [show sec ++ ⟨#[10]⟩ ++ ofL (canL ⟨mt, pt, ⟨a1, n1, c1, o1⟩, ⟨a2, n2, c2, o2⟩, bd⟩ ts m) = ofL (sec.data.toList ++ [10] ++ canL ⟨mt, pt, ⟨a1, n1, c1, o1⟩, ⟨a2, n2, c2, o2⟩, bd⟩ ts m) from ofL_of (by rw [ba_app, ba_app, ofL_l])]
  · refine ⟨⟨#[]⟩, by show (0 : Nat) ≤ _; omega, ?_, fun wx h1 h2 h3 => iCanonNo mt pt a1 n1 c1 o1 a2 n2 c2 o2 bd hb hr tA m mc wx h2⟩
    unfold sgV
    rw [pb_f hr, if_neg (by simp)]
    congr 1
    refine ofL_of ?_
    rw [ba_app, ba_app]
    simp
 obtain ⟨CN, lC, eC, KC⟩ := KC
 have KCH := hid KC
 have HEC := hid eC
 have z0 : ¬ 9223372036854775807 < sec.size + 1 := by omega
 have z1 : ¬ 9223372036854775807 < sec.size + 1 + CN.size := by omega
 have KS := fun wx => hid (isum_all (sec ++ ⟨#[10]⟩ ++ CN) 9 (by omega) (by rw [sizeApp, sizeApp]; show _ + 1 + _ ≤ _; omega) wx)
 rw [HEC.out] at KS
 have HT := hid hT
 have HS := hid hS
 have HI := hid h
 have J := Jn.box w 25 #[.string mt, .string pt, .slice a1 n1 c1, .slice a2 n2 c2, .string bd]
 obtain ⟨W0, hW0⟩ : ∃ W, W = w.alloc (.cells #[.string mt, .string pt, .slice a1 n1 c1, .slice a2 n2 c2, .string bd] 25) := ⟨_, rfl⟩
 rw [← hW0] at J
 generalize sgV ⟨mt, pt, ⟨a1, n1, c1, o1⟩, ⟨a2, n2, c2, o2⟩, bd⟩ sec ts m = SV at KS HEC ⊢
 clear KC eC hT hS h hb hts HEC
 go_enter Tryz.func44, Tryz.ntmps44
 go_wp2_with fail
 rw [← hW0]
 clear hW0
 refine (KCH.out _ (HT.out.below J.out.2) (HI.out.below J.out.2) (HS.out.below J.out.2)).mono ?_
 rintro e w2 ⟨rfl, hb2⟩
 have J2 := Jn.next hb2 J
 clear hb2 J
 go_wp2_with fail
 refine (KS _).out.mono ?_
 rintro e w3 ⟨rfl, hw⟩
 obtain rfl := hw
 go_wp2
 go_ret
 exact ⟨rfl, J2.out.2⟩
end Go.Proofs.YtkcjigelenofhaaGreatDoor
namespace Go.Proofs.YtkcjigelenofhaaGreatDoor
open Go.RowKit Go.Shelf
theorem idx_one (c : UInt8) : ∀ l : List UInt8, (Lib.index l [c] = -1 ∧ c ∉ l) ∨ ∃ a r, l = a ++ c :: r ∧ c ∉ a ∧ Lib.index l [c] = (a.length : Int)
 | [] => .inl ⟨rfl, by simp⟩
 | x :: t => by
  by_cases h : x = c
  · subst h
    refine .inr ⟨[], t, rfl, by simp, ?_⟩
    unfold Lib.index
    simp
  · have hb : ¬ ([c].isPrefixOf (x :: t) = true) := by simp [Ne.symm h]
    rcases idx_one c t with ⟨h1, h2⟩ | ⟨a, r, rfl, h2, h3⟩
    · refine .inl ⟨?_, by simp [Ne.symm h, h2]⟩
      unfold Lib.index
      rw [if_neg hb, h1, if_pos (by rfl)]
    · refine .inr ⟨x :: a, r, rfl, by simp [Ne.symm h, h2], ?_⟩
      unfold Lib.index
      rw [if_neg hb, h3, if_neg (by simp)]
      simp
theorem splA_none (c : UInt8) : ∀ (l cur : List UInt8), c ∉ l → splA c cur l = [cur ++ l]
 | [], cur, _ => by simp [splA]
 | x :: t, cur, h => by
  unfold splA
  rw [if_neg (fun e => h (by simp [e])), splA_none c t _ (fun q => h (by simp [q]))]
  simp
theorem splA_hit (c : UInt8) : ∀ (a cur r : List UInt8), c ∉ a → splA c cur (a ++ c :: r) = (cur ++ a) :: splA c [] r
 | [], cur, r, _ => by
  show splA c cur (c :: r) = _
  rw [splA]
  simp
 | x :: t, cur, r, h => by
  rw [List.cons_append, splA]
  rw [if_neg (fun e => h (by simp [e])), splA_hit c t _ r (fun q => h (by simp [q]))]
  simp
theorem split_splA : ∀ (k : Nat) (s : ByteArray), s.size ≤ k → (Lib.splitB ⟨#[44]⟩ 0 (Lib.countB s ⟨#[44]⟩) s).map (·.data.toList) = splA 44 [] s.data.toList := by
 intro k
 induction k with
 | zero =>
  intro s hs
  have e : s.data.toList = [] := List.length_eq_zero_iff.1 (by simpa using hs)
  have hi : Lib.indexB s ⟨#[44]⟩ = -1 := by show Lib.index s.data.toList [44] = -1; rw [e]; rfl
  rw [Lib.countB_miss _ _ hi, Lib.splitB_miss _ _ _ _ hi, e]
  simp [splA, e]
 | succ k ih =>
  intro s hs
  rcases idx_one 44 s.data.toList with ⟨h1, h2⟩ | ⟨a, r, e, h2, h3⟩
  · have hi : Lib.indexB s ⟨#[44]⟩ = -1 := h1
    rw [Lib.countB_miss _ _ hi, Lib.splitB_miss _ _ _ _ hi, splA_none _ _ _ h2]
    simp
  · have hi : Lib.indexB s ⟨#[44]⟩ = (a.length : Int) := h3
    have l1 : s.data.toList.length = s.size := by simp
    have l2 : s.data.toList.length = a.length + 1 + r.length := by rw [e]; simp; omega
    have er : (s.extract (a.length + 1) s.size).data.toList = r := by
     rw [ext_mid, ← l1, List.take_length, e, List.drop_append]
     simp
    rw [Lib.countB_hit s ⟨#[44]⟩ a.length (by decide) hi, Nat.add_comm 1, Lib.splitB_hit _ _ _ _ _ hi, List.map_cons]
    have hsz : (s.extract (a.length + 1) s.size).size ≤ k := by
     have : (s.extract (a.length + 1) s.size).data.toList.length = (s.extract (a.length + 1) s.size).size := by simp
     rw [← this, er]; omega
    have := ih (s.extract (a.length + 1) s.size) hsz
    rw [er] at this
    rw [show (⟨#[44]⟩ : ByteArray).size = 1 from rfl, this, e, splA_hit _ _ _ _ h2]
    congr 1
    show (s.extract 0 (a.length + 0)).data.toList = [] ++ a
    rw [ext_take, e]
    simp
theorem split_splB (s : ByteArray) : Lib.splitB ⟨#[44]⟩ 0 (Lib.countB s ⟨#[44]⟩) s = splB 44 s := by
 unfold splB
 rw [← split_splA s.size s (Nat.le_refl _), List.map_map]
 conv => lhs; rw [← List.map_id (Lib.splitB ⟨#[44]⟩ 0 (Lib.countB s ⟨#[44]⟩) s)]
 apply List.map_congr_left
 intro x _
 show x = ofL x.data.toList
 exact ofL_of rfl
theorem splA_ne (c : UInt8) (cur l : List UInt8) : splA c cur l ≠ [] := fun h => by have := (splA_len c l cur).1; rw [h] at this; simp at this
theorem join_splA (c : UInt8) : ∀ (l cur : List UInt8), Lib.join (splA c cur l) [c] = cur ++ l
 | [], cur => by simp [splA, Lib.join_one]
 | x :: t, cur => by
  unfold splA
  by_cases h : x = c
  · rw [if_pos h]
    have ih := join_splA c t []
    cases hs : splA c [] t with
    | nil => exact absurd hs (splA_ne _ _ _)
    | cons y ys =>
     rw [hs] at ih
     rw [Lib.join_cons] at ih
     rw [Lib.join_cons]
     unfold Lib.joinTail at ih ⊢
     simp at ih ⊢
     rw [ih, h]
     simp
  · rw [if_neg h, join_splA c t]
    simp
theorem split_cnt (s : ByteArray) : Lib.countB s ⟨#[44]⟩ + 1 = (splB 44 s).length := by
 rw [← split_splB]
 exact (Lib.splitB_all ⟨#[44]⟩ (by decide) 0 _ s rfl).symm
theorem iSplitS (s : ByteArray) (hs : s.size ≤ 1048576) (w : World) (hv : RdV w) :
 Calls Tryz.prog 119 #[.string s, .string ⟨#[44]⟩] w fun e w' => e = .returned (.slice (some ⟨w.heap.size, 0, none⟩) (splB 44 s).length (splB 44 s).length) ∧ w' = w.alloc (.cells ((splB 44 s).map Value.string).toArray 9) := by
 obtain ⟨m, hm⟩ := hv.mx
 have := Any.strings_Split rd_Lays_n146 (by kernel_rfl) s ⟨#[44]⟩ m w (by omega) hm (by decide)
 rw [split_cnt, split_splB] at this
 exact this
end Go.Proofs.YtkcjigelenofhaaGreatDoor
