import Derived.Test.YtkcjigelenofhaaGreatDoorD2
import Derived.Test.YtkcjigelenofhaaGreatDoorD2
import Derived.Test.YtkcjigelenofhaaGreatDoorD3
import Derived.Test.YtkcjigelenofhaaGreatDoorD4
import Derived.Test.YtkcjigelenofhaaGreatDoorD4
namespace Go.Proofs.YtkcjigelenofhaaGreatDoor
open Go.RowKit
set_option linter.unusedVariables false
theorem ra10_tab2   (k : Nat) (hk : k < 4) : ∃ t : ByteArray, (#[.string ⟨#[]⟩, .string ⟨#[65]⟩, .string ⟨#[108, 101, 110, 103, 116, 104]⟩, .string ⟨#[97]⟩] : Array Value)[k]? = some (.string t) ∧ t.size ≤ 6 := by
 rcases (by omega : k = 0 ∨ k = 1 ∨ k = 2 ∨ k = 3) with rfl | rfl | rfl | rfl
 all_goals exact ⟨_, rfl, by first | decide | assumption⟩
theorem ra10_tab7   (k : Nat) (hk : k < 4) : ∃ t : ByteArray, (#[.string ⟨#[32, 120]⟩, .string ⟨#[120, 32]⟩, .string ⟨#[10]⟩, .string ⟨#[120]⟩] : Array Value)[k]? = some (.string t) ∧ t.size ≤ 2 := by
 rcases (by omega : k = 0 ∨ k = 1 ∨ k = 2 ∨ k = 3) with rfl | rfl | rfl | rfl
 all_goals exact ⟨_, rfl, by first | decide | assumption⟩
def ra10o0 : Oper := ⟨some 46, .fieldAddr 25 (.tmp 3) 3, 0, "l10_request.go:399", #[], none⟩
def ra10o1 : Oper := ⟨some 47, .load 23 (.tmp 46), 23, "l10_request.go:399", #[⟨0, .data⟩], none⟩
def ra10o2 : Oper := ⟨some 48, .buildSlice 28 4 #[(0, .const (.string { data := #[] })), (1, .const (.string { data := #[65] })), (2, .const (.string { data := #[108, 101, 110, 103, 116, 104] })), (3, .const (.string { data := #[97] }))], 28, "l10_request.go:399", #[], none⟩
def ra10o3 : Oper := ⟨some 49, .move (.tmp 0), 61, "l10_request.go:399", #[], none⟩
def ra10o4 : Oper := ⟨some 50, .call { callee := .value (.func 36), args := #[.tmp 49, .const (.int .i64 4)], argTypes := #[61, 2] }, 2, "l10_request.go:399", #[⟨3, .data⟩], none⟩
def ra10o5 : Oper := ⟨some 51, .indexAddr 28 (.tmp 48) (.tmp 50), 0, "l10_request.go:399", #[⟨2, .data⟩, ⟨4, .data⟩], none⟩
def ra10o6 : Oper := ⟨some 52, .load 9 (.tmp 51), 9, "l10_request.go:399", #[⟨5, .data⟩], none⟩
def ra10o7 : Oper := ⟨some 53, .buildSlice 28 4 #[(0, .const (.string { data := #[32, 120] })), (1, .const (.string { data := #[120, 32] })), (2, .const (.string { data := #[10] })), (3, .const (.string { data := #[120] }))], 28, "l10_request.go:399", #[], none⟩
def ra10o8 : Oper := ⟨some 54, .move (.tmp 0), 61, "l10_request.go:399", #[], none⟩
def ra10o9 : Oper := ⟨some 55, .call { callee := .value (.func 36), args := #[.tmp 54, .const (.int .i64 4)], argTypes := #[61, 2] }, 2, "l10_request.go:399", #[⟨8, .data⟩, ⟨4, .chain⟩], none⟩
def ra10o10 : Oper := ⟨some 56, .indexAddr 28 (.tmp 53) (.tmp 55), 0, "l10_request.go:399", #[⟨7, .data⟩, ⟨9, .data⟩], none⟩
def ra10o11 : Oper := ⟨some 57, .load 9 (.tmp 56), 9, "l10_request.go:399", #[⟨10, .data⟩], none⟩
def ra10o12 : Oper := ⟨some 58, .build 66 #[(0, .tmp 52), (1, .tmp 57)], 66, "l10_request.go:399", #[⟨6, .data⟩, ⟨11, .data⟩], none⟩
def ra10o13 : Oper := ⟨some 59, .buildSlice 23 1 #[(0, .tmp 58)], 23, "l10_request.go:399", #[⟨12, .data⟩], none⟩
def ra10o14 : Oper := ⟨some 60, .call { callee := .builtin Builtin.append, args := #[.tmp 47, .tmp 59], argTypes := #[23, 23] }, 23, "l10_request.go:399", #[⟨1, .data⟩, ⟨13, .data⟩, ⟨9, .chain⟩], none⟩
def ra10o15 : Oper := ⟨some 61, .fieldAddr 25 (.tmp 3) 3, 0, "l10_request.go:399", #[⟨0, .phase⟩, ⟨1, .phase⟩, ⟨2, .phase⟩, ⟨3, .phase⟩, ⟨4, .phase⟩, ⟨5, .phase⟩, ⟨6, .phase⟩, ⟨7, .phase⟩, ⟨8, .phase⟩, ⟨9, .phase⟩, ⟨10, .phase⟩, ⟨11, .phase⟩, ⟨12, .phase⟩, ⟨13, .phase⟩, ⟨14, .phase⟩], none⟩
def ra10o16 : Oper := ⟨none, .store 23 (.tmp 61) (.tmp 60), 0, "l10_request.go:399", #[⟨15, .data⟩, ⟨14, .data⟩, ⟨14, .chain⟩, ⟨0, .phase⟩, ⟨1, .phase⟩, ⟨2, .phase⟩, ⟨3, .phase⟩, ⟨4, .phase⟩, ⟨5, .phase⟩, ⟨6, .phase⟩, ⟨7, .phase⟩, ⟨8, .phase⟩, ⟨9, .phase⟩, ⟨10, .phase⟩, ⟨11, .phase⟩, ⟨12, .phase⟩, ⟨13, .phase⟩, ⟨14, .phase⟩], none⟩
def ra10O : Array Oper := #[ra10o0, ra10o1, ra10o2, ra10o3, ra10o4, ra10o5, ra10o6, ra10o7, ra10o8, ra10o9, ra10o10, ra10o11, ra10o12, ra10o13, ra10o14, ra10o15, ra10o16]
structure ra10P where
 (W0 w0 : World)
 (c : Nat)
 (a : Option Addr)
 (len cap p XR XB B : Nat)
 (zr : Array Value)
 (y0 y1 y2 y4 : Value)
 (aL : Option Addr)
 (cL : Nat)
 (L : List Hp)
 (BO : Nat)
 (aO : Option Addr)
 (nO cO : Nat)
 (LO : List Hp)
 (s1 s4 s5 s6 s7 s8 s9 s10 s11 s12 s13 s14 s15 s16 s17 s18 s19 s20 s21 s22 s23 s24 s25 s26 s27 s28 s29 s30 s31 s32 s33 s34 s35 s36 s37 s38 s39 s40 s41 s42 s43 s44 s45 s46 s47 s48 s49 s50 s51 s52 s53 s54 s55 s56 s57 s58 s59 s60 s61 s62 s63 s64 s65 s66 s67 s68 s69 s70 s71 : Value)
def ra10T (P : ra10P) (X2 : Nat) (R4 : Nat) (x6 : ByteArray) (X7 : Nat) (R9 : Nat) (x11 : ByteArray) (X13 : Nat) (G : Nat) (CP : Nat) (pp : Nat) (b0 b1 b2 b3 b4 b5 b6 b7 b8 b9 b10 b11 b12 b13 b14 b15 b16 : Bool) : Array Value := #[.pointer (some ⟨P.c, 0, none⟩), P.s1, .pointer (some ⟨P.XR, 0, none⟩), .pointer (some ⟨P.XB, 0, none⟩), P.s4, P.s5, P.s6, P.s7, P.s8, P.s9, P.s10, P.s11, P.s12, P.s13, P.s14, P.s15, P.s16, P.s17, P.s18, P.s19, P.s20, P.s21, P.s22, P.s23, P.s24, P.s25, P.s26, P.s27, P.s28, P.s29, P.s30, P.s31, P.s32, P.s33, P.s34, P.s35, P.s36, P.s37, P.s38, P.s39, P.s40, P.s41, P.s42, P.s43, P.s44, P.s45, sel b0 (.pointer (some ⟨P.XB, 3, none⟩)) (P.s46), sel b1 (.slice P.aL P.L.length P.cL) (P.s47), sel b2 (.slice (some ⟨X2, 0, none⟩) 4 4) (P.s48), sel b3 (.pointer (some ⟨P.c, 0, none⟩)) (P.s49), sel b4 (.int .i64 (R4 : Int)) (P.s50), sel b5 (.pointer (some ⟨X2, R4, none⟩)) (P.s51), sel b6 (.string x6) (P.s52), sel b7 (.slice (some ⟨X7, 0, none⟩) 4 4) (P.s53), sel b8 (.pointer (some ⟨P.c, 0, none⟩)) (P.s54), sel b9 (.int .i64 (R9 : Int)) (P.s55), sel b10 (.pointer (some ⟨X7, R9, none⟩)) (P.s56), sel b11 (.string x11) (P.s57), sel b12 (.agg #[.string x6, .string x11]) (P.s58), sel b13 (.slice (some ⟨X13, 0, none⟩) 1 1) (P.s59), sel b14 (.slice (some ⟨G, 0, none⟩) (P.L.length + 1) CP) (P.s60), sel b15 (.pointer (some ⟨P.XB, 3, none⟩)) (P.s61), P.s62, P.s63, P.s64, P.s65, P.s66, P.s67, P.s68, P.s69, P.s70, P.s71]
def ra10F (P : ra10P) (X2 : Nat) (R4 : Nat) (x6 : ByteArray) (X7 : Nat) (R9 : Nat) (x11 : ByteArray) (X13 : Nat) (G : Nat) (CP : Nat) (pp : Nat) (b0 b1 b2 b3 b4 b5 b6 b7 b8 b9 b10 b11 b12 b13 b14 b15 b16 : Bool) (w : World) : Prop := (Src P.W0 w P.c P.a P.len P.cap pp) ∧ (pp ≤ P.p + 40 * (b4.toNat + b9.toNat)) ∧ (P.w0.grownBy w (some P.c)) ∧ (RowAt w P.XB 25 (cond b16 #[P.y0, P.y1, P.y2, .slice (some ⟨G, 0, none⟩) (P.L.length + 1) CP, P.y4] #[P.y0, P.y1, P.y2, .slice P.aL P.L.length P.cL, P.y4])) ∧ (RowAt w P.XR 25 P.zr) ∧ (P.B ≤ w.heap.size) ∧ (P.c < P.XB ∧ P.c < P.B ∧ P.w0.heap.size ≤ P.B ∧ P.XR ≠ P.XB ∧ P.w0.heap.size ≤ P.XB ∧ P.W0.heap.size ≤ P.c ∧ P.p ≤ 900000 ∧ P.c ≠ P.XR) ∧ (b14 = false → OwnHp w P.B (.slice P.aL P.L.length P.cL) P.L) ∧ (b14 = true → OwnHp w P.B (.slice (some ⟨G, 0, none⟩) (P.L.length + 1) CP) (P.L ++ [(⟨x6, x11⟩ : Hp)])) ∧ (P.L.length ≤ 1000) ∧ (OwnHp w P.BO (.slice P.aO P.nO P.cO) P.LO ∧ P.c < P.BO ∧ ((Value.slice P.aO P.nO P.cO).ownBlock = none ∨ (Value.slice P.aO P.nO P.cO).ownBlock ≠ (Value.slice P.aL P.L.length P.cL).ownBlock)) ∧ (b2 = true → b14 = false → RowAt w X2 9 #[.string ⟨#[]⟩, .string ⟨#[65]⟩, .string ⟨#[108, 101, 110, 103, 116, 104]⟩, .string ⟨#[97]⟩] ∧ P.B ≤ X2) ∧ (b4 = true → R4 < 4) ∧ (b6 = true → x6.size ≤ 6) ∧ (b7 = true → b14 = false → RowAt w X7 9 #[.string ⟨#[32, 120]⟩, .string ⟨#[120, 32]⟩, .string ⟨#[10]⟩, .string ⟨#[120]⟩] ∧ P.B ≤ X7) ∧ (b9 = true → R9 < 4) ∧ (b11 = true → x11.size ≤ 2) ∧ (b13 = true → b14 = false → RowAt w X13 66 #[.string x6, .string x11] ∧ P.B ≤ X13)
def ra10I (P : ra10P) (l : Array Bool) (f : Act) (w : World) : Prop :=
 ∃ (b0 b1 b2 b3 b4 b5 b6 b7 b8 b9 b10 b11 b12 b13 b14 b15 b16 : Bool) (X2 : Nat) (R4 : Nat) (x6 : ByteArray) (X7 : Nat) (R9 : Nat) (x11 : ByteArray) (X13 : Nat) (G : Nat) (CP : Nat) (pp : Nat), l = #[b0, b1, b2, b3, b4, b5, b6, b7, b8, b9, b10, b11, b12, b13, b14, b15, b16] ∧ f = { tmps := ra10T P X2 R4 x6 X7 R9 x11 X13 G CP pp b0 b1 b2 b3 b4 b5 b6 b7 b8 b9 b10 b11 b12 b13 b14 b15 b16, defers := [] } ∧ ra10F P X2 R4 x6 X7 R9 x11 X13 G CP pp b0 b1 b2 b3 b4 b5 b6 b7 b8 b9 b10 b11 b12 b13 b14 b15 b16 w
theorem ra10M {P : ra10P} {b0 b1 b2 b3 b4 b5 b6 b7 b8 b9 b10 b11 b12 b13 b14 b15 b16 : Bool} (X2 : Nat) (R4 : Nat) (x6 : ByteArray) (X7 : Nat) (R9 : Nat) (x11 : ByteArray) (X13 : Nat) (G : Nat) (CP : Nat) (pp : Nat) {l : Array Bool} {f : Act} {w : World} (hl : l = #[b0, b1, b2, b3, b4, b5, b6, b7, b8, b9, b10, b11, b12, b13, b14, b15, b16]) (hf : f = { tmps := ra10T P X2 R4 x6 X7 R9 x11 X13 G CP pp b0 b1 b2 b3 b4 b5 b6 b7 b8 b9 b10 b11 b12 b13 b14 b15 b16, defers := [] }) (h : ra10F P X2 R4 x6 X7 R9 x11 X13 G CP pp b0 b1 b2 b3 b4 b5 b6 b7 b8 b9 b10 b11 b12 b13 b14 b15 b16 w) : ra10I P l f w := ⟨b0, b1, b2, b3, b4, b5, b6, b7, b8, b9, b10, b11, b12, b13, b14, b15, b16, X2, R4, x6, X7, R9, x11, X13, G, CP, pp, hl, hf, h⟩
set_option maxRecDepth 20000 in
set_option maxHeartbeats 20000000 in
theorem ra10_step {Q : Exit → Act → World → Prop} (P : ra10P) (l : Array Bool) (f : Act) (w : World) (hC : Closed ra10O l) (hI : ra10I P l f w) (i : Nat) (h0 : l.getD i true = false) (o : Oper) (ho : ra10O[i]? = some o) (h1 : ∀ e ∈ o.after, Region.binds .any e = true → l.getD e.on false = true) : wpOp Tryz.prog ra10O Q i (ra10I P (l.setIfInBounds i true)) f w := by
 obtain ⟨b0, b1, b2, b3, b4, b5, b6, b7, b8, b9, b10, b11, b12, b13, b14, b15, b16, X2, R4, x6, X7, R9, x11, X13, G, CP, pp, rfl, rfl, hF⟩ := hI
 have hi : i < 17 := by
  rcases Nat.lt_or_ge i 17 with h | h
  · exact h
  · rw [show ra10O[i]? = none from Array.getElem?_eq_none h] at ho; cases ho
 rcases (by omega : i = 0 ∨ i = 1 ∨ i = 2 ∨ i = 3 ∨ i = 4 ∨ i = 5 ∨ i = 6 ∨ i = 7 ∨ i = 8 ∨ i = 9 ∨ i = 10 ∨ i = 11 ∨ i = 12 ∨ i = 13 ∨ i = 14 ∨ i = 15 ∨ i = 16) with rfl | rfl | rfl | rfl | rfl | rfl | rfl | rfl | rfl | rfl | rfl | rfl | rfl | rfl | rfl | rfl | rfl
 · obtain rfl : ra10o0 = o := Option.some.inj ho
   obtain rfl : b0 = false := h0
   have hn := wayN_all hC (i := 0) rfl [(1, 0), (14, 1), (15, 0), (16, 0)] [] nk rfl; repeat (obtain ⟨rfl, hn⟩ := hn)
   obtain ⟨hS, hp, hg, hbox, hR, hBz, hst, ho1, ho2, hLn, hoO, hX2, hR4, hx6, hX7, hR9, hx11, hX13⟩ := hF
   refine wpOp_step (o := ra10o0) rfl (fun K hK => ?_)
   replace hK := hid hK
   simp only [ra10o0, ra10T, sel_f]
   go_simp
   exact hK.out _ _ (ra10M X2 R4 x6 X7 R9 x11 X13 G CP pp rfl rfl ⟨hS, hp, hg, hbox, hR, hBz, hst, ho1, ho2, hLn, hoO, hX2, hR4, hx6, hX7, hR9, hx11, hX13⟩)
 · obtain rfl : ra10o1 = o := Option.some.inj ho
   obtain rfl : b1 = false := h0
   have hn := wayP_all (o := ra10o1) hC h1 [(0, none)] [] nk rfl; repeat (obtain ⟨rfl, hn⟩ := hn)
   have hn := wayN_all hC (i := 1) rfl [(14, 1), (15, 1), (16, 1)] [] nk rfl; repeat (obtain ⟨rfl, hn⟩ := hn)
   obtain ⟨hS, hp, hg, hbox, hR, hBz, hst, ho1, ho2, hLn, hoO, hX2, hR4, hx6, hX7, hR9, hx11, hX13⟩ := hF
   have q := hbox.cell 3
   refine wpOp_step (o := ra10o1) rfl (fun K hK => ?_)
   replace hK := hid hK
   simp only [ra10o1, ra10T, sel_t, sel_f]
   go_simp
   exact hK.out _ _ (ra10M X2 R4 x6 X7 R9 x11 X13 G CP pp rfl rfl ⟨hS, hp, hg, hbox, hR, hBz, hst, ho1, ho2, hLn, hoO, hX2, hR4, hx6, hX7, hR9, hx11, hX13⟩)
 · obtain rfl : ra10o2 = o := Option.some.inj ho
   obtain rfl : b2 = false := h0
   have hn := wayN_all hC (i := 2) rfl [(5, 2), (6, 5), (12, 6), (13, 12), (14, 13), (15, 2), (16, 2)] [] nk rfl; repeat (obtain ⟨rfl, hn⟩ := hn)
   obtain ⟨hS, hp, hg, hbox, hR, hBz, hst, ho1, ho2, hLn, hoO, hX2, hR4, hx6, hX7, hR9, hx11, hX13⟩ := hF
   refine wpOp_step (o := ra10o2) rfl (fun K hK => ?_)
   replace hK := hid hK
   simp only [ra10o2, ra10T, sel_f]
   go_simp
   exact hK.out _ _ (ra10M w.heap.size R4 x6 X7 R9 x11 X13 G CP pp rfl rfl ⟨hS.alloc _, hp, grown_al hg _, hbox.alloc _, hR.alloc _, by simp only [World.size_alloc]; omega, hst, fun h => World.ownsRow.alloc (ho1 h) _, fun h => Bool.noConfusion h, hLn, ⟨World.ownsRow.alloc hoO.1 _, hoO.2⟩, fun _ _ => ⟨RowAt.new w _ _, hBz⟩, hR4, hx6, fun h e => ⟨(hX7 h e).1.alloc _, (hX7 h e).2⟩, hR9, hx11, fun h => Bool.noConfusion h⟩)
 · obtain rfl : ra10o3 = o := Option.some.inj ho
   obtain rfl : b3 = false := h0
   have hn := wayN_all hC (i := 3) rfl [(4, 3), (5, 4), (6, 5), (9, 4), (10, 9), (11, 10), (12, 6), (13, 12), (14, 9), (15, 3), (16, 3)] [] nk rfl; repeat (obtain ⟨rfl, hn⟩ := hn)
   obtain ⟨hS, hp, hg, hbox, hR, hBz, hst, ho1, ho2, hLn, hoO, hX2, hR4, hx6, hX7, hR9, hx11, hX13⟩ := hF
   simp only [Bool.toNat_false] at hp
   refine wpOp_step (o := ra10o3) rfl (fun K hK => ?_)
   replace hK := hid hK
   simp only [ra10o3, ra10T, sel_f]
   go_simp
   exact hK.out _ _ (ra10M X2 R4 x6 X7 R9 x11 X13 G CP pp rfl rfl ⟨hS, hp, hg, hbox, hR, hBz, hst, ho1, ho2, hLn, hoO, hX2, hR4, hx6, hX7, hR9, hx11, hX13⟩)
 · obtain rfl : ra10o4 = o := Option.some.inj ho
   obtain rfl : b4 = false := h0
   have hn := wayP_all (o := ra10o4) hC h1 [(3, none)] [] nk rfl; repeat (obtain ⟨rfl, hn⟩ := hn)
   have hn := wayN_all hC (i := 4) rfl [(5, 4), (6, 5), (9, 4), (10, 9), (11, 10), (12, 6), (13, 12), (14, 9), (15, 4), (16, 4)] [] nk rfl; repeat (obtain ⟨rfl, hn⟩ := hn)
   obtain ⟨hS, hp, hg, hbox, hR, hBz, hst, ho1, ho2, hLn, hoO, hX2, hR4, hx6, hX7, hR9, hx11, hX13⟩ := hF
   simp only [Bool.toNat_false] at hp
   have hcB : P.c < P.B := by omega
   refine wpOp_step (o := ra10o4) rfl (fun K hK => ?_)
   replace hK := hid hK
   simp only [ra10o4, ra10T, sel_t, sel_f]
   go_simp
   refine (n_all P.W0 _ P.c P.a P.len P.cap pp 4 hS (by omega) (by omega) (by omega)).mono ?_
   rintro e w2 ⟨⟨r, rfl, h20, h21⟩, hs2, hg2⟩
   obtain ⟨R, rfl⟩ := Int.eq_ofNat_of_zero_le h20
   dsimp only
   exact hK.out _ _ (ra10M X2 R x6 X7 R9 x11 X13 G CP (pp + 1) rfl rfl ⟨hs2, by show pp + 1 ≤ P.p + 40 * (1 + 0); omega, grown_trans hg hg2, rowF hbox hg2 hst.1, rowF2 hR hg2 hst.2.2.2.2.2.2.2, Nat.le_trans hBz hg2.size, hst, fun h => OwnHp.keptC (ho1 h) hg2 (by omega), fun h => Bool.noConfusion h, hLn, ⟨OwnHp.keptC hoO.1 hg2 hoO.2.1, hoO.2⟩, fun h e => ⟨rowF (hX2 h e).1 hg2 (by have := (hX2 h e).2; omega), (hX2 h e).2⟩, fun _ => by omega, hx6, fun h e => ⟨rowF (hX7 h e).1 hg2 (by have := (hX7 h e).2; omega), (hX7 h e).2⟩, hR9, hx11, fun h => Bool.noConfusion h⟩)
 · obtain rfl : ra10o5 = o := Option.some.inj ho
   obtain rfl : b5 = false := h0
   have hn := wayP_all (o := ra10o5) hC h1 [(4, none), (2, none), (3, some 4)] [] nk rfl; repeat (obtain ⟨rfl, hn⟩ := hn)
   have hn := wayN_all hC (i := 5) rfl [(6, 5), (12, 6), (13, 12), (14, 13), (15, 5), (16, 5)] [] nk rfl; repeat (obtain ⟨rfl, hn⟩ := hn)
   obtain ⟨hS, hp, hg, hbox, hR, hBz, hst, ho1, ho2, hLn, hoO, hX2, hR4, hx6, hX7, hR9, hx11, hX13⟩ := hF
   simp only [Bool.toNat_true] at hp
   have r := hR4 rfl
   have r0 : (R4 : Int) < 4 := by omega
   refine wpOp_step (o := ra10o5) rfl (fun K hK => ?_)
   replace hK := hid hK
   simp only [ra10o5, ra10T, sel_t, sel_f]
   go_simp
   exact hK.out _ _ (ra10M X2 R4 x6 X7 R9 x11 X13 G CP pp rfl rfl ⟨hS, hp, hg, hbox, hR, hBz, hst, ho1, ho2, hLn, hoO, hX2, hR4, hx6, hX7, hR9, hx11, hX13⟩)
 · obtain rfl : ra10o6 = o := Option.some.inj ho
   obtain rfl : b6 = false := h0
   have hn := wayP_all (o := ra10o6) hC h1 [(5, none), (2, some 5), (4, some 5), (3, some 4)] [] nk rfl; repeat (obtain ⟨rfl, hn⟩ := hn)
   have hn := wayN_all hC (i := 6) rfl [(12, 6), (13, 12), (14, 13), (15, 6), (16, 6)] [] nk rfl; repeat (obtain ⟨rfl, hn⟩ := hn)
   obtain ⟨hS, hp, hg, hbox, hR, hBz, hst, ho1, ho2, hLn, hoO, hX2, hR4, hx6, hX7, hR9, hx11, hX13⟩ := hF
   simp only [Bool.toNat_true] at hp
   obtain ⟨tt, hk2, htt⟩ := ra10_tab2  R4 (hR4 rfl)
   have c2 := ((hX2 rfl rfl).1.cell R4).trans hk2
   refine wpOp_step (o := ra10o6) rfl (fun K hK => ?_)
   replace hK := hid hK
   simp only [ra10o6, ra10T, sel_t, sel_f]
   go_simp
   exact hK.out _ _ (ra10M X2 R4 tt X7 R9 x11 X13 G CP pp rfl rfl ⟨hS, hp, hg, hbox, hR, hBz, hst, ho1, fun h => Bool.noConfusion h, hLn, hoO, hX2, hR4, fun _ => htt, hX7, hR9, hx11, fun h => Bool.noConfusion h⟩)
 · obtain rfl : ra10o7 = o := Option.some.inj ho
   obtain rfl : b7 = false := h0
   have hn := wayN_all hC (i := 7) rfl [(10, 7), (11, 10), (12, 11), (13, 12), (14, 13), (15, 7), (16, 7)] [] nk rfl; repeat (obtain ⟨rfl, hn⟩ := hn)
   obtain ⟨hS, hp, hg, hbox, hR, hBz, hst, ho1, ho2, hLn, hoO, hX2, hR4, hx6, hX7, hR9, hx11, hX13⟩ := hF
   refine wpOp_step (o := ra10o7) rfl (fun K hK => ?_)
   replace hK := hid hK
   simp only [ra10o7, ra10T, sel_f]
   go_simp
   exact hK.out _ _ (ra10M X2 R4 x6 w.heap.size R9 x11 X13 G CP pp rfl rfl ⟨hS.alloc _, hp, grown_al hg _, hbox.alloc _, hR.alloc _, by simp only [World.size_alloc]; omega, hst, fun h => World.ownsRow.alloc (ho1 h) _, fun h => Bool.noConfusion h, hLn, ⟨World.ownsRow.alloc hoO.1 _, hoO.2⟩, fun h e => ⟨(hX2 h e).1.alloc _, (hX2 h e).2⟩, hR4, hx6, fun _ _ => ⟨RowAt.new w _ _, hBz⟩, hR9, hx11, fun h => Bool.noConfusion h⟩)
 · obtain rfl : ra10o8 = o := Option.some.inj ho
   obtain rfl : b8 = false := h0
   have hn := wayN_all hC (i := 8) rfl [(9, 8), (10, 9), (11, 10), (12, 11), (13, 12), (14, 9), (15, 8), (16, 8)] [] nk rfl; repeat (obtain ⟨rfl, hn⟩ := hn)
   obtain ⟨hS, hp, hg, hbox, hR, hBz, hst, ho1, ho2, hLn, hoO, hX2, hR4, hx6, hX7, hR9, hx11, hX13⟩ := hF
   simp only [Bool.toNat_false] at hp
   refine wpOp_step (o := ra10o8) rfl (fun K hK => ?_)
   replace hK := hid hK
   simp only [ra10o8, ra10T, sel_f]
   go_simp
   exact hK.out _ _ (ra10M X2 R4 x6 X7 R9 x11 X13 G CP pp rfl rfl ⟨hS, hp, hg, hbox, hR, hBz, hst, ho1, ho2, hLn, hoO, hX2, hR4, hx6, hX7, hR9, hx11, hX13⟩)
 · obtain rfl : ra10o9 = o := Option.some.inj ho
   obtain rfl : b9 = false := h0
   have hn := wayP_all (o := ra10o9) hC h1 [(8, none), (4, none), (3, some 4)] [] nk rfl; repeat (obtain ⟨rfl, hn⟩ := hn)
   have hn := wayN_all hC (i := 9) rfl [(10, 9), (11, 10), (12, 11), (13, 12), (14, 9), (15, 9), (16, 9)] [] nk rfl; repeat (obtain ⟨rfl, hn⟩ := hn)
   obtain ⟨hS, hp, hg, hbox, hR, hBz, hst, ho1, ho2, hLn, hoO, hX2, hR4, hx6, hX7, hR9, hx11, hX13⟩ := hF
   simp only [Bool.toNat_true, Bool.toNat_false] at hp
   have hcB : P.c < P.B := by omega
   refine wpOp_step (o := ra10o9) rfl (fun K hK => ?_)
   replace hK := hid hK
   simp only [ra10o9, ra10T, sel_t, sel_f]
   go_simp
   refine (n_all P.W0 _ P.c P.a P.len P.cap pp 4 hS (by omega) (by omega) (by omega)).mono ?_
   rintro e w2 ⟨⟨r, rfl, h20, h21⟩, hs2, hg2⟩
   obtain ⟨R, rfl⟩ := Int.eq_ofNat_of_zero_le h20
   dsimp only
   exact hK.out _ _ (ra10M X2 R4 x6 X7 R x11 X13 G CP (pp + 1) rfl rfl ⟨hs2, by show pp + 1 ≤ P.p + 40 * (1 + 1); omega, grown_trans hg hg2, rowF hbox hg2 hst.1, rowF2 hR hg2 hst.2.2.2.2.2.2.2, Nat.le_trans hBz hg2.size, hst, fun h => OwnHp.keptC (ho1 h) hg2 (by omega), fun h => Bool.noConfusion h, hLn, ⟨OwnHp.keptC hoO.1 hg2 hoO.2.1, hoO.2⟩, fun h e => ⟨rowF (hX2 h e).1 hg2 (by have := (hX2 h e).2; omega), (hX2 h e).2⟩, hR4, hx6, fun h e => ⟨rowF (hX7 h e).1 hg2 (by have := (hX7 h e).2; omega), (hX7 h e).2⟩, fun _ => by omega, hx11, fun h => Bool.noConfusion h⟩)
 · obtain rfl : ra10o10 = o := Option.some.inj ho
   obtain rfl : b10 = false := h0
   have hn := wayP_all (o := ra10o10) hC h1 [(9, none), (7, none), (4, some 9), (8, some 9), (3, some 4)] [] nk rfl; repeat (obtain ⟨rfl, hn⟩ := hn)
   have hn := wayN_all hC (i := 10) rfl [(11, 10), (12, 11), (13, 12), (14, 13), (15, 10), (16, 10)] [] nk rfl; repeat (obtain ⟨rfl, hn⟩ := hn)
   obtain ⟨hS, hp, hg, hbox, hR, hBz, hst, ho1, ho2, hLn, hoO, hX2, hR4, hx6, hX7, hR9, hx11, hX13⟩ := hF
   simp only [Bool.toNat_true] at hp
   have r := hR9 rfl
   have r0 : (R9 : Int) < 4 := by omega
   refine wpOp_step (o := ra10o10) rfl (fun K hK => ?_)
   replace hK := hid hK
   simp only [ra10o10, ra10T, sel_t, sel_f]
   go_simp
   exact hK.out _ _ (ra10M X2 R4 x6 X7 R9 x11 X13 G CP pp rfl rfl ⟨hS, hp, hg, hbox, hR, hBz, hst, ho1, ho2, hLn, hoO, hX2, hR4, hx6, hX7, hR9, hx11, hX13⟩)
 · obtain rfl : ra10o11 = o := Option.some.inj ho
   obtain rfl : b11 = false := h0
   have hn := wayP_all (o := ra10o11) hC h1 [(10, none), (7, some 10), (9, some 10), (4, some 9), (8, some 9), (3, some 4)] [] nk rfl; repeat (obtain ⟨rfl, hn⟩ := hn)
   have hn := wayN_all hC (i := 11) rfl [(12, 11), (13, 12), (14, 13), (15, 11), (16, 11)] [] nk rfl; repeat (obtain ⟨rfl, hn⟩ := hn)
   obtain ⟨hS, hp, hg, hbox, hR, hBz, hst, ho1, ho2, hLn, hoO, hX2, hR4, hx6, hX7, hR9, hx11, hX13⟩ := hF
   simp only [Bool.toNat_true] at hp
   obtain ⟨tt, hk2, htt⟩ := ra10_tab7  R9 (hR9 rfl)
   have c2 := ((hX7 rfl rfl).1.cell R9).trans hk2
   refine wpOp_step (o := ra10o11) rfl (fun K hK => ?_)
   replace hK := hid hK
   simp only [ra10o11, ra10T, sel_t, sel_f]
   go_simp
   exact hK.out _ _ (ra10M X2 R4 x6 X7 R9 tt X13 G CP pp rfl rfl ⟨hS, hp, hg, hbox, hR, hBz, hst, ho1, fun h => Bool.noConfusion h, hLn, hoO, hX2, hR4, hx6, hX7, hR9, fun _ => htt, fun h => Bool.noConfusion h⟩)
 · obtain rfl : ra10o12 = o := Option.some.inj ho
   obtain rfl : b12 = false := h0
   have hn := wayP_all (o := ra10o12) hC h1 [(11, none), (6, none), (10, some 11), (7, some 10), (9, some 10), (4, some 9), (8, some 9), (5, some 6), (2, some 5), (3, some 4)] [] nk rfl; repeat (obtain ⟨rfl, hn⟩ := hn)
   have hn := wayN_all hC (i := 12) rfl [(13, 12), (14, 13), (15, 12), (16, 12)] [] nk rfl; repeat (obtain ⟨rfl, hn⟩ := hn)
   obtain ⟨hS, hp, hg, hbox, hR, hBz, hst, ho1, ho2, hLn, hoO, hX2, hR4, hx6, hX7, hR9, hx11, hX13⟩ := hF
   simp only [Bool.toNat_true] at hp
   refine wpOp_step (o := ra10o12) rfl (fun K hK => ?_)
   replace hK := hid hK
   simp only [ra10o12, ra10T, sel_t, sel_f]
   go_simp
   exact hK.out _ _ (ra10M X2 R4 x6 X7 R9 x11 X13 G CP pp rfl rfl ⟨hS, hp, hg, hbox, hR, hBz, hst, ho1, ho2, hLn, hoO, hX2, hR4, hx6, hX7, hR9, hx11, hX13⟩)
 · obtain rfl : ra10o13 = o := Option.some.inj ho
   obtain rfl : b13 = false := h0
   have hn := wayP_all (o := ra10o13) hC h1 [(12, none), (6, some 12), (11, some 12), (10, some 11), (7, some 10), (9, some 10), (4, some 9), (8, some 9), (5, some 6), (2, some 5), (3, some 4)] [] nk rfl; repeat (obtain ⟨rfl, hn⟩ := hn)
   have hn := wayN_all hC (i := 13) rfl [(14, 13), (15, 13), (16, 13)] [] nk rfl; repeat (obtain ⟨rfl, hn⟩ := hn)
   obtain ⟨hS, hp, hg, hbox, hR, hBz, hst, ho1, ho2, hLn, hoO, hX2, hR4, hx6, hX7, hR9, hx11, hX13⟩ := hF
   simp only [Bool.toNat_true] at hp
   refine wpOp_step (o := ra10o13) rfl (fun K hK => ?_)
   replace hK := hid hK
   simp only [ra10o13, ra10T, sel_t, sel_f]
   go_simp
   exact hK.out _ _ (ra10M X2 R4 x6 X7 R9 x11 w.heap.size G CP pp rfl rfl ⟨hS.alloc _, hp, grown_al hg _, hbox.alloc _, hR.alloc _, by simp only [World.size_alloc]; omega, hst, fun h => World.ownsRow.alloc (ho1 h) _, fun h => Bool.noConfusion h, hLn, ⟨World.ownsRow.alloc hoO.1 _, hoO.2⟩, fun h e => ⟨(hX2 h e).1.alloc _, (hX2 h e).2⟩, hR4, hx6, fun h e => ⟨(hX7 h e).1.alloc _, (hX7 h e).2⟩, hR9, hx11, fun _ _ => ⟨RowAt.new w _ _, hBz⟩⟩)
 · obtain rfl : ra10o14 = o := Option.some.inj ho
   obtain rfl : b14 = false := h0
   have hn := wayP_all (o := ra10o14) hC h1 [(13, none), (9, none), (1, none), (12, some 13), (6, some 12), (11, some 12), (10, some 11), (7, some 10), (4, some 9), (8, some 9), (5, some 6), (2, some 5), (3, some 4), (0, some 1)] [] nk rfl; repeat (obtain ⟨rfl, hn⟩ := hn)
   have hn := wayN_all hC (i := 14) rfl [(15, 14), (16, 14)] [] nk rfl; repeat (obtain ⟨rfl, hn⟩ := hn)
   obtain ⟨hS, hp, hg, hbox, hR, hBz, hst, ho1, ho2, hLn, hoO, hX2, hR4, hx6, hX7, hR9, hx11, hX13⟩ := hF
   simp only [Bool.toNat_true] at hp
   refine wpOp_step (o := ra10o14) rfl (fun K hK => ?_)
   replace hK := hid hK
   have hO := ho1 rfl
   refine step_append_hpD P.B _ (by rfl) _ _ 23 (by rfl) Tryz.underlying23 Tryz.infoHpF _ P.L x6 x11 (by rfl) hO hBz X13 (hX13 rfl rfl).1 (by rfl) (by omega) ?_
   intro g3 c3 w3 hO3 hg3
   exact hK.out _ _ (ra10M X2 R4 x6 X7 R9 x11 X13 g3 c3 pp rfl rfl ⟨hS.far hg3 (OwnHp.apart hO (by omega)) (fun g hg => by have := (World.ownsRow.lt hO _ hg).1; omega), hp, grown_own hg hg3 (fun g hg => (World.ownsRow.lt hO _ hg).1) (by omega), row_grown hbox hg3 (OwnHp.neRow hO hbox (by decide)), row_grown hR hg3 (OwnHp.neRow hO hR (by decide)), Nat.le_trans hBz hg3.size, hst, fun h => Bool.noConfusion h, fun _ => hO3, hLn, ⟨World.ownsRow.kept hoO.1 hg3 hoO.2.2, hoO.2⟩, fun h e => Bool.noConfusion e, hR4, hx6, fun h e => Bool.noConfusion e, hR9, hx11, fun h e => Bool.noConfusion e⟩)
 · obtain rfl : ra10o15 = o := Option.some.inj ho
   obtain rfl : b15 = false := h0
   have hn := wayP_all (o := ra10o15) hC h1 [(14, none), (13, none), (12, none), (11, none), (10, none), (9, none), (8, none), (7, none), (6, none), (5, none), (4, none), (3, none), (2, none), (1, none), (0, none)] [] nk rfl; repeat (obtain ⟨rfl, hn⟩ := hn)
   have hn := wayN_all hC (i := 15) rfl [(16, 15)] [] nk rfl; repeat (obtain ⟨rfl, hn⟩ := hn)
   obtain ⟨hS, hp, hg, hbox, hR, hBz, hst, ho1, ho2, hLn, hoO, hX2, hR4, hx6, hX7, hR9, hx11, hX13⟩ := hF
   simp only [Bool.toNat_true] at hp
   refine wpOp_step (o := ra10o15) rfl (fun K hK => ?_)
   replace hK := hid hK
   simp only [ra10o15, ra10T, sel_t, sel_f]
   go_simp
   exact hK.out _ _ (ra10M X2 R4 x6 X7 R9 x11 X13 G CP pp rfl rfl ⟨hS, hp, hg, hbox, hR, hBz, hst, ho1, ho2, hLn, hoO, hX2, hR4, hx6, hX7, hR9, hx11, hX13⟩)
 · obtain rfl : ra10o16 = o := Option.some.inj ho
   obtain rfl : b16 = false := h0
   have hn := wayP_all (o := ra10o16) hC h1 [(15, none), (14, none), (13, none), (12, none), (11, none), (10, none), (9, none), (8, none), (7, none), (6, none), (5, none), (4, none), (3, none), (2, none), (1, none), (0, none)] [] nk rfl; repeat (obtain ⟨rfl, hn⟩ := hn)
   obtain ⟨hS, hp, hg, hbox, hR, hBz, hst, ho1, ho2, hLn, hoO, hX2, hR4, hx6, hX7, hR9, hx11, hX13⟩ := hF
   simp only [Bool.toNat_true] at hp
   have hbx : RowAt w P.XB 25 #[P.y0, P.y1, P.y2, .slice P.aL P.L.length P.cL, P.y4] := hbox
   have q := hbx.cell 3
   have f := hbx.free 3
   refine wpOp_step (o := ra10o16) rfl (fun K hK => ?_)
   replace hK := hid hK
   simp only [ra10o16, ra10T, sel_t]
   go_simp
   exact hK.out _ _ (ra10M X2 R4 x6 X7 R9 x11 X13 G CP pp rfl rfl ⟨hS.set hst.1 3 _, hp, grown_far hg hst.2.2.2.2.1 3 _, hbx.set 3 _, hR.other ⟨P.XB, 3, none⟩ _ hst.2.2.2.1, by simp; omega, hst, fun h => Bool.noConfusion h, fun h => OwnHp.setCellN (ho2 h) (OwnHp.neRow (ho2 h) hbx (by decide)), hLn, ⟨OwnHp.setCellN hoO.1 (OwnHp.neRow hoO.1 hbx (by decide)), hoO.2⟩, fun h e => Bool.noConfusion e, hR4, hx6, fun h e => Bool.noConfusion e, hR9, hx11, fun h e => Bool.noConfusion e⟩)
set_option maxRecDepth 20000 in
set_option maxHeartbeats 4000000 in
theorem ra10_wp {Q : Exit → Act → World → Prop} {rid : Nat} (W0 w0 : World) (c : Nat) (a : Option Addr) (len cap p XR XB B : Nat) (zr : Array Value) (y0 y1 y2 y4 : Value) (aL : Option Addr) (cL : Nat) (L : List Hp) (BO : Nat) (aO : Option Addr) (nO cO : Nat) (LO : List Hp) {s1 s4 s5 s6 s7 s8 s9 s10 s11 s12 s13 s14 s15 s16 s17 s18 s19 s20 s21 s22 s23 s24 s25 s26 s27 s28 s29 s30 s31 s32 s33 s34 s35 s36 s37 s38 s39 s40 s41 s42 s43 s44 s45 s46 s47 s48 s49 s50 s51 s52 s53 s54 s55 s56 s57 s58 s59 s60 s61 s62 s63 s64 s65 s66 s67 s68 s69 s70 s71 : Value} (w : World) (hS : Src W0 w c a len cap p) (hg : w0.grownBy w (some c)) (hbox : RowAt w XB 25 #[y0, y1, y2, .slice aL L.length cL, y4]) (hR : RowAt w XR 25 zr) (hBz : B ≤ w.heap.size) (hst : c < XB ∧ c < B ∧ w0.heap.size ≤ B ∧ XR ≠ XB ∧ w0.heap.size ≤ XB ∧ W0.heap.size ≤ c ∧ p ≤ 900000 ∧ c ≠ XR) (ho1 : OwnHp w B (.slice aL L.length cL) L) (hLn : L.length ≤ 1000) (hoO : OwnHp w BO (.slice aO nO cO) LO ∧ c < BO ∧ ((Value.slice aO nO cO).ownBlock = none ∨ (Value.slice aO nO cO).ownBlock ≠ (Value.slice aL L.length cL).ownBlock))
 (fin : ∀ (X2 : Nat) (R4 : Nat) (x6 : ByteArray) (X7 : Nat) (R9 : Nat) (x11 : ByteArray) (X13 : Nat) (G : Nat) (CP : Nat) (pp : Nat) (w' : World), (Src W0 w' c a len cap pp) → (pp ≤ p + 40 * (1 + 1)) → (w0.grownBy w' (some c)) → (RowAt w' XB 25 #[y0, y1, y2, .slice (some ⟨G, 0, none⟩) (L.length + 1) CP, y4]) → (RowAt w' XR 25 zr) → (B ≤ w'.heap.size) → (c < XB ∧ c < B ∧ w0.heap.size ≤ B ∧ XR ≠ XB ∧ w0.heap.size ≤ XB ∧ W0.heap.size ≤ c ∧ p ≤ 900000 ∧ c ≠ XR) → (OwnHp w' B (.slice (some ⟨G, 0, none⟩) (L.length + 1) CP) (L ++ [(⟨x6, x11⟩ : Hp)])) → (L.length ≤ 1000) → (OwnHp w' BO (.slice aO nO cO) LO ∧ c < BO ∧ ((Value.slice aO nO cO).ownBlock = none ∨ (Value.slice aO nO cO).ownBlock ≠ (Value.slice aL L.length cL).ownBlock)) → (R4 < 4) → (x6.size ≤ 6) → (R9 < 4) → (x11.size ≤ 2) → Q .normal { tmps := #[.pointer (some ⟨c, 0, none⟩), s1, .pointer (some ⟨XR, 0, none⟩), .pointer (some ⟨XB, 0, none⟩), s4, s5, s6, s7, s8, s9, s10, s11, s12, s13, s14, s15, s16, s17, s18, s19, s20, s21, s22, s23, s24, s25, s26, s27, s28, s29, s30, s31, s32, s33, s34, s35, s36, s37, s38, s39, s40, s41, s42, s43, s44, s45, .pointer (some ⟨XB, 3, none⟩), .slice aL L.length cL, .slice (some ⟨X2, 0, none⟩) 4 4, .pointer (some ⟨c, 0, none⟩), .int .i64 (R4 : Int), .pointer (some ⟨X2, R4, none⟩), .string x6, .slice (some ⟨X7, 0, none⟩) 4 4, .pointer (some ⟨c, 0, none⟩), .int .i64 (R9 : Int), .pointer (some ⟨X7, R9, none⟩), .string x11, .agg #[.string x6, .string x11], .slice (some ⟨X13, 0, none⟩) 1 1, .slice (some ⟨G, 0, none⟩) (L.length + 1) CP, .pointer (some ⟨XB, 3, none⟩), s62, s63, s64, s65, s66, s67, s68, s69, s70, s71], defers := [] } w') :
 (Code.region rid ra10O true).wp Tryz.prog Q { tmps := #[.pointer (some ⟨c, 0, none⟩), s1, .pointer (some ⟨XR, 0, none⟩), .pointer (some ⟨XB, 0, none⟩), s4, s5, s6, s7, s8, s9, s10, s11, s12, s13, s14, s15, s16, s17, s18, s19, s20, s21, s22, s23, s24, s25, s26, s27, s28, s29, s30, s31, s32, s33, s34, s35, s36, s37, s38, s39, s40, s41, s42, s43, s44, s45, s46, s47, s48, s49, s50, s51, s52, s53, s54, s55, s56, s57, s58, s59, s60, s61, s62, s63, s64, s65, s66, s67, s68, s69, s70, s71], defers := [] } w := by
 refine wp_region_inv (ops := ra10O) (ra10I ⟨W0, w0, c, a, len, cap, p, XR, XB, B, zr, y0, y1, y2, y4, aL, cL, L, BO, aO, nO, cO, LO, s1, s4, s5, s6, s7, s8, s9, s10, s11, s12, s13, s14, s15, s16, s17, s18, s19, s20, s21, s22, s23, s24, s25, s26, s27, s28, s29, s30, s31, s32, s33, s34, s35, s36, s37, s38, s39, s40, s41, s42, s43, s44, s45, s46, s47, s48, s49, s50, s51, s52, s53, s54, s55, s56, s57, s58, s59, s60, s61, s62, s63, s64, s65, s66, s67, s68, s69, s70, s71⟩) (by kernel_rfl) (by kernel_rfl) (fun l f v hI => ?_) (fun l f v hC hI i h0 o ho h1 => ra10_step ⟨W0, w0, c, a, len, cap, p, XR, XB, B, zr, y0, y1, y2, y4, aL, cL, L, BO, aO, nO, cO, LO, s1, s4, s5, s6, s7, s8, s9, s10, s11, s12, s13, s14, s15, s16, s17, s18, s19, s20, s21, s22, s23, s24, s25, s26, s27, s28, s29, s30, s31, s32, s33, s34, s35, s36, s37, s38, s39, s40, s41, s42, s43, s44, s45, s46, s47, s48, s49, s50, s51, s52, s53, s54, s55, s56, s57, s58, s59, s60, s61, s62, s63, s64, s65, s66, s67, s68, s69, s70, s71⟩ l f v hC hI i h0 o ho h1) (fun l f v hI hall => ?_) ?_
 · obtain ⟨_, _, _, _, _, _, _, _, _, _, _, _, _, _, _, _, _, _, _, _, _, _, _, _, _, _, _, rfl, _⟩ := hI; rfl
 · obtain ⟨b0, b1, b2, b3, b4, b5, b6, b7, b8, b9, b10, b11, b12, b13, b14, b15, b16, X2, R4, x6, X7, R9, x11, X13, G, CP, pp, rfl, rfl, hS, hp, hg, hbox, hR, hBz, hst, ho1, ho2, hLn, hoO, hX2, hR4, hx6, hX7, hR9, hx11, hX13⟩ := hI
   have hn := allT hall [0, 1, 2, 3, 4, 5, 6, 7, 8, 9, 10, 11, 12, 13, 14, 15, 16] rfl; repeat (obtain ⟨rfl, hn⟩ := hn)
   exact fin X2 R4 x6 X7 R9 x11 X13 G CP pp v hS hp hg hbox hR hBz hst (ho2 rfl) hLn hoO (hR4 rfl) (hx6 rfl) (hR9 rfl) (hx11 rfl)
 · exact ⟨false, false, false, false, false, false, false, false, false, false, false, false, false, false, false, false, false, 0, 0, ⟨#[]⟩, 0, 0, ⟨#[]⟩, 0, 0, 0, p, rfl, rfl, hS.drew, Nat.le_add_right _ _, grown_trans hg (grown_drewS _ _), hbox.drew, hR.drew, hBz, hst, fun _ => World.ownsRow.drew ho1, fun h => Bool.noConfusion h, hLn, ⟨World.ownsRow.drew hoO.1, hoO.2⟩, fun h => Bool.noConfusion h, fun h => Bool.noConfusion h, fun h => Bool.noConfusion h, fun h => Bool.noConfusion h, fun h => Bool.noConfusion h, fun h => Bool.noConfusion h, fun h => Bool.noConfusion h⟩
end Go.Proofs.YtkcjigelenofhaaGreatDoor
namespace Go.Proofs.YtkcjigelenofhaaGreatDoor
open Go.RowKit
attribute [local go_sem ↓] Go.wp_at_zero Go.wp_at_succ
def AnyRq (W0 w : World) (c : Nat) (a : Option Addr) (len cap p : Nat) (e : Ending) (w' : World) : Prop :=
 ∃ (m pt b : ByteArray) (Q H : List Hp) (a1 : Option Addr) (c1 : Nat) (a2 : Option Addr) (c2 B1 B2 p' : Nat),
  e = .returned (.agg #[.string m, .string pt, .slice a1 Q.length c1, .slice a2 H.length c2, .string b]) ∧ (m.size ≤ 2000 ∧ pt.size ≤ 2000 ∧ b.size ≤ 2000 ∧ Q.length ≤ 10 ∧ H.length ≤ 10 ∧ (∀ x ∈ Q, x.nm.size ≤ 2000 ∧ x.vl.size ≤ 2000) ∧ ∀ x ∈ H, x.nm.size ≤ 2000 ∧ x.vl.size ≤ 2000) ∧
  OwnHp w' B1 (.slice a1 Q.length c1) Q ∧ OwnHp w' B2 (.slice a2 H.length c2) H ∧ Src W0 w' c a len cap p' ∧ w.grownBy w' (some c) ∧ p' ≤ p + 5000 ∧ c < B1 ∧ c < B2 ∧ ((Value.slice a2 H.length c2).ownBlock = none ∨ (Value.slice a2 H.length c2).ownBlock ≠ (Value.slice a1 Q.length c1).ownBlock)
theorem tab3 (k : Nat) (hk : k < 3) : ∃ t : ByteArray, (#[.string ⟨#[]⟩, .string ⟨#[103, 101, 116]⟩, .string ⟨#[65, 66, 67, 68, 69, 70, 71, 72, 73, 74, 75]⟩] : Array Value)[k]? = some (.string t) ∧ t.size ≤ 2000 := by
 rcases (by omega : k = 0 ∨ k = 1 ∨ k = 2) with rfl | rfl | rfl
 all_goals exact ⟨_, rfl, by decide⟩
theorem hps_mono {L : List Hp} (h : ∀ x ∈ L, x.nm.size ≤ 20 ∧ x.vl.size ≤ 20) : ∀ x ∈ L, x.nm.size ≤ 2000 ∧ x.vl.size ≤ 2000 := fun x hx => by have := h x hx; omega
theorem apart3 {w : World} {B : Nat} {u v : Value} {L : List Hp} (h : ∀ g, u.ownBlock = some g → g < B) (hO : OwnHp w B v L) : v.ownBlock = none ∨ v.ownBlock ≠ u.ownBlock := by
 cases hv : v.ownBlock with
 | none => exact .inl rfl
 | some g => exact .inr fun e => by have := h g e.symm; have := (World.ownsRow.lt hO g hv).1; omega
set_option maxRecDepth 20000 in
set_option maxHeartbeats 8000000 in
theorem anyRequest_all (W0 w : World) (c : Nat) (a : Option Addr) (len cap p : Nat) (h : Src W0 w c a len cap p) (hp : p ≤ 700000) :
 Calls Tryz.prog 34 #[.pointer (some ⟨c, 0, none⟩)] w fun e w' => AnyRq W0 w c a len cap p e w' := by
 have hcl := h.lt
 have hw0 := h.2.2.2.2
 obtain ⟨W1, hW1⟩ : ∃ W, W = w.alloc (.cells #[.string ⟨#[]⟩, .string ⟨#[]⟩, .slice none 0 0, .slice none 0 0, .string ⟨#[]⟩] 25) := ⟨_, rfl⟩
 have S0 : Hid (Src W0 W1 c a len cap p) := by rw [hW1]; exact h.alloc _
 have G0 : Hid (w.grownBy W1 (some c)) := by rw [hW1]; exact World.grownBy_alloc w _ _
 have RR : Hid (RowAt W1 w.heap.size 25 #[.string ⟨#[]⟩, .string ⟨#[]⟩, .slice none 0 0, .slice none 0 0, .string ⟨#[]⟩]) := by rw [hW1]; exact RowAt.new _ _ _
 have hs1 : w.heap.size < W1.heap.size := RR.out.lt
 have HW1 := hid hW1
 clear h hW1
 go_enter Tryz.func34, Tryz.ntmps34
 go_upto_region 1 with fail
 rw [← HW1.out]
 go_wp2_with fail
 refine (request_all W0 W1 c a len cap p S0.out (by omega)).mono ?_
 rintro e w2 ⟨m, pt, b, Q, H, a1, c1, a2, c2, B1, B2, p2, rfl, ⟨hm, hpt, hbb, hQl, hHl, hQs, hHs⟩, hOQ, hOH, hB1, hB2, hQB, ⟨hB1x0, hB2x0⟩, hS2, hp2, hg2⟩
 have hs2 : W1.heap.size ≤ w2.heap.size := hg2.size
 obtain ⟨XB, hXB⟩ : ∃ X, X = w2.heap.size := ⟨_, rfl⟩
 obtain ⟨W3, hW3⟩ : ∃ W, W = w2.alloc (.cells #[.string m, .string pt, .slice a1 Q.length c1, .slice a2 H.length c2, .string b] 25) := ⟨_, rfl⟩
 have S3 : Hid (Src W0 W3 c a len cap p2) := by rw [hW3]; exact hS2.alloc _
 have G3 : Hid (w.grownBy W3 (some c)) := by rw [hW3]; exact grown_al (grown_trans G0.out hg2) _
 have X3 : Hid (RowAt W3 XB 25 #[.string m, .string pt, .slice a1 Q.length c1, .slice a2 H.length c2, .string b]) := by rw [hW3, hXB]; exact RowAt.new _ _ _
 have R3 : Hid (RowAt W3 w.heap.size 25 #[.string ⟨#[]⟩, .string ⟨#[]⟩, .slice none 0 0, .slice none 0 0, .string ⟨#[]⟩]) := by rw [hW3]; exact (rowF2 RR.out hg2 (by omega)).alloc _
 have Q3 : Hid (OwnHp W3 B1 (.slice a1 Q.length c1) Q) := by rw [hW3]; exact World.ownsRow.alloc hOQ _
 have H3 : Hid (OwnHp W3 B2 (.slice a2 H.length c2) H) := by rw [hW3]; exact World.ownsRow.alloc hOH _
 have QB := hid hQB
 have hB1x : B1 ≤ W3.heap.size := by rw [hW3]; simp; omega
 have hB2x : B2 ≤ W3.heap.size := by rw [hW3]; simp; omega
 have hXw : w.heap.size < XB := by omega
 have HQs := hid (hps_mono hQs)
 have HHs := hid (hps_mono hHs)
 have HW3 := hid hW3
 have HXB := hid hXB
 clear hOQ hOH hS2 hg2 hW3 S0 G0 RR hQB hQs hHs hXB
 go_upto_region 2 with ((refine wpList_store_row rfl 25 (.tmp 3) (.tmp 5) rfl w2.heap.size #[.string m, .string pt, .slice a1 Q.length c1, .slice a2 H.length c2, .string b] rfl rfl _ _ (RowAt.new w2 _ _) (by kernel_rfl) rfl (by simp [Value.oneCell']) ?_); rw [World.setRow_alloc_new])
 rw [← HW3.out, ← HXB.out]
 go_wp2_with fail
 refine (n_all W0 _ c a len cap p2 14 S3.out (by omega) (by omega) (by omega)).mono ?_
 rintro e w4 ⟨⟨r4, rfl, h40, h41⟩, hs4, hg4⟩
 obtain ⟨R, rfl⟩ := Int.eq_ofNat_of_zero_le h40
 have S4 := hid hs4
 have G4 := hid (grown_trans G3.out hg4)
 have X4 := hid (rowF X3.out hg4 (by omega))
 have R4 := hid (rowF2 R3.out hg4 (by omega))
 have Q4 := hid (OwnHp.keptC Q3.out hg4 (by omega))
 have H4 := hid (OwnHp.keptC H3.out hg4 (by omega))
 have hB1w : B1 ≤ w4.heap.size := Nat.le_trans hB1x hg4.size
 have hB2w : B2 ≤ w4.heap.size := Nat.le_trans hB2x hg4.size
 clear hs4 hg4 S3 G3 X3 R3 Q3 H3 HW3 HXB
 by_cases e0 : R = 0
 · subst e0
   go_wp2_with fail
   refine (n_all W0 _ c a len cap (p2 + 1) 3 (S4.out.alloc _) (by omega) (by omega) (by omega)).mono ?_
   rintro e w5 ⟨⟨r5, rfl, h50, h51⟩, hs5, hg5⟩
   obtain ⟨R5, rfl⟩ := Int.eq_ofNat_of_zero_le h50
   obtain ⟨tt, hk, htt⟩ := tab3 R5 (by omega)
   have hc4 : c < w4.heap.size := S4.out.lt
   have ct := ((rowF (RowAt.new w4 9 #[.string ⟨#[]⟩, .string ⟨#[103, 101, 116]⟩, .string ⟨#[65, 66, 67, 68, 69, 70, 71, 72, 73, 74, 75]⟩]) hg5 hc4).cell R5).trans hk
   have r5 : (R5 : Int) < 3 := by omega
   have X5 := rowF (X4.out.alloc _) hg5 (by omega)
   obtain ⟨W6, hW6⟩ : ∃ W, W = w5.setCell ⟨XB, 0, none⟩ (.string tt) := ⟨_, rfl⟩
   have S6 : Hid (Src W0 W6 c a len cap (p2 + 1 + 1)) := by rw [hW6]; exact hs5.set (by omega) 0 _
   have G6 : Hid (w.grownBy W6 (some c)) := by rw [hW6]; exact grown_far (grown_trans (grown_al G4.out _) hg5) (by omega) 0 _
   have X6 : Hid (RowAt W6 XB 25 #[.string tt, .string pt, .slice a1 Q.length c1, .slice a2 H.length c2, .string b]) := by rw [hW6]; exact X5.set 0 _
   have R6 : Hid (RowAt W6 w.heap.size 25 #[.string ⟨#[]⟩, .string ⟨#[]⟩, .slice none 0 0, .slice none 0 0, .string ⟨#[]⟩]) := by rw [hW6]; exact (rowF2 (R4.out.alloc _) hg5 (by omega)).other ⟨XB, 0, none⟩ _ (by simp; omega)
   have Q5 := OwnHp.keptC (World.ownsRow.alloc Q4.out _) hg5 (by omega)
   have H5 := OwnHp.keptC (World.ownsRow.alloc H4.out _) hg5 (by omega)
   have Q6 : Hid (OwnHp W6 B1 (.slice a1 Q.length c1) Q) := by rw [hW6]; exact OwnHp.setCellN Q5 (OwnHp.neRow Q5 X5 (by decide))
   have H6 : Hid (OwnHp W6 B2 (.slice a2 H.length c2) H) := by rw [hW6]; exact OwnHp.setCellN H5 (OwnHp.neRow H5 X5 (by decide))
   have q0 := X5.cell 0
   have f0 := X5.free 0
   have HW6 := hid hW6
   clear hs5 hg5 hW6 X5 Q5 H5 S4 G4 X4 R4 Q4 H4
   go_upto_region 13 with fail
   rw [← HW6.out]
   clear q0 f0 HW6 ct hk
   have z0 := X6.out.cell 0
   have z1 := X6.out.cell 1
   have z2 := X6.out.cell 2
   have z3 := X6.out.cell 3
   have z4 := X6.out.cell 4
   go_wp2_with (refine wpList_store_row rfl 25 (.tmp 2) (.tmp 71) rfl w.heap.size #[.string tt, .string pt, .slice a1 Q.length c1, .slice a2 H.length c2, .string b] rfl rfl _ _ R6.out (by kernel_rfl) rfl (by simp [Value.oneCell']) ?_)
   refine bodyPost_ret (v := .agg #[.string tt, .string pt, .slice a1 Q.length c1, .slice a2 H.length c2, .string b]) ?_ rfl ⟨tt, pt, b, Q, H, a1, c1, a2, c2, B1, B2, _, rfl, ⟨by omega, by omega, by omega, by omega, by omega, HQs.out, HHs.out⟩, OwnHp.setRowN Q6.out (OwnHp.neRow Q6.out R6.out (by decide)) _, OwnHp.setRowN H6.out (OwnHp.neRow H6.out R6.out (by decide)) _, S6.out.setRowD (by omega) _, grown_setRowD G6.out (by omega) _, by omega, by omega, by omega, apart3 QB.out H6.out⟩
   exact results_cell_row Tryz.results34 _ _ w.heap.size _ _ _ _ rfl (R6.out.setRow _) Tryz.underlying25 rfl (by kernel_rfl)
 have b0 : ((R : Int) == 0) = false := by simp; omega
 by_cases e1 : R = 1
 · subst e1
   go_upto_region 6 with fail
   refine ra6_wp W0 w c a len cap (p2 + 1) w.heap.size XB w4.heap.size #[.string ⟨#[]⟩, .string ⟨#[]⟩, .slice none 0 0, .slice none 0 0, .string ⟨#[]⟩] (.string m) (.string pt) (.slice a1 Q.length c1) (.slice a2 H.length c2) (.string b) B1 a1 Q.length c1 Q B2 a2 H.length c2 H w4 S4.out G4.out X4.out R4.out (Nat.le_refl _) ⟨by omega, S4.out.lt, G4.out.size, by omega, by omega, hw0, by omega, by omega⟩ ⟨Q4.out, by omega⟩ ⟨H4.out, by omega⟩ ?_
   intro X0 x1 X2 R4 x6 pp w5 hS5 hp5 hg5 hbx5 hR5 hBz5 _ hoO hoU hx1 _ hx6
   have S6 := hid hS5
   have G6 := hid hg5
   have X6 := hid hbx5
   have R6 := hid hR5
   have Q6 := hid hoO.1
   have H6 := hid hoU.1
   clear hS5 hg5 hbx5 hR5 hoO hoU
   go_upto_region 13 with fail
   have z0 := X6.out.cell 0
   have z1 := X6.out.cell 1
   have z2 := X6.out.cell 2
   have z3 := X6.out.cell 3
   have z4 := X6.out.cell 4
   go_wp2_with (refine wpList_store_row rfl 25 (.tmp 2) (.tmp 71) rfl w.heap.size #[.string m, .string x6, .slice a1 Q.length c1, .slice a2 H.length c2, .string b] rfl rfl _ _ R6.out (by kernel_rfl) rfl (by simp [Value.oneCell']) ?_)
   refine bodyPost_ret (v := .agg #[.string m, .string x6, .slice a1 Q.length c1, .slice a2 H.length c2, .string b]) ?_ rfl ⟨m, x6, b, Q, H, a1, c1, a2, c2, B1, B2, _, rfl, ⟨by omega, by omega, by omega, by omega, by omega, HQs.out, HHs.out⟩, OwnHp.setRowN Q6.out (OwnHp.neRow Q6.out R6.out (by decide)) _, OwnHp.setRowN H6.out (OwnHp.neRow H6.out R6.out (by decide)) _, S6.out.setRowD (by omega) _, grown_setRowD G6.out (by omega) _, by omega, by omega, by omega, apart3 QB.out H6.out⟩
   exact results_cell_row Tryz.results34 _ _ w.heap.size _ _ _ _ rfl (R6.out.setRow _) Tryz.underlying25 rfl (by kernel_rfl)
 have b1 : ((R : Int) == 1) = false := by simp; omega
 by_cases e2 : R = 2
 · subst e2
   go_upto_region 8 with fail
   refine ra8_wp W0 w c a len cap (p2 + 1) w.heap.size XB B1 #[.string ⟨#[]⟩, .string ⟨#[]⟩, .slice none 0 0, .slice none 0 0, .string ⟨#[]⟩] (.string m) (.string pt) (.slice a2 H.length c2) (.string b) a1 c1 Q B2 a2 H.length c2 H w4 S4.out G4.out X4.out R4.out hB1w ⟨by omega, by omega, by omega, by omega, by omega, hw0, by omega, by omega⟩ Q4.out (by omega) ⟨H4.out, by omega, apart3 QB.out H4.out⟩ ?_
   intro R3 X5 x6 X7 R9 x11 X13 G CP pp w5 hS5 hp5 hg5 hbx5 hR5 hBz5 _ ho2 _ hoO _ hx6 _ hx11
   have S6 := hid hS5
   have G6 := hid hg5
   have X6 := hid hbx5
   have R6 := hid hR5
   have Q6 := hid ho2
   have H6 := hid hoO.1
   have AP8 := hid hoO.2.2
   clear hS5 hg5 hbx5 hR5 hoO ho2
   go_upto_region 13 with fail
   have z0 := X6.out.cell 0
   have z1 := X6.out.cell 1
   have z2 := X6.out.cell 2
   have z3 := X6.out.cell 3
   have z4 := X6.out.cell 4
   go_wp2_with (refine wpList_store_row rfl 25 (.tmp 2) (.tmp 71) rfl w.heap.size #[.string m, .string pt, .slice (some ⟨G, 0, none⟩) (Q.length + 1) CP, .slice a2 H.length c2, .string b] rfl rfl _ _ R6.out (by kernel_rfl) rfl (by simp [Value.oneCell']) ?_)
   refine bodyPost_ret (v := .agg #[.string m, .string pt, .slice (some ⟨G, 0, none⟩) (Q.length + 1) CP, .slice a2 H.length c2, .string b]) ?_ rfl ⟨m, pt, b, (Q ++ [(⟨x11, ⟨#[120]⟩⟩ : Hp)]), H, some ⟨G, 0, none⟩, CP, a2, c2, B1, B2, _, by simp, ⟨by omega, by omega, by omega, by rw [hp_len]; omega, by omega, mem_app HQs.out ⟨by show x11.size ≤ 2000; omega, by show (1 : Nat) ≤ 2000; omega⟩, HHs.out⟩, by rw [hp_len]; exact OwnHp.setRowN Q6.out (OwnHp.neRow Q6.out R6.out (by decide)) _, OwnHp.setRowN H6.out (OwnHp.neRow H6.out R6.out (by decide)) _, S6.out.setRowD (by omega) _, grown_setRowD G6.out (by omega) _, by omega, by omega, by omega, AP8.out⟩
   exact results_cell_row Tryz.results34 _ _ w.heap.size _ _ _ _ rfl (R6.out.setRow _) Tryz.underlying25 rfl (by kernel_rfl)
 have b2 : ((R : Int) == 2) = false := by simp; omega
 by_cases e3 : R = 3
 · subst e3
   go_upto_region 10 with fail
   refine ra10_wp W0 w c a len cap (p2 + 1) w.heap.size XB B2 #[.string ⟨#[]⟩, .string ⟨#[]⟩, .slice none 0 0, .slice none 0 0, .string ⟨#[]⟩] (.string m) (.string pt) (.slice a1 Q.length c1) (.string b) a2 c2 H B1 a1 Q.length c1 Q w4 S4.out G4.out X4.out R4.out hB2w ⟨by omega, by omega, by omega, by omega, by omega, hw0, by omega, by omega⟩ H4.out (by omega) ⟨Q4.out, by omega, apart2 QB.out H4.out⟩ ?_
   intro X2 R4 x6 X7 R9 x11 X13 G CP pp w5 hS5 hp5 hg5 hbx5 hR5 hBz5 _ ho2 _ hoO _ hx6 _ hx11
   have S6 := hid hS5
   have G6 := hid hg5
   have X6 := hid hbx5
   have R6 := hid hR5
   have H6 := hid ho2
   have Q6 := hid hoO.1
   clear hS5 hg5 hbx5 hR5 hoO ho2
   go_upto_region 13 with fail
   have z0 := X6.out.cell 0
   have z1 := X6.out.cell 1
   have z2 := X6.out.cell 2
   have z3 := X6.out.cell 3
   have z4 := X6.out.cell 4
   go_wp2_with (refine wpList_store_row rfl 25 (.tmp 2) (.tmp 71) rfl w.heap.size #[.string m, .string pt, .slice a1 Q.length c1, .slice (some ⟨G, 0, none⟩) (H.length + 1) CP, .string b] rfl rfl _ _ R6.out (by kernel_rfl) rfl (by simp [Value.oneCell']) ?_)
   refine bodyPost_ret (v := .agg #[.string m, .string pt, .slice a1 Q.length c1, .slice (some ⟨G, 0, none⟩) (H.length + 1) CP, .string b]) ?_ rfl ⟨m, pt, b, Q, (H ++ [(⟨x6, x11⟩ : Hp)]), a1, c1, some ⟨G, 0, none⟩, CP, B1, B2, _, by simp, ⟨by omega, by omega, by omega, by omega, by rw [hp_len]; omega, HQs.out, mem_app HHs.out ⟨by show x6.size ≤ 2000; omega, by show x11.size ≤ 2000; omega⟩⟩, OwnHp.setRowN Q6.out (OwnHp.neRow Q6.out R6.out (by decide)) _, by rw [hp_len]; exact OwnHp.setRowN H6.out (OwnHp.neRow H6.out R6.out (by decide)) _, S6.out.setRowD (by omega) _, grown_setRowD G6.out (by omega) _, by omega, by omega, by omega, by rw [hp_len]; exact apart3 QB.out H6.out⟩
   exact results_cell_row Tryz.results34 _ _ w.heap.size _ _ _ _ rfl (R6.out.setRow _) Tryz.underlying25 rfl (by kernel_rfl)
 have b3 : ((R : Int) == 3) = false := by simp; omega
 by_cases e4 : R = 4
 · subst e4
   have q3 := X4.out.cell 3
   obtain ⟨W5, hW5⟩ : ∃ W, W = w4.alloc (.cells #[.string ⟨#[97]⟩, .string ⟨#[]⟩, .string ⟨#[97]⟩, .string ⟨#[]⟩] 66) := ⟨_, rfl⟩
   have RP : RowAt W5 w4.heap.size 66 #[.string ⟨#[97]⟩, .string ⟨#[]⟩, .string ⟨#[97]⟩, .string ⟨#[]⟩] := by rw [hW5]; exact RowAt.new _ _ _
   have HA : OwnHp W5 B2 (.slice a2 H.length c2) H := by rw [hW5]; exact World.ownsRow.alloc H4.out _
   have XA : RowAt W5 XB 25 #[.string m, .string pt, .slice a1 Q.length c1, .slice a2 H.length c2, .string b] := by rw [hW5]; exact X4.out.alloc _
   have RA : RowAt W5 w.heap.size 25 #[.string ⟨#[]⟩, .string ⟨#[]⟩, .slice none 0 0, .slice none 0 0, .string ⟨#[]⟩] := by rw [hW5]; exact R4.out.alloc _
   have SA : Src W0 W5 c a len cap (p2 + 1) := by rw [hW5]; exact S4.out.alloc _
   have GA : w.grownBy W5 (some c) := by rw [hW5]; exact grown_al G4.out _
   have QA : OwnHp W5 B1 (.slice a1 Q.length c1) Q := by rw [hW5]; exact World.ownsRow.alloc Q4.out _
   have z5 : B2 ≤ W5.heap.size := by rw [hW5]; simp; omega
   obtain ⟨HM, hHM⟩ : ∃ l, l = H ++ [(⟨⟨#[97]⟩, ⟨#[]⟩⟩ : Hp), ⟨⟨#[97]⟩, ⟨#[]⟩⟩] := ⟨_, rfl⟩
   have HHM := hid hHM
   have AP := apart2 QB.out HA
   clear hHM
   have AR : Hid (∀ {ops : Array Oper} {rest : List Oper} {op : Oper} {f : Act} {K : Exit → Act → World → Prop}, op.guard = none → op.op = .call { callee := .builtin .append, args := #[.tmp 65, .tmp 68], argTypes := #[23, 23] } → f.eval (.tmp 65) = .slice a2 H.length c2 → f.eval (.tmp 68) = .slice (some ⟨w4.heap.size, 0, none⟩) 2 2 → (∀ g cp w5, OwnHp w5 B2 (.slice (some ⟨g, 0, none⟩) HM.length cp) HM → W5.grownBy w5 (Value.slice a2 H.length c2).ownBlock → wpList Tryz.prog ops K rest (f.put op.dst (.slice (some ⟨g, 0, none⟩) HM.length cp)) w5) → wpList Tryz.prog ops K (op :: rest) f W5) := by
    intro ops rest op f K h1 h2 h3 h4 h5
    refine append_hps B2 W5 h1 (.tmp 65) (.tmp 68) 23 h2 Tryz.underlying23 Tryz.infoHpF _ H h3 HA z5 w4.heap.size 0 2 2 [(⟨⟨#[97]⟩, ⟨#[]⟩⟩ : Hp), ⟨⟨#[97]⟩, ⟨#[]⟩⟩] h4 rfl (fun k hk => ?_) (by omega) (fun v5 w5 hO5 hg5 => ?_)
    · rcases (by omega : k = 0 ∨ k = 1) with rfl | rfl
      · exact ⟨RP.cell 0, RP.cell 1⟩
      · exact ⟨RP.cell 2, RP.cell 3⟩
    · rw [← HHM.out] at hO5
      obtain ⟨g, cp, rfl, _⟩ := OwnHp.shape hO5 (by rw [HHM.out]; simp)
      exact h5 g cp w5 hO5 hg5
   have HW5 := hid hW5
   have q3 := XA.cell 3
   clear hW5
   go_upto_region 13 with (at_builtin; rw [← HW5.out]; refine AR.out rfl rfl rfl rfl ?_; intro g5 cp5 w5 hO5 hg5; have X5 := row_grown XA hg5 (OwnHp.neRow HA XA (by decide)); have q5 := X5.cell 3; have f5 := X5.free 3)
   obtain ⟨W6, hW6⟩ : ∃ W, W = w5.setCell ⟨XB, 3, none⟩ (.slice (some ⟨g5, 0, none⟩) HM.length cp5) := ⟨_, rfl⟩
   have S6 : Hid (Src W0 W6 c a len cap (p2 + 1)) := by rw [hW6]; exact (SA.far hg5 (OwnHp.apart HA (by omega)) (fun g hg => by have := (World.ownsRow.lt HA _ hg).1; omega)).set (by omega) 3 _
   have G6 : Hid (w.grownBy W6 (some c)) := by rw [hW6]; exact grown_far (grown_own GA hg5 (fun g hg => (World.ownsRow.lt HA _ hg).1) (by omega)) (by omega) 3 _
   have X6 : Hid (RowAt W6 XB 25 #[.string m, .string pt, .slice a1 Q.length c1, .slice (some ⟨g5, 0, none⟩) HM.length cp5, .string b]) := by rw [hW6]; exact X5.set 3 _
   have R6 : Hid (RowAt W6 w.heap.size 25 #[.string ⟨#[]⟩, .string ⟨#[]⟩, .slice none 0 0, .slice none 0 0, .string ⟨#[]⟩]) := by rw [hW6]; exact (row_grown RA hg5 (OwnHp.neRow HA RA (by decide))).other ⟨XB, 3, none⟩ _ (by simp; omega)
   have Q5 : OwnHp w5 B1 (.slice a1 Q.length c1) Q := World.ownsRow.kept QA hg5 AP
   have Q6 : Hid (OwnHp W6 B1 (.slice a1 Q.length c1) Q) := by rw [hW6]; exact OwnHp.setCellN Q5 (OwnHp.neRow Q5 X5 (by decide))
   have H6 : Hid (OwnHp W6 B2 (.slice (some ⟨g5, 0, none⟩) HM.length cp5) HM) := by rw [hW6]; exact OwnHp.setCellN hO5 (OwnHp.neRow hO5 X5 (by decide))
   rw [← hW6]
   have hHMl : HM.length ≤ 10 := by rw [HHM.out]; simp; omega
   have hHMs : ∀ x ∈ HM, x.nm.size ≤ 2000 ∧ x.vl.size ≤ 2000 := by rw [HHM.out, show H ++ [(⟨⟨#[97]⟩, ⟨#[]⟩⟩ : Hp), ⟨⟨#[97]⟩, ⟨#[]⟩⟩] = (H ++ [(⟨⟨#[97]⟩, ⟨#[]⟩⟩ : Hp)]) ++ [(⟨⟨#[97]⟩, ⟨#[]⟩⟩ : Hp)] by simp]; exact mem_app (mem_app HHs.out ⟨by show (1 : Nat) ≤ 2000; omega, by show (0 : Nat) ≤ 2000; omega⟩) ⟨by show (1 : Nat) ≤ 2000; omega, by show (0 : Nat) ≤ 2000; omega⟩
   have HHMs := hid hHMs
   clear hW6 X5 q5 f5 hO5 hg5 Q5 SA GA XA RA QA HA RP AR AP q3 hHMs
   have z0 := X6.out.cell 0
   have z1 := X6.out.cell 1
   have z2 := X6.out.cell 2
   have z3 := X6.out.cell 3
   have z4 := X6.out.cell 4
   go_wp2_with (refine wpList_store_row rfl 25 (.tmp 2) (.tmp 71) rfl w.heap.size #[.string m, .string pt, .slice a1 Q.length c1, .slice (some ⟨g5, 0, none⟩) HM.length cp5, .string b] rfl rfl _ _ R6.out (by kernel_rfl) rfl (by simp [Value.oneCell']) ?_)
   refine bodyPost_ret (v := .agg #[.string m, .string pt, .slice a1 Q.length c1, .slice (some ⟨g5, 0, none⟩) HM.length cp5, .string b]) ?_ rfl ⟨m, pt, b, Q, HM, a1, c1, some ⟨g5, 0, none⟩, cp5, B1, B2, _, rfl, ⟨by omega, by omega, by omega, by omega, hHMl, HQs.out, HHMs.out⟩, OwnHp.setRowN Q6.out (OwnHp.neRow Q6.out R6.out (by decide)) _, OwnHp.setRowN H6.out (OwnHp.neRow H6.out R6.out (by decide)) _, S6.out.setRowD (by omega) _, grown_setRowD G6.out (by omega) _, by omega, by omega, by omega, apart3 QB.out H6.out⟩
   exact results_cell_row Tryz.results34 _ _ w.heap.size _ _ _ _ rfl (R6.out.setRow _) Tryz.underlying25 rfl (by kernel_rfl)
 have b4 : ((R : Int) == 4) = false := by simp; omega
 go_upto_region 13 with fail
 have z0 := X4.out.cell 0
 have z1 := X4.out.cell 1
 have z2 := X4.out.cell 2
 have z3 := X4.out.cell 3
 have z4 := X4.out.cell 4
 go_wp2_with (refine wpList_store_row rfl 25 (.tmp 2) (.tmp 71) rfl w.heap.size #[.string m, .string pt, .slice a1 Q.length c1, .slice a2 H.length c2, .string b] rfl rfl _ _ R4.out (by kernel_rfl) rfl (by simp [Value.oneCell']) ?_)
 refine bodyPost_ret (v := .agg #[.string m, .string pt, .slice a1 Q.length c1, .slice a2 H.length c2, .string b]) ?_ rfl ⟨m, pt, b, Q, H, a1, c1, a2, c2, B1, B2, _, rfl, ⟨by omega, by omega, by omega, by omega, by omega, HQs.out, HHs.out⟩, OwnHp.setRowN Q4.out (OwnHp.neRow Q4.out R4.out (by decide)) _, OwnHp.setRowN H4.out (OwnHp.neRow H4.out R4.out (by decide)) _, S4.out.setRowD (by omega) _, grown_setRowD G4.out (by omega) _, by omega, by omega, by omega, apart3 QB.out H4.out⟩
 exact results_cell_row Tryz.results34 _ _ w.heap.size _ _ _ _ rfl (R4.out.setRow _) Tryz.underlying25 rfl (by kernel_rfl)
end Go.Proofs.YtkcjigelenofhaaGreatDoor
