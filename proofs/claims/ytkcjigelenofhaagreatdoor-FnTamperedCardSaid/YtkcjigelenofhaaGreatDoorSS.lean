import Derived.Test.YtkcjigelenofhaaGreatDoorG8
import Derived.Test.YtkcjigelenofhaaGreatDoorG4
namespace Go.Proofs.YtkcjigelenofhaaGreatDoor
open Go.RowKit
set_option linter.unusedVariables false
def sg12o0 : Oper := ⟨some 98, .fieldAddr 25 (.tmp 13) 2, 0, "l10_request.go:309", #[], none⟩
def sg12o1 : Oper := ⟨some 99, .load 23 (.tmp 98), 23, "l10_request.go:309", #[⟨0, .data⟩], none⟩
def sg12o2 : Oper := ⟨some 100, .fieldAddr 27 (.tmp 6) 0, 0, "l10_request.go:309", #[], none⟩
def sg12o3 : Oper := ⟨some 101, .load 9 (.tmp 100), 9, "l10_request.go:309", #[⟨2, .data⟩], none⟩
def sg12o4 : Oper := ⟨some 102, .build 66 #[(0, .const (.string { data := #[120, 45, 105, 100] })), (1, .tmp 101)], 66, "l10_request.go:309", #[⟨3, .data⟩], none⟩
def sg12o5 : Oper := ⟨some 103, .move (.tmp 3), 2, "l10_request.go:309", #[], none⟩
def sg12o6 : Oper := ⟨some 104, .call { callee := .value (.func 50), args := #[.tmp 103], argTypes := #[2] }, 9, "l10_request.go:309", #[⟨5, .data⟩], none⟩
def sg12o7 : Oper := ⟨some 105, .build 66 #[(0, .const (.string { data := #[120, 45, 102, 114, 111, 109] })), (1, .tmp 104)], 66, "l10_request.go:309", #[⟨6, .data⟩], none⟩
def sg12o8 : Oper := ⟨some 106, .move (.tmp 4), 2, "l10_request.go:309", #[], none⟩
def sg12o9 : Oper := ⟨some 107, .call { callee := .value (.func 50), args := #[.tmp 106], argTypes := #[2] }, 9, "l10_request.go:309", #[⟨8, .data⟩, ⟨6, .chain⟩], none⟩
def sg12o10 : Oper := ⟨some 108, .build 66 #[(0, .const (.string { data := #[120, 45, 108, 97, 115, 116, 115] })), (1, .tmp 107)], 66, "l10_request.go:309", #[⟨9, .data⟩], none⟩
def sg12o11 : Oper := ⟨some 109, .move (.tmp 2), 28, "l10_request.go:309", #[], none⟩
def sg12o12 : Oper := ⟨some 110, .call { callee := .value (.func 51), args := #[.tmp 109], argTypes := #[28] }, 9, "l10_request.go:309", #[⟨11, .data⟩, ⟨9, .chain⟩], none⟩
def sg12o13 : Oper := ⟨some 111, .build 66 #[(0, .const (.string { data := #[120, 45, 115, 105, 103, 110, 101, 100] })), (1, .tmp 110)], 66, "l10_request.go:309", #[⟨12, .data⟩], none⟩
def sg12o14 : Oper := ⟨some 112, .buildSlice 23 4 #[(0, .tmp 102), (1, .tmp 105), (2, .tmp 108), (3, .tmp 111)], 23, "l10_request.go:309", #[⟨4, .data⟩, ⟨7, .data⟩, ⟨10, .data⟩, ⟨13, .data⟩], none⟩
def sg12o15 : Oper := ⟨some 113, .call { callee := .builtin Builtin.append, args := #[.tmp 99, .tmp 112], argTypes := #[23, 23] }, 23, "l10_request.go:309", #[⟨1, .data⟩, ⟨14, .data⟩, ⟨12, .chain⟩], none⟩
def sg12o16 : Oper := ⟨some 114, .fieldAddr 25 (.tmp 13) 2, 0, "l10_request.go:309", #[⟨0, .phase⟩, ⟨1, .phase⟩, ⟨2, .phase⟩, ⟨3, .phase⟩, ⟨4, .phase⟩, ⟨5, .phase⟩, ⟨6, .phase⟩, ⟨7, .phase⟩, ⟨8, .phase⟩, ⟨9, .phase⟩, ⟨10, .phase⟩, ⟨11, .phase⟩, ⟨12, .phase⟩, ⟨13, .phase⟩, ⟨14, .phase⟩, ⟨15, .phase⟩], none⟩
def sg12o17 : Oper := ⟨none, .store 23 (.tmp 114) (.tmp 113), 0, "l10_request.go:309", #[⟨16, .data⟩, ⟨15, .data⟩, ⟨15, .chain⟩, ⟨0, .phase⟩, ⟨1, .phase⟩, ⟨2, .phase⟩, ⟨3, .phase⟩, ⟨4, .phase⟩, ⟨5, .phase⟩, ⟨6, .phase⟩, ⟨7, .phase⟩, ⟨8, .phase⟩, ⟨9, .phase⟩, ⟨10, .phase⟩, ⟨11, .phase⟩, ⟨12, .phase⟩, ⟨13, .phase⟩, ⟨14, .phase⟩, ⟨15, .phase⟩], none⟩
def sg12O : Array Oper := #[sg12o0, sg12o1, sg12o2, sg12o3, sg12o4, sg12o5, sg12o6, sg12o7, sg12o8, sg12o9, sg12o10, sg12o11, sg12o12, sg12o13, sg12o14, sg12o15, sg12o16, sg12o17]
structure sg12P where
 (w0 : World)
 (X5 X6 X10 X11 X13 B BH : Nat)
 (mt pt bd id sec : ByteArray)
 (r5 : Array Value)
 (aL : Option Addr)
 (cL : Nat)
 (L : List Hp)
 (aH : Option Addr)
 (nH cH : Nat)
 (H : List Hp)
 (tA : Option Addr)
 (m mc : Nat)
 (ts : Nat → ByteArray)
 (nw ls : Int)
 (D1 D2 JN : ByteArray)
 (s0 s1 s7 s8 s9 s12 s14 s15 s16 s17 s18 s19 s20 s21 s22 s23 s24 s25 s26 s27 s28 s29 s30 s31 s32 s33 s34 s35 s36 s37 s38 s39 s40 s41 s42 s43 s44 s45 s46 s47 s48 s49 s50 s51 s52 s53 s54 s55 s56 s57 s58 s59 s60 s61 s62 s63 s64 s65 s66 s67 s68 s69 s70 s71 s72 s73 s74 s75 s76 s77 s78 s79 s80 s81 s82 s83 s84 s85 s86 s87 s88 s89 s90 s91 s92 s93 s94 s95 s96 s97 s98 s99 s100 s101 s102 s103 s104 s105 s106 s107 s108 s109 s110 s111 s112 s113 s114 s115 s116 s117 s118 s119 s120 s121 s122 s123 s124 s125 s126 s127 s128 s129 s130 s131 s132 s133 s134 : Value)
def sg12T (P : sg12P) (XS : Nat) (G : Nat) (CP : Nat) (b0 b1 b2 b3 b4 b5 b6 b7 b8 b9 b10 b11 b12 b13 b14 b15 b16 b17 : Bool) : Array Value := #[P.s0, P.s1, .slice P.tA P.m P.mc, .int .i64 P.nw, .int .i64 P.ls, .pointer (some ⟨P.X5, 0, none⟩), .pointer (some ⟨P.X6, 0, none⟩), P.s7, P.s8, P.s9, .pointer (some ⟨P.X10, 0, none⟩), .pointer (some ⟨P.X11, 0, none⟩), P.s12, .pointer (some ⟨P.X13, 0, none⟩), P.s14, P.s15, P.s16, P.s17, P.s18, P.s19, P.s20, P.s21, P.s22, P.s23, P.s24, P.s25, P.s26, P.s27, P.s28, P.s29, P.s30, P.s31, P.s32, P.s33, P.s34, P.s35, P.s36, P.s37, P.s38, P.s39, P.s40, P.s41, P.s42, P.s43, P.s44, P.s45, P.s46, P.s47, P.s48, P.s49, P.s50, P.s51, P.s52, P.s53, P.s54, P.s55, P.s56, P.s57, P.s58, P.s59, P.s60, P.s61, P.s62, P.s63, P.s64, P.s65, P.s66, P.s67, P.s68, P.s69, P.s70, P.s71, P.s72, P.s73, P.s74, P.s75, P.s76, P.s77, P.s78, P.s79, P.s80, P.s81, P.s82, P.s83, P.s84, P.s85, P.s86, P.s87, P.s88, P.s89, P.s90, P.s91, P.s92, P.s93, P.s94, P.s95, P.s96, P.s97, selS b0 (.pointer (some ⟨P.X13, 2, none⟩)) (P.s98), selS b1 (.slice P.aL P.L.length P.cL) (P.s99), selS b2 (.pointer (some ⟨P.X6, 0, none⟩)) (P.s100), selS b3 (.string P.id) (P.s101), selS b4 (.agg #[.string ⟨#[120, 45, 105, 100]⟩, .string P.id]) (P.s102), selS b5 (.int .i64 P.nw) (P.s103), selS b6 (.string P.D1) (P.s104), selS b7 (.agg #[.string ⟨#[120, 45, 102, 114, 111, 109]⟩, .string P.D1]) (P.s105), selS b8 (.int .i64 P.ls) (P.s106), selS b9 (.string P.D2) (P.s107), selS b10 (.agg #[.string ⟨#[120, 45, 108, 97, 115, 116, 115]⟩, .string P.D2]) (P.s108), selS b11 (.slice P.tA P.m P.mc) (P.s109), selS b12 (.string P.JN) (P.s110), selS b13 (.agg #[.string ⟨#[120, 45, 115, 105, 103, 110, 101, 100]⟩, .string P.JN]) (P.s111), selS b14 (.slice (some ⟨XS, 0, none⟩) 4 4) (P.s112), selS b15 (.slice (some ⟨G, 0, none⟩) (P.L.length + 4) CP) (P.s113), selS b16 (.pointer (some ⟨P.X13, 2, none⟩)) (P.s114), P.s115, P.s116, P.s117, P.s118, P.s119, P.s120, P.s121, P.s122, P.s123, P.s124, P.s125, P.s126, P.s127, P.s128, P.s129, P.s130, P.s131, P.s132, P.s133, P.s134]
def sg12F (P : sg12P) (XS : Nat) (G : Nat) (CP : Nat) (b0 b1 b2 b3 b4 b5 b6 b7 b8 b9 b10 b11 b12 b13 b14 b15 b16 b17 : Bool) (w : World) : Prop := (Below P.w0.heap.size P.w0 w) ∧ (RowAt w P.X13 25 (cond b17 #[.string P.mt, .string P.pt, .slice (some ⟨G, 0, none⟩) (P.L.length + 4) CP, .slice P.aH P.nH P.cH, .string P.bd] #[.string P.mt, .string P.pt, .slice P.aL P.L.length P.cL, .slice P.aH P.nH P.cH, .string P.bd])) ∧ (RowAt w P.X6 27 #[.string P.id, .string P.sec]) ∧ (RowAt w P.X5 25 P.r5) ∧ (RowAt w P.X10 25 #[.string ⟨#[]⟩, .string ⟨#[]⟩, .slice none 0 0, .slice none 0 0, .string ⟨#[]⟩]) ∧ (RowAt w P.X11 25 #[.string ⟨#[]⟩, .string ⟨#[]⟩, .slice none 0 0, .slice none 0 0, .string ⟨#[]⟩]) ∧ (Strs P.w0 P.tA P.m P.mc P.ts) ∧ (b15 = false → OwnHp w P.B (.slice P.aL P.L.length P.cL) P.L) ∧ (b15 = true → OwnHp w P.B (.slice (some ⟨G, 0, none⟩) (P.L.length + 4) CP) (P.L ++ [(⟨⟨#[120, 45, 105, 100]⟩, P.id⟩ : Hp), ⟨⟨#[120, 45, 102, 114, 111, 109]⟩, P.D1⟩, ⟨⟨#[120, 45, 108, 97, 115, 116, 115]⟩, P.D2⟩, ⟨⟨#[120, 45, 115, 105, 103, 110, 101, 100]⟩, P.JN⟩])) ∧ (OwnHp w P.BH (.slice P.aH P.nH P.cH) P.H ∧ ((Value.slice P.aH P.nH P.cH).ownBlock = none ∨ (Value.slice P.aH P.nH P.cH).ownBlock ≠ (Value.slice P.aL P.L.length P.cL).ownBlock)) ∧ (b15 = true → (Value.slice P.aH P.nH P.cH).ownBlock = none ∨ (Value.slice P.aH P.nH P.cH).ownBlock ≠ some G) ∧ (b14 = true → b15 = false → RowAt w XS 66 (hpL [(⟨⟨#[120, 45, 105, 100]⟩, P.id⟩ : Hp), ⟨⟨#[120, 45, 102, 114, 111, 109]⟩, P.D1⟩, ⟨⟨#[120, 45, 108, 97, 115, 116, 115]⟩, P.D2⟩, ⟨⟨#[120, 45, 115, 105, 103, 110, 101, 100]⟩, P.JN⟩]).toArray) ∧ (P.B ≤ w.heap.size) ∧ (P.L.length ≤ 1000) ∧ (P.w0.heap.size ≤ P.B ∧ P.w0.heap.size ≤ P.X13 ∧ P.X13 ≠ P.X6 ∧ P.X13 ≠ P.X5 ∧ P.X13 ≠ P.X10 ∧ P.X13 ≠ P.X11) ∧ (∀ wx, Calls Tryz.prog 50 #[.int .i64 P.nw] wx fun e w' => e = .returned (.string P.D1) ∧ Below wx.heap.size wx w') ∧ (∀ wx, Calls Tryz.prog 50 #[.int .i64 P.ls] wx fun e w' => e = .returned (.string P.D2) ∧ Below wx.heap.size wx w') ∧ (∀ wx, Strs wx P.tA P.m P.mc P.ts → Calls Tryz.prog 51 #[.slice P.tA P.m P.mc] wx fun e w' => e = .returned (.string P.JN) ∧ w' = wx)
def sg12I (P : sg12P) (l : Array Bool) (f : Act) (w : World) : Prop :=
 ∃ (b0 b1 b2 b3 b4 b5 b6 b7 b8 b9 b10 b11 b12 b13 b14 b15 b16 b17 : Bool) (XS : Nat) (G : Nat) (CP : Nat), l = #[b0, b1, b2, b3, b4, b5, b6, b7, b8, b9, b10, b11, b12, b13, b14, b15, b16, b17] ∧ f = { tmps := sg12T P XS G CP b0 b1 b2 b3 b4 b5 b6 b7 b8 b9 b10 b11 b12 b13 b14 b15 b16 b17, defers := [] } ∧ sg12F P XS G CP b0 b1 b2 b3 b4 b5 b6 b7 b8 b9 b10 b11 b12 b13 b14 b15 b16 b17 w
theorem sg12M {P : sg12P} {b0 b1 b2 b3 b4 b5 b6 b7 b8 b9 b10 b11 b12 b13 b14 b15 b16 b17 : Bool} (XS : Nat) (G : Nat) (CP : Nat) {l : Array Bool} {f : Act} {w : World} (hl : l = #[b0, b1, b2, b3, b4, b5, b6, b7, b8, b9, b10, b11, b12, b13, b14, b15, b16, b17]) (hf : f = { tmps := sg12T P XS G CP b0 b1 b2 b3 b4 b5 b6 b7 b8 b9 b10 b11 b12 b13 b14 b15 b16 b17, defers := [] }) (h : sg12F P XS G CP b0 b1 b2 b3 b4 b5 b6 b7 b8 b9 b10 b11 b12 b13 b14 b15 b16 b17 w) : sg12I P l f w := ⟨b0, b1, b2, b3, b4, b5, b6, b7, b8, b9, b10, b11, b12, b13, b14, b15, b16, b17, XS, G, CP, hl, hf, h⟩
set_option maxRecDepth 20000 in
set_option maxHeartbeats 20000000 in
theorem sg12_step {Q : Exit → Act → World → Prop} (P : sg12P) (l : Array Bool) (f : Act) (w : World) (hC : Closed sg12O l) (hI : sg12I P l f w) (i : Nat) (h0 : l.getD i true = false) (o : Oper) (ho : sg12O[i]? = some o) (h1 : ∀ e ∈ o.after, Region.binds .any e = true → l.getD e.on false = true) : wpOp Tryz.prog sg12O Q i (sg12I P (l.setIfInBounds i true)) f w := by
 obtain ⟨b0, b1, b2, b3, b4, b5, b6, b7, b8, b9, b10, b11, b12, b13, b14, b15, b16, b17, XS, G, CP, rfl, rfl, hF⟩ := hI
 have hi : i < 18 := by
  rcases Nat.lt_or_ge i 18 with h | h
  · exact h
  · rw [show sg12O[i]? = none from Array.getElem?_eq_none h] at ho; cases ho
 rcases (by omega : i = 0 ∨ i = 1 ∨ i = 2 ∨ i = 3 ∨ i = 4 ∨ i = 5 ∨ i = 6 ∨ i = 7 ∨ i = 8 ∨ i = 9 ∨ i = 10 ∨ i = 11 ∨ i = 12 ∨ i = 13 ∨ i = 14 ∨ i = 15 ∨ i = 16 ∨ i = 17) with rfl | rfl | rfl | rfl | rfl | rfl | rfl | rfl | rfl | rfl | rfl | rfl | rfl | rfl | rfl | rfl | rfl | rfl
 · obtain rfl : sg12o0 = o := Option.some.inj ho
   obtain rfl : b0 = false := h0
   have hn := wayN_all hC (i := 0) rfl [(1, 0), (15, 1), (16, 0), (17, 0)] [] nk rfl; repeat (obtain ⟨rfl, hn⟩ := hn)
   obtain ⟨hB, hx13, hx6, hx5, hx10, hx11, hT, ho1, ho2, hoH, haH, hXS, hBz, hLn, hst, hk1, hk2, hkj⟩ := hF
   refine wpOp_step (o := sg12o0) rfl (fun K hK => ?_)
   replace hK := hid hK
   simp only [sg12o0, sg12T, selS_f]
   go_simp
   exact hK.out _ _ (sg12M XS G CP rfl rfl ⟨hB, hx13, hx6, hx5, hx10, hx11, hT, ho1, ho2, hoH, haH, hXS, hBz, hLn, hst, hk1, hk2, hkj⟩)
 · obtain rfl : sg12o1 = o := Option.some.inj ho
   obtain rfl : b1 = false := h0
   have hn := wayP_all (o := sg12o1) hC h1 [(0, none)] [] nk rfl; repeat (obtain ⟨rfl, hn⟩ := hn)
   have hn := wayN_all hC (i := 1) rfl [(15, 1), (16, 1), (17, 1)] [] nk rfl; repeat (obtain ⟨rfl, hn⟩ := hn)
   obtain ⟨hB, hx13, hx6, hx5, hx10, hx11, hT, ho1, ho2, hoH, haH, hXS, hBz, hLn, hst, hk1, hk2, hkj⟩ := hF
   have q := hx13.cell 2
   refine wpOp_step (o := sg12o1) rfl (fun K hK => ?_)
   replace hK := hid hK
   simp only [sg12o1, sg12T, selS_t, selS_f]
   go_simp
   exact hK.out _ _ (sg12M XS G CP rfl rfl ⟨hB, hx13, hx6, hx5, hx10, hx11, hT, ho1, ho2, hoH, haH, hXS, hBz, hLn, hst, hk1, hk2, hkj⟩)
 · obtain rfl : sg12o2 = o := Option.some.inj ho
   obtain rfl : b2 = false := h0
   have hn := wayN_all hC (i := 2) rfl [(3, 2), (4, 3), (14, 4), (15, 14), (16, 2), (17, 2)] [] nk rfl; repeat (obtain ⟨rfl, hn⟩ := hn)
   obtain ⟨hB, hx13, hx6, hx5, hx10, hx11, hT, ho1, ho2, hoH, haH, hXS, hBz, hLn, hst, hk1, hk2, hkj⟩ := hF
   refine wpOp_step (o := sg12o2) rfl (fun K hK => ?_)
   replace hK := hid hK
   simp only [sg12o2, sg12T, selS_f]
   go_simp
   exact hK.out _ _ (sg12M XS G CP rfl rfl ⟨hB, hx13, hx6, hx5, hx10, hx11, hT, ho1, ho2, hoH, haH, hXS, hBz, hLn, hst, hk1, hk2, hkj⟩)
 · obtain rfl : sg12o3 = o := Option.some.inj ho
   obtain rfl : b3 = false := h0
   have hn := wayP_all (o := sg12o3) hC h1 [(2, none)] [] nk rfl; repeat (obtain ⟨rfl, hn⟩ := hn)
   have hn := wayN_all hC (i := 3) rfl [(4, 3), (14, 4), (15, 14), (16, 3), (17, 3)] [] nk rfl; repeat (obtain ⟨rfl, hn⟩ := hn)
   obtain ⟨hB, hx13, hx6, hx5, hx10, hx11, hT, ho1, ho2, hoH, haH, hXS, hBz, hLn, hst, hk1, hk2, hkj⟩ := hF
   have q := hx6.cell 0
   have q1 := hx6.cell 1
   refine wpOp_step (o := sg12o3) rfl (fun K hK => ?_)
   replace hK := hid hK
   simp only [sg12o3, sg12T, selS_t, selS_f]
   go_simp
   exact hK.out _ _ (sg12M XS G CP rfl rfl ⟨hB, hx13, hx6, hx5, hx10, hx11, hT, ho1, ho2, hoH, haH, hXS, hBz, hLn, hst, hk1, hk2, hkj⟩)
 · obtain rfl : sg12o4 = o := Option.some.inj ho
   obtain rfl : b4 = false := h0
   have hn := wayP_all (o := sg12o4) hC h1 [(3, none), (2, some 3)] [] nk rfl; repeat (obtain ⟨rfl, hn⟩ := hn)
   have hn := wayN_all hC (i := 4) rfl [(14, 4), (15, 14), (16, 4), (17, 4)] [] nk rfl; repeat (obtain ⟨rfl, hn⟩ := hn)
   obtain ⟨hB, hx13, hx6, hx5, hx10, hx11, hT, ho1, ho2, hoH, haH, hXS, hBz, hLn, hst, hk1, hk2, hkj⟩ := hF
   refine wpOp_step (o := sg12o4) rfl (fun K hK => ?_)
   replace hK := hid hK
   simp only [sg12o4, sg12T, selS_t, selS_f]
   go_simp
   exact hK.out _ _ (sg12M XS G CP rfl rfl ⟨hB, hx13, hx6, hx5, hx10, hx11, hT, ho1, ho2, hoH, haH, hXS, hBz, hLn, hst, hk1, hk2, hkj⟩)
 · obtain rfl : sg12o5 = o := Option.some.inj ho
   obtain rfl : b5 = false := h0
   have hn := wayN_all hC (i := 5) rfl [(6, 5), (7, 6), (9, 6), (10, 9), (12, 9), (13, 12), (14, 7), (15, 12), (16, 5), (17, 5)] [] nk rfl; repeat (obtain ⟨rfl, hn⟩ := hn)
   obtain ⟨hB, hx13, hx6, hx5, hx10, hx11, hT, ho1, ho2, hoH, haH, hXS, hBz, hLn, hst, hk1, hk2, hkj⟩ := hF
   refine wpOp_step (o := sg12o5) rfl (fun K hK => ?_)
   replace hK := hid hK
   simp only [sg12o5, sg12T, selS_f]
   go_simp
   exact hK.out _ _ (sg12M XS G CP rfl rfl ⟨hB, hx13, hx6, hx5, hx10, hx11, hT, ho1, ho2, hoH, haH, hXS, hBz, hLn, hst, hk1, hk2, hkj⟩)
 · obtain rfl : sg12o6 = o := Option.some.inj ho
   obtain rfl : b6 = false := h0
   have hn := wayP_all (o := sg12o6) hC h1 [(5, none)] [] nk rfl; repeat (obtain ⟨rfl, hn⟩ := hn)
   have hn := wayN_all hC (i := 6) rfl [(7, 6), (9, 6), (10, 9), (12, 9), (13, 12), (14, 7), (15, 12), (16, 6), (17, 6)] [] nk rfl; repeat (obtain ⟨rfl, hn⟩ := hn)
   obtain ⟨hB, hx13, hx6, hx5, hx10, hx11, hT, ho1, ho2, hoH, haH, hXS, hBz, hLn, hst, hk1, hk2, hkj⟩ := hF
   refine wpOp_step (o := sg12o6) rfl (fun K hK => ?_)
   replace hK := hid hK
   simp only [sg12o6, sg12T, selS_t, selS_f]
   go_simp
   refine (hk1 _).mono ?_
   rintro e w2 ⟨rfl, hb2⟩
   dsimp only
   exact hK.out _ _ (sg12M XS G CP rfl rfl ⟨hB.trans (hb2.mono hB.size), RowAt.nxS hb2 hx13, RowAt.nxS hb2 hx6, RowAt.nxS hb2 hx5, RowAt.nxS hb2 hx10, RowAt.nxS hb2 hx11, hT, fun h => OwnHp.next hb2 (ho1 h), fun h => Bool.noConfusion h, ⟨OwnHp.next hb2 hoH.1, hoH.2⟩, haH, fun h => Bool.noConfusion h, Nat.le_trans hBz hb2.size, hLn, hst, hk1, hk2, hkj⟩)
 · obtain rfl : sg12o7 = o := Option.some.inj ho
   obtain rfl : b7 = false := h0
   have hn := wayP_all (o := sg12o7) hC h1 [(6, none), (5, some 6)] [] nk rfl; repeat (obtain ⟨rfl, hn⟩ := hn)
   have hn := wayN_all hC (i := 7) rfl [(14, 7), (15, 14), (16, 7), (17, 7)] [] nk rfl; repeat (obtain ⟨rfl, hn⟩ := hn)
   obtain ⟨hB, hx13, hx6, hx5, hx10, hx11, hT, ho1, ho2, hoH, haH, hXS, hBz, hLn, hst, hk1, hk2, hkj⟩ := hF
   refine wpOp_step (o := sg12o7) rfl (fun K hK => ?_)
   replace hK := hid hK
   simp only [sg12o7, sg12T, selS_t, selS_f]
   go_simp
   exact hK.out _ _ (sg12M XS G CP rfl rfl ⟨hB, hx13, hx6, hx5, hx10, hx11, hT, ho1, ho2, hoH, haH, hXS, hBz, hLn, hst, hk1, hk2, hkj⟩)
 · obtain rfl : sg12o8 = o := Option.some.inj ho
   obtain rfl : b8 = false := h0
   have hn := wayN_all hC (i := 8) rfl [(9, 8), (10, 9), (12, 9), (13, 12), (14, 10), (15, 12), (16, 8), (17, 8)] [] nk rfl; repeat (obtain ⟨rfl, hn⟩ := hn)
   obtain ⟨hB, hx13, hx6, hx5, hx10, hx11, hT, ho1, ho2, hoH, haH, hXS, hBz, hLn, hst, hk1, hk2, hkj⟩ := hF
   refine wpOp_step (o := sg12o8) rfl (fun K hK => ?_)
   replace hK := hid hK
   simp only [sg12o8, sg12T, selS_f]
   go_simp
   exact hK.out _ _ (sg12M XS G CP rfl rfl ⟨hB, hx13, hx6, hx5, hx10, hx11, hT, ho1, ho2, hoH, haH, hXS, hBz, hLn, hst, hk1, hk2, hkj⟩)
 · obtain rfl : sg12o9 = o := Option.some.inj ho
   obtain rfl : b9 = false := h0
   have hn := wayP_all (o := sg12o9) hC h1 [(8, none), (6, none), (5, some 6)] [] nk rfl; repeat (obtain ⟨rfl, hn⟩ := hn)
   have hn := wayN_all hC (i := 9) rfl [(10, 9), (12, 9), (13, 12), (14, 10), (15, 12), (16, 9), (17, 9)] [] nk rfl; repeat (obtain ⟨rfl, hn⟩ := hn)
   obtain ⟨hB, hx13, hx6, hx5, hx10, hx11, hT, ho1, ho2, hoH, haH, hXS, hBz, hLn, hst, hk1, hk2, hkj⟩ := hF
   refine wpOp_step (o := sg12o9) rfl (fun K hK => ?_)
   replace hK := hid hK
   simp only [sg12o9, sg12T, selS_t, selS_f]
   go_simp
   refine (hk2 _).mono ?_
   rintro e w2 ⟨rfl, hb2⟩
   dsimp only
   exact hK.out _ _ (sg12M XS G CP rfl rfl ⟨hB.trans (hb2.mono hB.size), RowAt.nxS hb2 hx13, RowAt.nxS hb2 hx6, RowAt.nxS hb2 hx5, RowAt.nxS hb2 hx10, RowAt.nxS hb2 hx11, hT, fun h => OwnHp.next hb2 (ho1 h), fun h => Bool.noConfusion h, ⟨OwnHp.next hb2 hoH.1, hoH.2⟩, haH, fun h => Bool.noConfusion h, Nat.le_trans hBz hb2.size, hLn, hst, hk1, hk2, hkj⟩)
 · obtain rfl : sg12o10 = o := Option.some.inj ho
   obtain rfl : b10 = false := h0
   have hn := wayP_all (o := sg12o10) hC h1 [(9, none), (6, some 9), (8, some 9), (5, some 6)] [] nk rfl; repeat (obtain ⟨rfl, hn⟩ := hn)
   have hn := wayN_all hC (i := 10) rfl [(14, 10), (15, 14), (16, 10), (17, 10)] [] nk rfl; repeat (obtain ⟨rfl, hn⟩ := hn)
   obtain ⟨hB, hx13, hx6, hx5, hx10, hx11, hT, ho1, ho2, hoH, haH, hXS, hBz, hLn, hst, hk1, hk2, hkj⟩ := hF
   refine wpOp_step (o := sg12o10) rfl (fun K hK => ?_)
   replace hK := hid hK
   simp only [sg12o10, sg12T, selS_t, selS_f]
   go_simp
   exact hK.out _ _ (sg12M XS G CP rfl rfl ⟨hB, hx13, hx6, hx5, hx10, hx11, hT, ho1, ho2, hoH, haH, hXS, hBz, hLn, hst, hk1, hk2, hkj⟩)
 · obtain rfl : sg12o11 = o := Option.some.inj ho
   obtain rfl : b11 = false := h0
   have hn := wayN_all hC (i := 11) rfl [(12, 11), (13, 12), (14, 13), (15, 12), (16, 11), (17, 11)] [] nk rfl; repeat (obtain ⟨rfl, hn⟩ := hn)
   obtain ⟨hB, hx13, hx6, hx5, hx10, hx11, hT, ho1, ho2, hoH, haH, hXS, hBz, hLn, hst, hk1, hk2, hkj⟩ := hF
   refine wpOp_step (o := sg12o11) rfl (fun K hK => ?_)
   replace hK := hid hK
   simp only [sg12o11, sg12T, selS_f]
   go_simp
   exact hK.out _ _ (sg12M XS G CP rfl rfl ⟨hB, hx13, hx6, hx5, hx10, hx11, hT, ho1, ho2, hoH, haH, hXS, hBz, hLn, hst, hk1, hk2, hkj⟩)
 · obtain rfl : sg12o12 = o := Option.some.inj ho
   obtain rfl : b12 = false := h0
   have hn := wayP_all (o := sg12o12) hC h1 [(11, none), (9, none), (6, some 9), (8, some 9), (5, some 6)] [] nk rfl; repeat (obtain ⟨rfl, hn⟩ := hn)
   have hn := wayN_all hC (i := 12) rfl [(13, 12), (14, 13), (15, 12), (16, 12), (17, 12)] [] nk rfl; repeat (obtain ⟨rfl, hn⟩ := hn)
   obtain ⟨hB, hx13, hx6, hx5, hx10, hx11, hT, ho1, ho2, hoH, haH, hXS, hBz, hLn, hst, hk1, hk2, hkj⟩ := hF
   refine wpOp_step (o := sg12o12) rfl (fun K hK => ?_)
   replace hK := hid hK
   simp only [sg12o12, sg12T, selS_t, selS_f]
   go_simp
   refine (hkj _ (hT.below hB)).mono ?_
   rintro e w2 ⟨rfl, rfl⟩
   dsimp only
   exact hK.out _ _ (sg12M XS G CP rfl rfl ⟨hB, hx13, hx6, hx5, hx10, hx11, hT, ho1, fun h => Bool.noConfusion h, hoH, haH, fun h => Bool.noConfusion h, hBz, hLn, hst, hk1, hk2, hkj⟩)
 · obtain rfl : sg12o13 = o := Option.some.inj ho
   obtain rfl : b13 = false := h0
   have hn := wayP_all (o := sg12o13) hC h1 [(12, none), (9, some 12), (11, some 12), (6, some 9), (8, some 9), (5, some 6)] [] nk rfl; repeat (obtain ⟨rfl, hn⟩ := hn)
   have hn := wayN_all hC (i := 13) rfl [(14, 13), (15, 14), (16, 13), (17, 13)] [] nk rfl; repeat (obtain ⟨rfl, hn⟩ := hn)
   obtain ⟨hB, hx13, hx6, hx5, hx10, hx11, hT, ho1, ho2, hoH, haH, hXS, hBz, hLn, hst, hk1, hk2, hkj⟩ := hF
   refine wpOp_step (o := sg12o13) rfl (fun K hK => ?_)
   replace hK := hid hK
   simp only [sg12o13, sg12T, selS_t, selS_f]
   go_simp
   exact hK.out _ _ (sg12M XS G CP rfl rfl ⟨hB, hx13, hx6, hx5, hx10, hx11, hT, ho1, ho2, hoH, haH, hXS, hBz, hLn, hst, hk1, hk2, hkj⟩)
 · obtain rfl : sg12o14 = o := Option.some.inj ho
   obtain rfl : b14 = false := h0
   have hn := wayP_all (o := sg12o14) hC h1 [(13, none), (10, none), (7, none), (4, none), (12, some 13), (9, some 12), (11, some 12), (6, some 9), (8, some 9), (5, some 6), (3, some 4), (2, some 3)] [] nk rfl; repeat (obtain ⟨rfl, hn⟩ := hn)
   have hn := wayN_all hC (i := 14) rfl [(15, 14), (16, 14), (17, 14)] [] nk rfl; repeat (obtain ⟨rfl, hn⟩ := hn)
   obtain ⟨hB, hx13, hx6, hx5, hx10, hx11, hT, ho1, ho2, hoH, haH, hXS, hBz, hLn, hst, hk1, hk2, hkj⟩ := hF
   refine wpOp_step (o := sg12o14) rfl (fun K hK => ?_)
   replace hK := hid hK
   simp only [sg12o14, sg12T, selS_t, selS_f]
   go_simp
   exact hK.out _ _ (sg12M w.heap.size G CP rfl rfl ⟨hB.alloc hB.size _, hx13.alloc _, hx6.alloc _, hx5.alloc _, hx10.alloc _, hx11.alloc _, hT, fun h => World.ownsRow.alloc (ho1 h) _, fun h => Bool.noConfusion h, ⟨World.ownsRow.alloc hoH.1 _, hoH.2⟩, haH, fun _ _ => RowAt.new w _ _, by simp only [World.size_alloc]; omega, hLn, hst, hk1, hk2, hkj⟩)
 · obtain rfl : sg12o15 = o := Option.some.inj ho
   obtain rfl : b15 = false := h0
   have hn := wayP_all (o := sg12o15) hC h1 [(14, none), (12, none), (1, none), (4, some 14), (7, some 14), (10, some 14), (13, some 14), (9, some 12), (11, some 12), (6, some 9), (8, some 9), (5, some 6), (3, some 4), (2, some 3), (0, some 1)] [] nk rfl; repeat (obtain ⟨rfl, hn⟩ := hn)
   have hn := wayN_all hC (i := 15) rfl [(16, 15), (17, 15)] [] nk rfl; repeat (obtain ⟨rfl, hn⟩ := hn)
   obtain ⟨hB, hx13, hx6, hx5, hx10, hx11, hT, ho1, ho2, hoH, haH, hXS, hBz, hLn, hst, hk1, hk2, hkj⟩ := hF
   refine wpOp_step (o := sg12o15) rfl (fun K hK => ?_)
   replace hK := hid hK
   have hO := ho1 rfl
   refine step_append_hps P.B _ (by rfl) _ _ 23 (by rfl) Tryz.underlying23 Tryz.infoHpG _ P.L [(⟨⟨#[120, 45, 105, 100]⟩, P.id⟩ : Hp), ⟨⟨#[120, 45, 102, 114, 111, 109]⟩, P.D1⟩, ⟨⟨#[120, 45, 108, 97, 115, 116, 115]⟩, P.D2⟩, ⟨⟨#[120, 45, 115, 105, 103, 110, 101, 100]⟩, P.JN⟩] (by simp) (by rfl) hO hBz XS (hXS rfl rfl) 4 rfl (by rfl) (by simp; omega) ?_
   intro g3 c3 w3 hO3 hg3 hl3
   exact hK.out _ _ (sg12M XS g3 c3 rfl rfl ⟨hB.grown hg3 hB.size (fun g hg => by have := (World.ownsRow.lt hO _ hg).1; omega), row_grown hx13 hg3 (OwnHp.neRowS hO hx13 (by decide)), row_grown hx6 hg3 (OwnHp.neRowS hO hx6 (by decide)), row_grown hx5 hg3 (OwnHp.neRowS hO hx5 (by decide)), row_grown hx10 hg3 (OwnHp.neRowS hO hx10 (by decide)), row_grown hx11 hg3 (OwnHp.neRowS hO hx11 (by decide)), hT, fun h => Bool.noConfusion h, fun _ => hO3, ⟨World.ownsRow.kept hoH.1 hg3 hoH.2, hoH.2⟩, fun _ => apartG hoH.1 hoH.2 hl3, fun h e => Bool.noConfusion e, Nat.le_trans hBz hg3.size, hLn, hst, hk1, hk2, hkj⟩)
 · obtain rfl : sg12o16 = o := Option.some.inj ho
   obtain rfl : b16 = false := h0
   have hn := wayP_all (o := sg12o16) hC h1 [(15, none), (14, none), (13, none), (12, none), (11, none), (10, none), (9, none), (8, none), (7, none), (6, none), (5, none), (4, none), (3, none), (2, none), (1, none), (0, none)] [] nk rfl; repeat (obtain ⟨rfl, hn⟩ := hn)
   have hn := wayN_all hC (i := 16) rfl [(17, 16)] [] nk rfl; repeat (obtain ⟨rfl, hn⟩ := hn)
   obtain ⟨hB, hx13, hx6, hx5, hx10, hx11, hT, ho1, ho2, hoH, haH, hXS, hBz, hLn, hst, hk1, hk2, hkj⟩ := hF
   refine wpOp_step (o := sg12o16) rfl (fun K hK => ?_)
   replace hK := hid hK
   simp only [sg12o16, sg12T, selS_t, selS_f]
   go_simp
   exact hK.out _ _ (sg12M XS G CP rfl rfl ⟨hB, hx13, hx6, hx5, hx10, hx11, hT, ho1, ho2, hoH, haH, hXS, hBz, hLn, hst, hk1, hk2, hkj⟩)
 · obtain rfl : sg12o17 = o := Option.some.inj ho
   obtain rfl : b17 = false := h0
   have hn := wayP_all (o := sg12o17) hC h1 [(16, none), (15, none), (14, none), (13, none), (12, none), (11, none), (10, none), (9, none), (8, none), (7, none), (6, none), (5, none), (4, none), (3, none), (2, none), (1, none), (0, none)] [] nk rfl; repeat (obtain ⟨rfl, hn⟩ := hn)
   obtain ⟨hB, hx13, hx6, hx5, hx10, hx11, hT, ho1, ho2, hoH, haH, hXS, hBz, hLn, hst, hk1, hk2, hkj⟩ := hF
   have h13 : RowAt w P.X13 25 #[.string P.mt, .string P.pt, .slice P.aL P.L.length P.cL, .slice P.aH P.nH P.cH, .string P.bd] := hx13
   have q := h13.cell 2
   have f := h13.free 2
   refine wpOp_step (o := sg12o17) rfl (fun K hK => ?_)
   replace hK := hid hK
   simp only [sg12o17, sg12T, selS_t]
   go_simp
   exact hK.out _ _ (sg12M XS G CP rfl rfl ⟨hB.setCell (by simp; omega) _, h13.set 2 _, hx6.other ⟨P.X13, 2, none⟩ _ (by simp; omega), hx5.other ⟨P.X13, 2, none⟩ _ (by simp; omega), hx10.other ⟨P.X13, 2, none⟩ _ (by simp; omega), hx11.other ⟨P.X13, 2, none⟩ _ (by simp; omega), hT, fun h => Bool.noConfusion h, fun h => OwnHp.setCellS (ho2 h) (OwnHp.neRowS (ho2 h) h13 (by decide)), ⟨OwnHp.setCellS hoH.1 (OwnHp.neRowS hoH.1 h13 (by decide)), hoH.2⟩, haH, fun h e => Bool.noConfusion e, by simp; omega, hLn, hst, hk1, hk2, hkj⟩)
set_option maxRecDepth 20000 in
set_option maxHeartbeats 4000000 in
theorem sg12_wp {Q : Exit → Act → World → Prop} {rid : Nat} (w0 : World) (X5 X6 X10 X11 X13 B BH : Nat) (mt pt bd id sec : ByteArray) (r5 : Array Value) (aL : Option Addr) (cL : Nat) (L : List Hp) (aH : Option Addr) (nH cH : Nat) (H : List Hp) (tA : Option Addr) (m mc : Nat) (ts : Nat → ByteArray) (nw ls : Int) (D1 D2 JN : ByteArray) {s0 s1 s7 s8 s9 s12 s14 s15 s16 s17 s18 s19 s20 s21 s22 s23 s24 s25 s26 s27 s28 s29 s30 s31 s32 s33 s34 s35 s36 s37 s38 s39 s40 s41 s42 s43 s44 s45 s46 s47 s48 s49 s50 s51 s52 s53 s54 s55 s56 s57 s58 s59 s60 s61 s62 s63 s64 s65 s66 s67 s68 s69 s70 s71 s72 s73 s74 s75 s76 s77 s78 s79 s80 s81 s82 s83 s84 s85 s86 s87 s88 s89 s90 s91 s92 s93 s94 s95 s96 s97 s98 s99 s100 s101 s102 s103 s104 s105 s106 s107 s108 s109 s110 s111 s112 s113 s114 s115 s116 s117 s118 s119 s120 s121 s122 s123 s124 s125 s126 s127 s128 s129 s130 s131 s132 s133 s134 : Value} (w : World) (hB : Below w0.heap.size w0 w) (hx13 : RowAt w X13 25 #[.string mt, .string pt, .slice aL L.length cL, .slice aH nH cH, .string bd]) (hx6 : RowAt w X6 27 #[.string id, .string sec]) (hx5 : RowAt w X5 25 r5) (hx10 : RowAt w X10 25 #[.string ⟨#[]⟩, .string ⟨#[]⟩, .slice none 0 0, .slice none 0 0, .string ⟨#[]⟩]) (hx11 : RowAt w X11 25 #[.string ⟨#[]⟩, .string ⟨#[]⟩, .slice none 0 0, .slice none 0 0, .string ⟨#[]⟩]) (hT : Strs w0 tA m mc ts) (ho1 : OwnHp w B (.slice aL L.length cL) L) (hoH : OwnHp w BH (.slice aH nH cH) H ∧ ((Value.slice aH nH cH).ownBlock = none ∨ (Value.slice aH nH cH).ownBlock ≠ (Value.slice aL L.length cL).ownBlock)) (hBz : B ≤ w.heap.size) (hLn : L.length ≤ 1000) (hst : w0.heap.size ≤ B ∧ w0.heap.size ≤ X13 ∧ X13 ≠ X6 ∧ X13 ≠ X5 ∧ X13 ≠ X10 ∧ X13 ≠ X11) (hk1 : ∀ wx, Calls Tryz.prog 50 #[.int .i64 nw] wx fun e w' => e = .returned (.string D1) ∧ Below wx.heap.size wx w') (hk2 : ∀ wx, Calls Tryz.prog 50 #[.int .i64 ls] wx fun e w' => e = .returned (.string D2) ∧ Below wx.heap.size wx w') (hkj : ∀ wx, Strs wx tA m mc ts → Calls Tryz.prog 51 #[.slice tA m mc] wx fun e w' => e = .returned (.string JN) ∧ w' = wx)
 (fin : ∀ (XS : Nat) (G : Nat) (CP : Nat) (w' : World), (Below w0.heap.size w0 w') → (RowAt w' X13 25 #[.string mt, .string pt, .slice (some ⟨G, 0, none⟩) (L.length + 4) CP, .slice aH nH cH, .string bd]) → (RowAt w' X6 27 #[.string id, .string sec]) → (RowAt w' X5 25 r5) → (RowAt w' X10 25 #[.string ⟨#[]⟩, .string ⟨#[]⟩, .slice none 0 0, .slice none 0 0, .string ⟨#[]⟩]) → (RowAt w' X11 25 #[.string ⟨#[]⟩, .string ⟨#[]⟩, .slice none 0 0, .slice none 0 0, .string ⟨#[]⟩]) → (Strs w0 tA m mc ts) → (OwnHp w' B (.slice (some ⟨G, 0, none⟩) (L.length + 4) CP) (L ++ [(⟨⟨#[120, 45, 105, 100]⟩, id⟩ : Hp), ⟨⟨#[120, 45, 102, 114, 111, 109]⟩, D1⟩, ⟨⟨#[120, 45, 108, 97, 115, 116, 115]⟩, D2⟩, ⟨⟨#[120, 45, 115, 105, 103, 110, 101, 100]⟩, JN⟩])) → (OwnHp w' BH (.slice aH nH cH) H ∧ ((Value.slice aH nH cH).ownBlock = none ∨ (Value.slice aH nH cH).ownBlock ≠ (Value.slice aL L.length cL).ownBlock)) → ((Value.slice aH nH cH).ownBlock = none ∨ (Value.slice aH nH cH).ownBlock ≠ some G) → (B ≤ w'.heap.size) → (L.length ≤ 1000) → (w0.heap.size ≤ B ∧ w0.heap.size ≤ X13 ∧ X13 ≠ X6 ∧ X13 ≠ X5 ∧ X13 ≠ X10 ∧ X13 ≠ X11) → (∀ wx, Calls Tryz.prog 50 #[.int .i64 nw] wx fun e w' => e = .returned (.string D1) ∧ Below wx.heap.size wx w') → (∀ wx, Calls Tryz.prog 50 #[.int .i64 ls] wx fun e w' => e = .returned (.string D2) ∧ Below wx.heap.size wx w') → (∀ wx, Strs wx tA m mc ts → Calls Tryz.prog 51 #[.slice tA m mc] wx fun e w' => e = .returned (.string JN) ∧ w' = wx) → Q .normal { tmps := #[s0, s1, .slice tA m mc, .int .i64 nw, .int .i64 ls, .pointer (some ⟨X5, 0, none⟩), .pointer (some ⟨X6, 0, none⟩), s7, s8, s9, .pointer (some ⟨X10, 0, none⟩), .pointer (some ⟨X11, 0, none⟩), s12, .pointer (some ⟨X13, 0, none⟩), s14, s15, s16, s17, s18, s19, s20, s21, s22, s23, s24, s25, s26, s27, s28, s29, s30, s31, s32, s33, s34, s35, s36, s37, s38, s39, s40, s41, s42, s43, s44, s45, s46, s47, s48, s49, s50, s51, s52, s53, s54, s55, s56, s57, s58, s59, s60, s61, s62, s63, s64, s65, s66, s67, s68, s69, s70, s71, s72, s73, s74, s75, s76, s77, s78, s79, s80, s81, s82, s83, s84, s85, s86, s87, s88, s89, s90, s91, s92, s93, s94, s95, s96, s97, .pointer (some ⟨X13, 2, none⟩), .slice aL L.length cL, .pointer (some ⟨X6, 0, none⟩), .string id, .agg #[.string ⟨#[120, 45, 105, 100]⟩, .string id], .int .i64 nw, .string D1, .agg #[.string ⟨#[120, 45, 102, 114, 111, 109]⟩, .string D1], .int .i64 ls, .string D2, .agg #[.string ⟨#[120, 45, 108, 97, 115, 116, 115]⟩, .string D2], .slice tA m mc, .string JN, .agg #[.string ⟨#[120, 45, 115, 105, 103, 110, 101, 100]⟩, .string JN], .slice (some ⟨XS, 0, none⟩) 4 4, .slice (some ⟨G, 0, none⟩) (L.length + 4) CP, .pointer (some ⟨X13, 2, none⟩), s115, s116, s117, s118, s119, s120, s121, s122, s123, s124, s125, s126, s127, s128, s129, s130, s131, s132, s133, s134], defers := [] } w') :
 (Code.region rid sg12O true).wp Tryz.prog Q { tmps := #[s0, s1, .slice tA m mc, .int .i64 nw, .int .i64 ls, .pointer (some ⟨X5, 0, none⟩), .pointer (some ⟨X6, 0, none⟩), s7, s8, s9, .pointer (some ⟨X10, 0, none⟩), .pointer (some ⟨X11, 0, none⟩), s12, .pointer (some ⟨X13, 0, none⟩), s14, s15, s16, s17, s18, s19, s20, s21, s22, s23, s24, s25, s26, s27, s28, s29, s30, s31, s32, s33, s34, s35, s36, s37, s38, s39, s40, s41, s42, s43, s44, s45, s46, s47, s48, s49, s50, s51, s52, s53, s54, s55, s56, s57, s58, s59, s60, s61, s62, s63, s64, s65, s66, s67, s68, s69, s70, s71, s72, s73, s74, s75, s76, s77, s78, s79, s80, s81, s82, s83, s84, s85, s86, s87, s88, s89, s90, s91, s92, s93, s94, s95, s96, s97, s98, s99, s100, s101, s102, s103, s104, s105, s106, s107, s108, s109, s110, s111, s112, s113, s114, s115, s116, s117, s118, s119, s120, s121, s122, s123, s124, s125, s126, s127, s128, s129, s130, s131, s132, s133, s134], defers := [] } w := by
 refine wp_region_inv (ops := sg12O) (sg12I ⟨w0, X5, X6, X10, X11, X13, B, BH, mt, pt, bd, id, sec, r5, aL, cL, L, aH, nH, cH, H, tA, m, mc, ts, nw, ls, D1, D2, JN, s0, s1, s7, s8, s9, s12, s14, s15, s16, s17, s18, s19, s20, s21, s22, s23, s24, s25, s26, s27, s28, s29, s30, s31, s32, s33, s34, s35, s36, s37, s38, s39, s40, s41, s42, s43, s44, s45, s46, s47, s48, s49, s50, s51, s52, s53, s54, s55, s56, s57, s58, s59, s60, s61, s62, s63, s64, s65, s66, s67, s68, s69, s70, s71, s72, s73, s74, s75, s76, s77, s78, s79, s80, s81, s82, s83, s84, s85, s86, s87, s88, s89, s90, s91, s92, s93, s94, s95, s96, s97, s98, s99, s100, s101, s102, s103, s104, s105, s106, s107, s108, s109, s110, s111, s112, s113, s114, s115, s116, s117, s118, s119, s120, s121, s122, s123, s124, s125, s126, s127, s128, s129, s130, s131, s132, s133, s134⟩) (by kernel_rfl) (by kernel_rfl) (fun l f v hI => ?_) (fun l f v hC hI i h0 o ho h1 => sg12_step ⟨w0, X5, X6, X10, X11, X13, B, BH, mt, pt, bd, id, sec, r5, aL, cL, L, aH, nH, cH, H, tA, m, mc, ts, nw, ls, D1, D2, JN, s0, s1, s7, s8, s9, s12, s14, s15, s16, s17, s18, s19, s20, s21, s22, s23, s24, s25, s26, s27, s28, s29, s30, s31, s32, s33, s34, s35, s36, s37, s38, s39, s40, s41, s42, s43, s44, s45, s46, s47, s48, s49, s50, s51, s52, s53, s54, s55, s56, s57, s58, s59, s60, s61, s62, s63, s64, s65, s66, s67, s68, s69, s70, s71, s72, s73, s74, s75, s76, s77, s78, s79, s80, s81, s82, s83, s84, s85, s86, s87, s88, s89, s90, s91, s92, s93, s94, s95, s96, s97, s98, s99, s100, s101, s102, s103, s104, s105, s106, s107, s108, s109, s110, s111, s112, s113, s114, s115, s116, s117, s118, s119, s120, s121, s122, s123, s124, s125, s126, s127, s128, s129, s130, s131, s132, s133, s134⟩ l f v hC hI i h0 o ho h1) (fun l f v hI hall => ?_) ?_
 · obtain ⟨_, _, _, _, _, _, _, _, _, _, _, _, _, _, _, _, _, _, _, _, _, rfl, _⟩ := hI; rfl
 · obtain ⟨b0, b1, b2, b3, b4, b5, b6, b7, b8, b9, b10, b11, b12, b13, b14, b15, b16, b17, XS, G, CP, rfl, rfl, hB, hx13, hx6, hx5, hx10, hx11, hT, ho1, ho2, hoH, haH, hXS, hBz, hLn, hst, hk1, hk2, hkj⟩ := hI
   have hn := allT hall [0, 1, 2, 3, 4, 5, 6, 7, 8, 9, 10, 11, 12, 13, 14, 15, 16, 17] rfl; repeat (obtain ⟨rfl, hn⟩ := hn)
   exact fin XS G CP v hB hx13 hx6 hx5 hx10 hx11 hT (ho2 rfl) hoH (haH rfl) hBz hLn hst hk1 hk2 hkj
 · exact ⟨false, false, false, false, false, false, false, false, false, false, false, false, false, false, false, false, false, false, 0, 0, 0, rfl, rfl, hB.drew, hx13.drew, hx6.drew, hx5.drew, hx10.drew, hx11.drew, hT, fun _ => World.ownsRow.drew ho1, fun h => Bool.noConfusion h, ⟨World.ownsRow.drew hoH.1, hoH.2⟩, fun h => Bool.noConfusion h, fun h => Bool.noConfusion h, hBz, hLn, hst, hk1, hk2, hkj⟩
end Go.Proofs.YtkcjigelenofhaaGreatDoor
namespace Go.Proofs.YtkcjigelenofhaaGreatDoor
open Go.RowKit
set_option linter.unusedVariables false
def sg15o0 : Oper := ⟨some 119, .fieldAddr 25 (.tmp 13) 2, 0, "l10_request.go:313", #[], none⟩
def sg15o1 : Oper := ⟨some 120, .load 23 (.tmp 119), 23, "l10_request.go:313", #[⟨0, .data⟩], none⟩
def sg15o2 : Oper := ⟨some 121, .load 25 (.tmp 13), 25, "l10_request.go:313", #[], none⟩
def sg15o3 : Oper := ⟨some 122, .fieldAddr 27 (.tmp 6) 1, 0, "l10_request.go:313", #[], none⟩
def sg15o4 : Oper := ⟨some 123, .load 9 (.tmp 122), 9, "l10_request.go:313", #[⟨3, .data⟩], none⟩
def sg15o5 : Oper := ⟨some 124, .move (.tmp 2), 28, "l10_request.go:313", #[], none⟩
def sg15o6 : Oper := ⟨some 125, .call { callee := .value (.func 52), args := #[.tmp 121, .tmp 123, .tmp 124], argTypes := #[25, 9, 28] }, 9, "l10_request.go:313", #[⟨2, .data⟩, ⟨4, .data⟩, ⟨5, .data⟩], none⟩
def sg15o7 : Oper := ⟨some 126, .build 66 #[(0, .const (.string { data := #[120, 45, 115, 117, 109] })), (1, .tmp 125)], 66, "l10_request.go:313", #[⟨6, .data⟩], none⟩
def sg15o8 : Oper := ⟨some 127, .buildSlice 23 1 #[(0, .tmp 126)], 23, "l10_request.go:313", #[⟨7, .data⟩], none⟩
def sg15o9 : Oper := ⟨some 128, .call { callee := .builtin Builtin.append, args := #[.tmp 120, .tmp 127], argTypes := #[23, 23] }, 23, "l10_request.go:313", #[⟨1, .data⟩, ⟨8, .data⟩, ⟨6, .chain⟩], none⟩
def sg15o10 : Oper := ⟨some 129, .fieldAddr 25 (.tmp 13) 2, 0, "l10_request.go:313", #[⟨0, .phase⟩, ⟨1, .phase⟩, ⟨2, .phase⟩, ⟨3, .phase⟩, ⟨4, .phase⟩, ⟨5, .phase⟩, ⟨6, .phase⟩, ⟨7, .phase⟩, ⟨8, .phase⟩, ⟨9, .phase⟩], none⟩
def sg15o11 : Oper := ⟨none, .store 23 (.tmp 129) (.tmp 128), 0, "l10_request.go:313", #[⟨10, .data⟩, ⟨9, .data⟩, ⟨9, .chain⟩, ⟨0, .phase⟩, ⟨1, .phase⟩, ⟨2, .phase⟩, ⟨3, .phase⟩, ⟨4, .phase⟩, ⟨5, .phase⟩, ⟨6, .phase⟩, ⟨7, .phase⟩, ⟨8, .phase⟩, ⟨9, .phase⟩], none⟩
def sg15O : Array Oper := #[sg15o0, sg15o1, sg15o2, sg15o3, sg15o4, sg15o5, sg15o6, sg15o7, sg15o8, sg15o9, sg15o10, sg15o11]
structure sg15P where
 (w0 : World)
 (X5 X6 X10 X11 X13 B BH : Nat)
 (mt pt bd id sec : ByteArray)
 (r5 : Array Value)
 (aL : Option Addr)
 (cL : Nat)
 (L : List Hp)
 (aH : Option Addr)
 (nH cH : Nat)
 (H : List Hp)
 (tA : Option Addr)
 (m mc : Nat)
 (ts : Nat → ByteArray)
 (nw ls : Int)
 (SM : ByteArray)
 (s0 s1 s7 s8 s9 s12 s14 s15 s16 s17 s18 s19 s20 s21 s22 s23 s24 s25 s26 s27 s28 s29 s30 s31 s32 s33 s34 s35 s36 s37 s38 s39 s40 s41 s42 s43 s44 s45 s46 s47 s48 s49 s50 s51 s52 s53 s54 s55 s56 s57 s58 s59 s60 s61 s62 s63 s64 s65 s66 s67 s68 s69 s70 s71 s72 s73 s74 s75 s76 s77 s78 s79 s80 s81 s82 s83 s84 s85 s86 s87 s88 s89 s90 s91 s92 s93 s94 s95 s96 s97 s98 s99 s100 s101 s102 s103 s104 s105 s106 s107 s108 s109 s110 s111 s112 s113 s114 s115 s116 s117 s118 s119 s120 s121 s122 s123 s124 s125 s126 s127 s128 s129 s130 s131 s132 s133 s134 : Value)
def sg15T (P : sg15P) (XS : Nat) (G : Nat) (CP : Nat) (b0 b1 b2 b3 b4 b5 b6 b7 b8 b9 b10 b11 : Bool) : Array Value := #[P.s0, P.s1, .slice P.tA P.m P.mc, .int .i64 P.nw, .int .i64 P.ls, .pointer (some ⟨P.X5, 0, none⟩), .pointer (some ⟨P.X6, 0, none⟩), P.s7, P.s8, P.s9, .pointer (some ⟨P.X10, 0, none⟩), .pointer (some ⟨P.X11, 0, none⟩), P.s12, .pointer (some ⟨P.X13, 0, none⟩), P.s14, P.s15, P.s16, P.s17, P.s18, P.s19, P.s20, P.s21, P.s22, P.s23, P.s24, P.s25, P.s26, P.s27, P.s28, P.s29, P.s30, P.s31, P.s32, P.s33, P.s34, P.s35, P.s36, P.s37, P.s38, P.s39, P.s40, P.s41, P.s42, P.s43, P.s44, P.s45, P.s46, P.s47, P.s48, P.s49, P.s50, P.s51, P.s52, P.s53, P.s54, P.s55, P.s56, P.s57, P.s58, P.s59, P.s60, P.s61, P.s62, P.s63, P.s64, P.s65, P.s66, P.s67, P.s68, P.s69, P.s70, P.s71, P.s72, P.s73, P.s74, P.s75, P.s76, P.s77, P.s78, P.s79, P.s80, P.s81, P.s82, P.s83, P.s84, P.s85, P.s86, P.s87, P.s88, P.s89, P.s90, P.s91, P.s92, P.s93, P.s94, P.s95, P.s96, P.s97, P.s98, P.s99, P.s100, P.s101, P.s102, P.s103, P.s104, P.s105, P.s106, P.s107, P.s108, P.s109, P.s110, P.s111, P.s112, P.s113, P.s114, P.s115, P.s116, P.s117, P.s118, selS b0 (.pointer (some ⟨P.X13, 2, none⟩)) (P.s119), selS b1 (.slice P.aL P.L.length P.cL) (P.s120), selS b2 (.agg #[.string P.mt, .string P.pt, .slice P.aL P.L.length P.cL, .slice P.aH P.nH P.cH, .string P.bd]) (P.s121), selS b3 (.pointer (some ⟨P.X6, 1, none⟩)) (P.s122), selS b4 (.string P.sec) (P.s123), selS b5 (.slice P.tA P.m P.mc) (P.s124), selS b6 (.string P.SM) (P.s125), selS b7 (.agg #[.string ⟨#[120, 45, 115, 117, 109]⟩, .string P.SM]) (P.s126), selS b8 (.slice (some ⟨XS, 0, none⟩) 1 1) (P.s127), selS b9 (.slice (some ⟨G, 0, none⟩) (P.L.length + 1) CP) (P.s128), selS b10 (.pointer (some ⟨P.X13, 2, none⟩)) (P.s129), P.s130, P.s131, P.s132, P.s133, P.s134]
def sg15F (P : sg15P) (XS : Nat) (G : Nat) (CP : Nat) (b0 b1 b2 b3 b4 b5 b6 b7 b8 b9 b10 b11 : Bool) (w : World) : Prop := (Below P.w0.heap.size P.w0 w) ∧ (RowAt w P.X13 25 (cond b11 #[.string P.mt, .string P.pt, .slice (some ⟨G, 0, none⟩) (P.L.length + 1) CP, .slice P.aH P.nH P.cH, .string P.bd] #[.string P.mt, .string P.pt, .slice P.aL P.L.length P.cL, .slice P.aH P.nH P.cH, .string P.bd])) ∧ (RowAt w P.X6 27 #[.string P.id, .string P.sec]) ∧ (RowAt w P.X5 25 P.r5) ∧ (RowAt w P.X10 25 #[.string ⟨#[]⟩, .string ⟨#[]⟩, .slice none 0 0, .slice none 0 0, .string ⟨#[]⟩]) ∧ (RowAt w P.X11 25 #[.string ⟨#[]⟩, .string ⟨#[]⟩, .slice none 0 0, .slice none 0 0, .string ⟨#[]⟩]) ∧ (Strs P.w0 P.tA P.m P.mc P.ts) ∧ (b9 = false → OwnHp w P.B (.slice P.aL P.L.length P.cL) P.L) ∧ (b9 = true → OwnHp w P.B (.slice (some ⟨G, 0, none⟩) (P.L.length + 1) CP) (P.L ++ [(⟨⟨#[120, 45, 115, 117, 109]⟩, P.SM⟩ : Hp)])) ∧ (OwnHp w P.BH (.slice P.aH P.nH P.cH) P.H ∧ ((Value.slice P.aH P.nH P.cH).ownBlock = none ∨ (Value.slice P.aH P.nH P.cH).ownBlock ≠ (Value.slice P.aL P.L.length P.cL).ownBlock)) ∧ (b9 = true → (Value.slice P.aH P.nH P.cH).ownBlock = none ∨ (Value.slice P.aH P.nH P.cH).ownBlock ≠ some G) ∧ (b8 = true → b9 = false → RowAt w XS 66 (hpL [(⟨⟨#[120, 45, 115, 117, 109]⟩, P.SM⟩ : Hp)]).toArray) ∧ (P.B ≤ w.heap.size) ∧ (P.L.length ≤ 1000) ∧ (P.w0.heap.size ≤ P.B ∧ P.w0.heap.size ≤ P.X13 ∧ P.X13 ≠ P.X6 ∧ P.X13 ≠ P.X5 ∧ P.X13 ≠ P.X10 ∧ P.X13 ≠ P.X11) ∧ (∀ wx, Below P.w0.heap.size P.w0 wx → OwnHp wx P.B (.slice P.aL P.L.length P.cL) P.L → OwnHp wx P.BH (.slice P.aH P.nH P.cH) P.H → Calls Tryz.prog 52 #[.agg #[.string P.mt, .string P.pt, .slice P.aL P.L.length P.cL, .slice P.aH P.nH P.cH, .string P.bd], .string P.sec, .slice P.tA P.m P.mc] wx fun e w' => e = .returned (.string P.SM) ∧ Below wx.heap.size wx w')
def sg15I (P : sg15P) (l : Array Bool) (f : Act) (w : World) : Prop :=
 ∃ (b0 b1 b2 b3 b4 b5 b6 b7 b8 b9 b10 b11 : Bool) (XS : Nat) (G : Nat) (CP : Nat), l = #[b0, b1, b2, b3, b4, b5, b6, b7, b8, b9, b10, b11] ∧ f = { tmps := sg15T P XS G CP b0 b1 b2 b3 b4 b5 b6 b7 b8 b9 b10 b11, defers := [] } ∧ sg15F P XS G CP b0 b1 b2 b3 b4 b5 b6 b7 b8 b9 b10 b11 w
theorem sg15M {P : sg15P} {b0 b1 b2 b3 b4 b5 b6 b7 b8 b9 b10 b11 : Bool} (XS : Nat) (G : Nat) (CP : Nat) {l : Array Bool} {f : Act} {w : World} (hl : l = #[b0, b1, b2, b3, b4, b5, b6, b7, b8, b9, b10, b11]) (hf : f = { tmps := sg15T P XS G CP b0 b1 b2 b3 b4 b5 b6 b7 b8 b9 b10 b11, defers := [] }) (h : sg15F P XS G CP b0 b1 b2 b3 b4 b5 b6 b7 b8 b9 b10 b11 w) : sg15I P l f w := ⟨b0, b1, b2, b3, b4, b5, b6, b7, b8, b9, b10, b11, XS, G, CP, hl, hf, h⟩
set_option maxRecDepth 20000 in
set_option maxHeartbeats 20000000 in
theorem sg15_step {Q : Exit → Act → World → Prop} (P : sg15P) (l : Array Bool) (f : Act) (w : World) (hC : Closed sg15O l) (hI : sg15I P l f w) (i : Nat) (h0 : l.getD i true = false) (o : Oper) (ho : sg15O[i]? = some o) (h1 : ∀ e ∈ o.after, Region.binds .any e = true → l.getD e.on false = true) : wpOp Tryz.prog sg15O Q i (sg15I P (l.setIfInBounds i true)) f w := by
 obtain ⟨b0, b1, b2, b3, b4, b5, b6, b7, b8, b9, b10, b11, XS, G, CP, rfl, rfl, hF⟩ := hI
 have hi : i < 12 := by
  rcases Nat.lt_or_ge i 12 with h | h
  · exact h
  · rw [show sg15O[i]? = none from Array.getElem?_eq_none h] at ho; cases ho
 rcases (by omega : i = 0 ∨ i = 1 ∨ i = 2 ∨ i = 3 ∨ i = 4 ∨ i = 5 ∨ i = 6 ∨ i = 7 ∨ i = 8 ∨ i = 9 ∨ i = 10 ∨ i = 11) with rfl | rfl | rfl | rfl | rfl | rfl | rfl | rfl | rfl | rfl | rfl | rfl
 · obtain rfl : sg15o0 = o := Option.some.inj ho
   obtain rfl : b0 = false := h0
   have hn := wayN_all hC (i := 0) rfl [(1, 0), (9, 1), (10, 0), (11, 0)] [] nk rfl; repeat (obtain ⟨rfl, hn⟩ := hn)
   obtain ⟨hB, hx13, hx6, hx5, hx10, hx11, hT, ho1, ho2, hoH, haH, hXS, hBz, hLn, hst, hks⟩ := hF
   refine wpOp_step (o := sg15o0) rfl (fun K hK => ?_)
   replace hK := hid hK
   simp only [sg15o0, sg15T, selS_f]
   go_simp
   exact hK.out _ _ (sg15M XS G CP rfl rfl ⟨hB, hx13, hx6, hx5, hx10, hx11, hT, ho1, ho2, hoH, haH, hXS, hBz, hLn, hst, hks⟩)
 · obtain rfl : sg15o1 = o := Option.some.inj ho
   obtain rfl : b1 = false := h0
   have hn := wayP_all (o := sg15o1) hC h1 [(0, none)] [] nk rfl; repeat (obtain ⟨rfl, hn⟩ := hn)
   have hn := wayN_all hC (i := 1) rfl [(9, 1), (10, 1), (11, 1)] [] nk rfl; repeat (obtain ⟨rfl, hn⟩ := hn)
   obtain ⟨hB, hx13, hx6, hx5, hx10, hx11, hT, ho1, ho2, hoH, haH, hXS, hBz, hLn, hst, hks⟩ := hF
   have q := hx13.cell 2
   refine wpOp_step (o := sg15o1) rfl (fun K hK => ?_)
   replace hK := hid hK
   simp only [sg15o1, sg15T, selS_t, selS_f]
   go_simp
   exact hK.out _ _ (sg15M XS G CP rfl rfl ⟨hB, hx13, hx6, hx5, hx10, hx11, hT, ho1, ho2, hoH, haH, hXS, hBz, hLn, hst, hks⟩)
 · obtain rfl : sg15o2 = o := Option.some.inj ho
   obtain rfl : b2 = false := h0
   have hn := wayN_all hC (i := 2) rfl [(6, 2), (7, 6), (8, 7), (9, 6), (10, 2), (11, 2)] [] nk rfl; repeat (obtain ⟨rfl, hn⟩ := hn)
   obtain ⟨hB, hx13, hx6, hx5, hx10, hx11, hT, ho1, ho2, hoH, haH, hXS, hBz, hLn, hst, hks⟩ := hF
   have h13 : RowAt w P.X13 25 #[.string P.mt, .string P.pt, .slice P.aL P.L.length P.cL, .slice P.aH P.nH P.cH, .string P.bd] := hx13
   have q0 := h13.cell 0
   have q1 := h13.cell 1
   have q2 := h13.cell 2
   have q3 := h13.cell 3
   have q4 := h13.cell 4
   refine wpOp_step (o := sg15o2) rfl (fun K hK => ?_)
   replace hK := hid hK
   simp only [sg15o2, sg15T, selS_f]
   go_simp
   exact hK.out _ _ (sg15M XS G CP rfl rfl ⟨hB, hx13, hx6, hx5, hx10, hx11, hT, ho1, ho2, hoH, haH, hXS, hBz, hLn, hst, hks⟩)
 · obtain rfl : sg15o3 = o := Option.some.inj ho
   obtain rfl : b3 = false := h0
   have hn := wayN_all hC (i := 3) rfl [(4, 3), (6, 4), (7, 6), (8, 7), (9, 6), (10, 3), (11, 3)] [] nk rfl; repeat (obtain ⟨rfl, hn⟩ := hn)
   obtain ⟨hB, hx13, hx6, hx5, hx10, hx11, hT, ho1, ho2, hoH, haH, hXS, hBz, hLn, hst, hks⟩ := hF
   refine wpOp_step (o := sg15o3) rfl (fun K hK => ?_)
   replace hK := hid hK
   simp only [sg15o3, sg15T, selS_f]
   go_simp
   exact hK.out _ _ (sg15M XS G CP rfl rfl ⟨hB, hx13, hx6, hx5, hx10, hx11, hT, ho1, ho2, hoH, haH, hXS, hBz, hLn, hst, hks⟩)
 · obtain rfl : sg15o4 = o := Option.some.inj ho
   obtain rfl : b4 = false := h0
   have hn := wayP_all (o := sg15o4) hC h1 [(3, none)] [] nk rfl; repeat (obtain ⟨rfl, hn⟩ := hn)
   have hn := wayN_all hC (i := 4) rfl [(6, 4), (7, 6), (8, 7), (9, 6), (10, 4), (11, 4)] [] nk rfl; repeat (obtain ⟨rfl, hn⟩ := hn)
   obtain ⟨hB, hx13, hx6, hx5, hx10, hx11, hT, ho1, ho2, hoH, haH, hXS, hBz, hLn, hst, hks⟩ := hF
   have q := hx6.cell 0
   have q1 := hx6.cell 1
   refine wpOp_step (o := sg15o4) rfl (fun K hK => ?_)
   replace hK := hid hK
   simp only [sg15o4, sg15T, selS_t, selS_f]
   go_simp
   exact hK.out _ _ (sg15M XS G CP rfl rfl ⟨hB, hx13, hx6, hx5, hx10, hx11, hT, ho1, ho2, hoH, haH, hXS, hBz, hLn, hst, hks⟩)
 · obtain rfl : sg15o5 = o := Option.some.inj ho
   obtain rfl : b5 = false := h0
   have hn := wayN_all hC (i := 5) rfl [(6, 5), (7, 6), (8, 7), (9, 6), (10, 5), (11, 5)] [] nk rfl; repeat (obtain ⟨rfl, hn⟩ := hn)
   obtain ⟨hB, hx13, hx6, hx5, hx10, hx11, hT, ho1, ho2, hoH, haH, hXS, hBz, hLn, hst, hks⟩ := hF
   refine wpOp_step (o := sg15o5) rfl (fun K hK => ?_)
   replace hK := hid hK
   simp only [sg15o5, sg15T, selS_f]
   go_simp
   exact hK.out _ _ (sg15M XS G CP rfl rfl ⟨hB, hx13, hx6, hx5, hx10, hx11, hT, ho1, ho2, hoH, haH, hXS, hBz, hLn, hst, hks⟩)
 · obtain rfl : sg15o6 = o := Option.some.inj ho
   obtain rfl : b6 = false := h0
   have hn := wayP_all (o := sg15o6) hC h1 [(5, none), (4, none), (2, none), (3, some 4)] [] nk rfl; repeat (obtain ⟨rfl, hn⟩ := hn)
   have hn := wayN_all hC (i := 6) rfl [(7, 6), (8, 7), (9, 6), (10, 6), (11, 6)] [] nk rfl; repeat (obtain ⟨rfl, hn⟩ := hn)
   obtain ⟨hB, hx13, hx6, hx5, hx10, hx11, hT, ho1, ho2, hoH, haH, hXS, hBz, hLn, hst, hks⟩ := hF
   refine wpOp_step (o := sg15o6) rfl (fun K hK => ?_)
   replace hK := hid hK
   simp only [sg15o6, sg15T, selS_t, selS_f]
   go_simp
   refine (hks _ hB (ho1 rfl) hoH.1).mono ?_
   rintro e w2 ⟨rfl, hb2⟩
   dsimp only
   exact hK.out _ _ (sg15M XS G CP rfl rfl ⟨hB.trans (hb2.mono hB.size), RowAt.nxS hb2 hx13, RowAt.nxS hb2 hx6, RowAt.nxS hb2 hx5, RowAt.nxS hb2 hx10, RowAt.nxS hb2 hx11, hT, fun h => OwnHp.next hb2 (ho1 h), fun h => Bool.noConfusion h, ⟨OwnHp.next hb2 hoH.1, hoH.2⟩, haH, fun h => Bool.noConfusion h, Nat.le_trans hBz hb2.size, hLn, hst, hks⟩)
 · obtain rfl : sg15o7 = o := Option.some.inj ho
   obtain rfl : b7 = false := h0
   have hn := wayP_all (o := sg15o7) hC h1 [(6, none), (2, some 6), (4, some 6), (5, some 6), (3, some 4)] [] nk rfl; repeat (obtain ⟨rfl, hn⟩ := hn)
   have hn := wayN_all hC (i := 7) rfl [(8, 7), (9, 8), (10, 7), (11, 7)] [] nk rfl; repeat (obtain ⟨rfl, hn⟩ := hn)
   obtain ⟨hB, hx13, hx6, hx5, hx10, hx11, hT, ho1, ho2, hoH, haH, hXS, hBz, hLn, hst, hks⟩ := hF
   refine wpOp_step (o := sg15o7) rfl (fun K hK => ?_)
   replace hK := hid hK
   simp only [sg15o7, sg15T, selS_t, selS_f]
   go_simp
   exact hK.out _ _ (sg15M XS G CP rfl rfl ⟨hB, hx13, hx6, hx5, hx10, hx11, hT, ho1, ho2, hoH, haH, hXS, hBz, hLn, hst, hks⟩)
 · obtain rfl : sg15o8 = o := Option.some.inj ho
   obtain rfl : b8 = false := h0
   have hn := wayP_all (o := sg15o8) hC h1 [(7, none), (6, some 7), (2, some 6), (4, some 6), (5, some 6), (3, some 4)] [] nk rfl; repeat (obtain ⟨rfl, hn⟩ := hn)
   have hn := wayN_all hC (i := 8) rfl [(9, 8), (10, 8), (11, 8)] [] nk rfl; repeat (obtain ⟨rfl, hn⟩ := hn)
   obtain ⟨hB, hx13, hx6, hx5, hx10, hx11, hT, ho1, ho2, hoH, haH, hXS, hBz, hLn, hst, hks⟩ := hF
   refine wpOp_step (o := sg15o8) rfl (fun K hK => ?_)
   replace hK := hid hK
   simp only [sg15o8, sg15T, selS_t, selS_f]
   go_simp
   exact hK.out _ _ (sg15M w.heap.size G CP rfl rfl ⟨hB.alloc hB.size _, hx13.alloc _, hx6.alloc _, hx5.alloc _, hx10.alloc _, hx11.alloc _, hT, fun h => World.ownsRow.alloc (ho1 h) _, fun h => Bool.noConfusion h, ⟨World.ownsRow.alloc hoH.1 _, hoH.2⟩, haH, fun _ _ => RowAt.new w _ _, by simp only [World.size_alloc]; omega, hLn, hst, hks⟩)
 · obtain rfl : sg15o9 = o := Option.some.inj ho
   obtain rfl : b9 = false := h0
   have hn := wayP_all (o := sg15o9) hC h1 [(8, none), (6, none), (1, none), (7, some 8), (2, some 6), (4, some 6), (5, some 6), (3, some 4), (0, some 1)] [] nk rfl; repeat (obtain ⟨rfl, hn⟩ := hn)
   have hn := wayN_all hC (i := 9) rfl [(10, 9), (11, 9)] [] nk rfl; repeat (obtain ⟨rfl, hn⟩ := hn)
   obtain ⟨hB, hx13, hx6, hx5, hx10, hx11, hT, ho1, ho2, hoH, haH, hXS, hBz, hLn, hst, hks⟩ := hF
   refine wpOp_step (o := sg15o9) rfl (fun K hK => ?_)
   replace hK := hid hK
   have hO := ho1 rfl
   refine step_append_hps P.B _ (by rfl) _ _ 23 (by rfl) Tryz.underlying23 Tryz.infoHpG _ P.L [(⟨⟨#[120, 45, 115, 117, 109]⟩, P.SM⟩ : Hp)] (by simp) (by rfl) hO hBz XS (hXS rfl rfl) 1 rfl (by rfl) (by simp; omega) ?_
   intro g3 c3 w3 hO3 hg3 hl3
   exact hK.out _ _ (sg15M XS g3 c3 rfl rfl ⟨hB.grown hg3 hB.size (fun g hg => by have := (World.ownsRow.lt hO _ hg).1; omega), row_grown hx13 hg3 (OwnHp.neRowS hO hx13 (by decide)), row_grown hx6 hg3 (OwnHp.neRowS hO hx6 (by decide)), row_grown hx5 hg3 (OwnHp.neRowS hO hx5 (by decide)), row_grown hx10 hg3 (OwnHp.neRowS hO hx10 (by decide)), row_grown hx11 hg3 (OwnHp.neRowS hO hx11 (by decide)), hT, fun h => Bool.noConfusion h, fun _ => hO3, ⟨World.ownsRow.kept hoH.1 hg3 hoH.2, hoH.2⟩, fun _ => apartG hoH.1 hoH.2 hl3, fun h e => Bool.noConfusion e, Nat.le_trans hBz hg3.size, hLn, hst, hks⟩)
 · obtain rfl : sg15o10 = o := Option.some.inj ho
   obtain rfl : b10 = false := h0
   have hn := wayP_all (o := sg15o10) hC h1 [(9, none), (8, none), (7, none), (6, none), (5, none), (4, none), (3, none), (2, none), (1, none), (0, none)] [] nk rfl; repeat (obtain ⟨rfl, hn⟩ := hn)
   have hn := wayN_all hC (i := 10) rfl [(11, 10)] [] nk rfl; repeat (obtain ⟨rfl, hn⟩ := hn)
   obtain ⟨hB, hx13, hx6, hx5, hx10, hx11, hT, ho1, ho2, hoH, haH, hXS, hBz, hLn, hst, hks⟩ := hF
   refine wpOp_step (o := sg15o10) rfl (fun K hK => ?_)
   replace hK := hid hK
   simp only [sg15o10, sg15T, selS_t, selS_f]
   go_simp
   exact hK.out _ _ (sg15M XS G CP rfl rfl ⟨hB, hx13, hx6, hx5, hx10, hx11, hT, ho1, ho2, hoH, haH, hXS, hBz, hLn, hst, hks⟩)
 · obtain rfl : sg15o11 = o := Option.some.inj ho
   obtain rfl : b11 = false := h0
   have hn := wayP_all (o := sg15o11) hC h1 [(10, none), (9, none), (8, none), (7, none), (6, none), (5, none), (4, none), (3, none), (2, none), (1, none), (0, none)] [] nk rfl; repeat (obtain ⟨rfl, hn⟩ := hn)
   obtain ⟨hB, hx13, hx6, hx5, hx10, hx11, hT, ho1, ho2, hoH, haH, hXS, hBz, hLn, hst, hks⟩ := hF
   have h13 : RowAt w P.X13 25 #[.string P.mt, .string P.pt, .slice P.aL P.L.length P.cL, .slice P.aH P.nH P.cH, .string P.bd] := hx13
   have q := h13.cell 2
   have f := h13.free 2
   refine wpOp_step (o := sg15o11) rfl (fun K hK => ?_)
   replace hK := hid hK
   simp only [sg15o11, sg15T, selS_t]
   go_simp
   exact hK.out _ _ (sg15M XS G CP rfl rfl ⟨hB.setCell (by simp; omega) _, h13.set 2 _, hx6.other ⟨P.X13, 2, none⟩ _ (by simp; omega), hx5.other ⟨P.X13, 2, none⟩ _ (by simp; omega), hx10.other ⟨P.X13, 2, none⟩ _ (by simp; omega), hx11.other ⟨P.X13, 2, none⟩ _ (by simp; omega), hT, fun h => Bool.noConfusion h, fun h => OwnHp.setCellS (ho2 h) (OwnHp.neRowS (ho2 h) h13 (by decide)), ⟨OwnHp.setCellS hoH.1 (OwnHp.neRowS hoH.1 h13 (by decide)), hoH.2⟩, haH, fun h e => Bool.noConfusion e, by simp; omega, hLn, hst, hks⟩)
set_option maxRecDepth 20000 in
set_option maxHeartbeats 4000000 in
theorem sg15_wp {Q : Exit → Act → World → Prop} {rid : Nat} (w0 : World) (X5 X6 X10 X11 X13 B BH : Nat) (mt pt bd id sec : ByteArray) (r5 : Array Value) (aL : Option Addr) (cL : Nat) (L : List Hp) (aH : Option Addr) (nH cH : Nat) (H : List Hp) (tA : Option Addr) (m mc : Nat) (ts : Nat → ByteArray) (nw ls : Int) (SM : ByteArray) {s0 s1 s7 s8 s9 s12 s14 s15 s16 s17 s18 s19 s20 s21 s22 s23 s24 s25 s26 s27 s28 s29 s30 s31 s32 s33 s34 s35 s36 s37 s38 s39 s40 s41 s42 s43 s44 s45 s46 s47 s48 s49 s50 s51 s52 s53 s54 s55 s56 s57 s58 s59 s60 s61 s62 s63 s64 s65 s66 s67 s68 s69 s70 s71 s72 s73 s74 s75 s76 s77 s78 s79 s80 s81 s82 s83 s84 s85 s86 s87 s88 s89 s90 s91 s92 s93 s94 s95 s96 s97 s98 s99 s100 s101 s102 s103 s104 s105 s106 s107 s108 s109 s110 s111 s112 s113 s114 s115 s116 s117 s118 s119 s120 s121 s122 s123 s124 s125 s126 s127 s128 s129 s130 s131 s132 s133 s134 : Value} (w : World) (hB : Below w0.heap.size w0 w) (hx13 : RowAt w X13 25 #[.string mt, .string pt, .slice aL L.length cL, .slice aH nH cH, .string bd]) (hx6 : RowAt w X6 27 #[.string id, .string sec]) (hx5 : RowAt w X5 25 r5) (hx10 : RowAt w X10 25 #[.string ⟨#[]⟩, .string ⟨#[]⟩, .slice none 0 0, .slice none 0 0, .string ⟨#[]⟩]) (hx11 : RowAt w X11 25 #[.string ⟨#[]⟩, .string ⟨#[]⟩, .slice none 0 0, .slice none 0 0, .string ⟨#[]⟩]) (hT : Strs w0 tA m mc ts) (ho1 : OwnHp w B (.slice aL L.length cL) L) (hoH : OwnHp w BH (.slice aH nH cH) H ∧ ((Value.slice aH nH cH).ownBlock = none ∨ (Value.slice aH nH cH).ownBlock ≠ (Value.slice aL L.length cL).ownBlock)) (hBz : B ≤ w.heap.size) (hLn : L.length ≤ 1000) (hst : w0.heap.size ≤ B ∧ w0.heap.size ≤ X13 ∧ X13 ≠ X6 ∧ X13 ≠ X5 ∧ X13 ≠ X10 ∧ X13 ≠ X11) (hks : ∀ wx, Below w0.heap.size w0 wx → OwnHp wx B (.slice aL L.length cL) L → OwnHp wx BH (.slice aH nH cH) H → Calls Tryz.prog 52 #[.agg #[.string mt, .string pt, .slice aL L.length cL, .slice aH nH cH, .string bd], .string sec, .slice tA m mc] wx fun e w' => e = .returned (.string SM) ∧ Below wx.heap.size wx w')
 (fin : ∀ (XS : Nat) (G : Nat) (CP : Nat) (w' : World), (Below w0.heap.size w0 w') → (RowAt w' X13 25 #[.string mt, .string pt, .slice (some ⟨G, 0, none⟩) (L.length + 1) CP, .slice aH nH cH, .string bd]) → (RowAt w' X6 27 #[.string id, .string sec]) → (RowAt w' X5 25 r5) → (RowAt w' X10 25 #[.string ⟨#[]⟩, .string ⟨#[]⟩, .slice none 0 0, .slice none 0 0, .string ⟨#[]⟩]) → (RowAt w' X11 25 #[.string ⟨#[]⟩, .string ⟨#[]⟩, .slice none 0 0, .slice none 0 0, .string ⟨#[]⟩]) → (Strs w0 tA m mc ts) → (OwnHp w' B (.slice (some ⟨G, 0, none⟩) (L.length + 1) CP) (L ++ [(⟨⟨#[120, 45, 115, 117, 109]⟩, SM⟩ : Hp)])) → (OwnHp w' BH (.slice aH nH cH) H ∧ ((Value.slice aH nH cH).ownBlock = none ∨ (Value.slice aH nH cH).ownBlock ≠ (Value.slice aL L.length cL).ownBlock)) → ((Value.slice aH nH cH).ownBlock = none ∨ (Value.slice aH nH cH).ownBlock ≠ some G) → (B ≤ w'.heap.size) → (L.length ≤ 1000) → (w0.heap.size ≤ B ∧ w0.heap.size ≤ X13 ∧ X13 ≠ X6 ∧ X13 ≠ X5 ∧ X13 ≠ X10 ∧ X13 ≠ X11) → (∀ wx, Below w0.heap.size w0 wx → OwnHp wx B (.slice aL L.length cL) L → OwnHp wx BH (.slice aH nH cH) H → Calls Tryz.prog 52 #[.agg #[.string mt, .string pt, .slice aL L.length cL, .slice aH nH cH, .string bd], .string sec, .slice tA m mc] wx fun e w' => e = .returned (.string SM) ∧ Below wx.heap.size wx w') → Q .normal { tmps := #[s0, s1, .slice tA m mc, .int .i64 nw, .int .i64 ls, .pointer (some ⟨X5, 0, none⟩), .pointer (some ⟨X6, 0, none⟩), s7, s8, s9, .pointer (some ⟨X10, 0, none⟩), .pointer (some ⟨X11, 0, none⟩), s12, .pointer (some ⟨X13, 0, none⟩), s14, s15, s16, s17, s18, s19, s20, s21, s22, s23, s24, s25, s26, s27, s28, s29, s30, s31, s32, s33, s34, s35, s36, s37, s38, s39, s40, s41, s42, s43, s44, s45, s46, s47, s48, s49, s50, s51, s52, s53, s54, s55, s56, s57, s58, s59, s60, s61, s62, s63, s64, s65, s66, s67, s68, s69, s70, s71, s72, s73, s74, s75, s76, s77, s78, s79, s80, s81, s82, s83, s84, s85, s86, s87, s88, s89, s90, s91, s92, s93, s94, s95, s96, s97, s98, s99, s100, s101, s102, s103, s104, s105, s106, s107, s108, s109, s110, s111, s112, s113, s114, s115, s116, s117, s118, .pointer (some ⟨X13, 2, none⟩), .slice aL L.length cL, .agg #[.string mt, .string pt, .slice aL L.length cL, .slice aH nH cH, .string bd], .pointer (some ⟨X6, 1, none⟩), .string sec, .slice tA m mc, .string SM, .agg #[.string ⟨#[120, 45, 115, 117, 109]⟩, .string SM], .slice (some ⟨XS, 0, none⟩) 1 1, .slice (some ⟨G, 0, none⟩) (L.length + 1) CP, .pointer (some ⟨X13, 2, none⟩), s130, s131, s132, s133, s134], defers := [] } w') :
 (Code.region rid sg15O true).wp Tryz.prog Q { tmps := #[s0, s1, .slice tA m mc, .int .i64 nw, .int .i64 ls, .pointer (some ⟨X5, 0, none⟩), .pointer (some ⟨X6, 0, none⟩), s7, s8, s9, .pointer (some ⟨X10, 0, none⟩), .pointer (some ⟨X11, 0, none⟩), s12, .pointer (some ⟨X13, 0, none⟩), s14, s15, s16, s17, s18, s19, s20, s21, s22, s23, s24, s25, s26, s27, s28, s29, s30, s31, s32, s33, s34, s35, s36, s37, s38, s39, s40, s41, s42, s43, s44, s45, s46, s47, s48, s49, s50, s51, s52, s53, s54, s55, s56, s57, s58, s59, s60, s61, s62, s63, s64, s65, s66, s67, s68, s69, s70, s71, s72, s73, s74, s75, s76, s77, s78, s79, s80, s81, s82, s83, s84, s85, s86, s87, s88, s89, s90, s91, s92, s93, s94, s95, s96, s97, s98, s99, s100, s101, s102, s103, s104, s105, s106, s107, s108, s109, s110, s111, s112, s113, s114, s115, s116, s117, s118, s119, s120, s121, s122, s123, s124, s125, s126, s127, s128, s129, s130, s131, s132, s133, s134], defers := [] } w := by
 refine wp_region_inv (ops := sg15O) (sg15I ⟨w0, X5, X6, X10, X11, X13, B, BH, mt, pt, bd, id, sec, r5, aL, cL, L, aH, nH, cH, H, tA, m, mc, ts, nw, ls, SM, s0, s1, s7, s8, s9, s12, s14, s15, s16, s17, s18, s19, s20, s21, s22, s23, s24, s25, s26, s27, s28, s29, s30, s31, s32, s33, s34, s35, s36, s37, s38, s39, s40, s41, s42, s43, s44, s45, s46, s47, s48, s49, s50, s51, s52, s53, s54, s55, s56, s57, s58, s59, s60, s61, s62, s63, s64, s65, s66, s67, s68, s69, s70, s71, s72, s73, s74, s75, s76, s77, s78, s79, s80, s81, s82, s83, s84, s85, s86, s87, s88, s89, s90, s91, s92, s93, s94, s95, s96, s97, s98, s99, s100, s101, s102, s103, s104, s105, s106, s107, s108, s109, s110, s111, s112, s113, s114, s115, s116, s117, s118, s119, s120, s121, s122, s123, s124, s125, s126, s127, s128, s129, s130, s131, s132, s133, s134⟩) (by kernel_rfl) (by kernel_rfl) (fun l f v hI => ?_) (fun l f v hC hI i h0 o ho h1 => sg15_step ⟨w0, X5, X6, X10, X11, X13, B, BH, mt, pt, bd, id, sec, r5, aL, cL, L, aH, nH, cH, H, tA, m, mc, ts, nw, ls, SM, s0, s1, s7, s8, s9, s12, s14, s15, s16, s17, s18, s19, s20, s21, s22, s23, s24, s25, s26, s27, s28, s29, s30, s31, s32, s33, s34, s35, s36, s37, s38, s39, s40, s41, s42, s43, s44, s45, s46, s47, s48, s49, s50, s51, s52, s53, s54, s55, s56, s57, s58, s59, s60, s61, s62, s63, s64, s65, s66, s67, s68, s69, s70, s71, s72, s73, s74, s75, s76, s77, s78, s79, s80, s81, s82, s83, s84, s85, s86, s87, s88, s89, s90, s91, s92, s93, s94, s95, s96, s97, s98, s99, s100, s101, s102, s103, s104, s105, s106, s107, s108, s109, s110, s111, s112, s113, s114, s115, s116, s117, s118, s119, s120, s121, s122, s123, s124, s125, s126, s127, s128, s129, s130, s131, s132, s133, s134⟩ l f v hC hI i h0 o ho h1) (fun l f v hI hall => ?_) ?_
 · obtain ⟨_, _, _, _, _, _, _, _, _, _, _, _, _, _, _, rfl, _⟩ := hI; rfl
 · obtain ⟨b0, b1, b2, b3, b4, b5, b6, b7, b8, b9, b10, b11, XS, G, CP, rfl, rfl, hB, hx13, hx6, hx5, hx10, hx11, hT, ho1, ho2, hoH, haH, hXS, hBz, hLn, hst, hks⟩ := hI
   have hn := allT hall [0, 1, 2, 3, 4, 5, 6, 7, 8, 9, 10, 11] rfl; repeat (obtain ⟨rfl, hn⟩ := hn)
   exact fin XS G CP v hB hx13 hx6 hx5 hx10 hx11 hT (ho2 rfl) hoH (haH rfl) hBz hLn hst hks
 · exact ⟨false, false, false, false, false, false, false, false, false, false, false, false, 0, 0, 0, rfl, rfl, hB.drew, hx13.drew, hx6.drew, hx5.drew, hx10.drew, hx11.drew, hT, fun _ => World.ownsRow.drew ho1, fun h => Bool.noConfusion h, ⟨World.ownsRow.drew hoH.1, hoH.2⟩, fun h => Bool.noConfusion h, fun h => Bool.noConfusion h, hBz, hLn, hst, hks⟩
end Go.Proofs.YtkcjigelenofhaaGreatDoor
