import Derived.Test.YtepdodifgkejjaaGreatDoorG8
import Derived.Test.YtepdodifgkejjaaGreatDoorG8
import Derived.Laws.StructEq
import Derived.BigQuiet
import Derived.Test.YtepdodifgkejjaaGreatDoorTurn
namespace Go.Proofs.YtepdodifgkejjaaGreatDoor
open Go.RowKit
set_option linter.unusedVariables false
/-! FnSignedIn's drawn regions (by genfsi.py). -/
def fao0 : Oper := ⟨some 48, .load 25 (.tmp 8), 25, "laws.go:780", #[], none⟩
def fao1 : Oper := ⟨some 49, .move (.tmp 10), 33, "laws.go:780", #[], none⟩
def fao2 : Oper := ⟨some 50, .move (.tmp 6), 2, "laws.go:780", #[], none⟩
def fao3 : Oper := ⟨some 51, .call { callee := .value (.func 11), args := #[.tmp 48, .tmp 49, .tmp 50], argTypes := #[25, 33, 2] }, 35, "laws.go:780", #[⟨0, .data⟩, ⟨1, .data⟩, ⟨2, .data⟩], none⟩
def fao4 : Oper := ⟨some 52, .load 35 (.tmp 11), 35, "laws.go:780", #[], none⟩
def fao5 : Oper := ⟨some 53, .binOp .neq 35 (.tmp 51) (.tmp 52) 35, 4, "laws.go:780", #[⟨3, .data⟩, ⟨4, .data⟩], none⟩
def fao6 : Oper := ⟨some 54, .move (.tmp 53), 4, "laws.go:780", #[⟨5, .data⟩, ⟨3, .chain⟩], none⟩
def fao7 : Oper := ⟨some 55, .load 25 (.tmp 8), 25, "laws.go:780", #[⟨6, .guard⟩], some (6, false)⟩
def fao8 : Oper := ⟨some 56, .move (.tmp 10), 33, "laws.go:780", #[⟨6, .guard⟩], some (6, false)⟩
def fao9 : Oper := ⟨some 57, .move (.tmp 6), 2, "laws.go:780", #[⟨6, .guard⟩], some (6, false)⟩
def fao10 : Oper := ⟨some 58, .move (.tmp 7), 2, "laws.go:780", #[⟨6, .guard⟩], some (6, false)⟩
def fao11 : Oper := ⟨some 59, .binOp .add 2 (.tmp 57) (.tmp 58) 2, 2, "laws.go:780", #[⟨9, .data⟩, ⟨10, .data⟩, ⟨6, .guard⟩], some (6, false)⟩
def fao12 : Oper := ⟨some 60, .call { callee := .value (.func 11), args := #[.tmp 55, .tmp 56, .tmp 59], argTypes := #[25, 33, 2] }, 35, "laws.go:780", #[⟨7, .data⟩, ⟨8, .data⟩, ⟨11, .data⟩, ⟨6, .chain⟩, ⟨6, .guard⟩], some (6, false)⟩
def fao13 : Oper := ⟨some 61, .load 35 (.tmp 11), 35, "laws.go:780", #[⟨6, .guard⟩], some (6, false)⟩
def fao14 : Oper := ⟨some 62, .binOp .neq 35 (.tmp 60) (.tmp 61) 35, 4, "laws.go:780", #[⟨12, .data⟩, ⟨13, .data⟩, ⟨6, .guard⟩], some (6, false)⟩
def fao15 : Oper := ⟨some 63, .pick (.tmp 54) (.const (.bool true)) (.tmp 62), 4, "laws.go:780", #[⟨6, .data⟩, ⟨14, .data⟩], none⟩
def fao16 : Oper := ⟨some 64, .move (.tmp 63), 4, "laws.go:780", #[⟨15, .data⟩, ⟨12, .chain⟩], none⟩
def fao17 : Oper := ⟨some 65, .load 25 (.tmp 8), 25, "laws.go:780", #[⟨16, .guard⟩], some (16, false)⟩
def fao18 : Oper := ⟨some 66, .move (.tmp 10), 33, "laws.go:780", #[⟨16, .guard⟩], some (16, false)⟩
def fao19 : Oper := ⟨some 67, .move (.tmp 6), 2, "laws.go:780", #[⟨16, .guard⟩], some (16, false)⟩
def fao20 : Oper := ⟨some 68, .binOp .sub 2 (.tmp 67) (.const (.int .i64 1)) 2, 2, "laws.go:780", #[⟨19, .data⟩, ⟨16, .guard⟩], some (16, false)⟩
def fao21 : Oper := ⟨some 69, .call { callee := .value (.func 11), args := #[.tmp 65, .tmp 66, .tmp 68], argTypes := #[25, 33, 2] }, 35, "laws.go:780", #[⟨17, .data⟩, ⟨18, .data⟩, ⟨20, .data⟩, ⟨16, .chain⟩, ⟨16, .guard⟩], some (16, false)⟩
def fao22 : Oper := ⟨some 70, .field 35 (.tmp 69) 0, 2, "laws.go:780", #[⟨21, .data⟩, ⟨16, .guard⟩], some (16, false)⟩
def fao23 : Oper := ⟨some 71, .binOp .neq 2 (.tmp 70) (.const (.int .i64 13)) 2, 4, "laws.go:780", #[⟨22, .data⟩, ⟨16, .guard⟩], some (16, false)⟩
def fao24 : Oper := ⟨some 72, .pick (.tmp 64) (.const (.bool true)) (.tmp 71), 4, "laws.go:780", #[⟨16, .data⟩, ⟨23, .data⟩], none⟩
def fao25 : Oper := ⟨some 73, .move (.tmp 72), 4, "laws.go:780", #[⟨24, .data⟩, ⟨21, .chain⟩], none⟩
def fao26 : Oper := ⟨some 74, .load 25 (.tmp 8), 25, "laws.go:780", #[⟨25, .guard⟩], some (25, false)⟩
def fao27 : Oper := ⟨some 75, .move (.tmp 10), 33, "laws.go:780", #[⟨25, .guard⟩], some (25, false)⟩
def fao28 : Oper := ⟨some 76, .move (.tmp 6), 2, "laws.go:780", #[⟨25, .guard⟩], some (25, false)⟩
def fao29 : Oper := ⟨some 77, .move (.tmp 7), 2, "laws.go:780", #[⟨25, .guard⟩], some (25, false)⟩
def fao30 : Oper := ⟨some 78, .binOp .add 2 (.tmp 76) (.tmp 77) 2, 2, "laws.go:780", #[⟨28, .data⟩, ⟨29, .data⟩, ⟨25, .guard⟩], some (25, false)⟩
def fao31 : Oper := ⟨some 79, .binOp .add 2 (.tmp 78) (.const (.int .i64 1)) 2, 2, "laws.go:780", #[⟨30, .data⟩, ⟨25, .guard⟩], some (25, false)⟩
def fao32 : Oper := ⟨some 80, .call { callee := .value (.func 11), args := #[.tmp 74, .tmp 75, .tmp 79], argTypes := #[25, 33, 2] }, 35, "laws.go:780", #[⟨26, .data⟩, ⟨27, .data⟩, ⟨31, .data⟩, ⟨25, .chain⟩, ⟨25, .guard⟩], some (25, false)⟩
def fao33 : Oper := ⟨some 81, .field 35 (.tmp 80) 0, 2, "laws.go:780", #[⟨32, .data⟩, ⟨25, .guard⟩], some (25, false)⟩
def fao34 : Oper := ⟨some 82, .binOp .neq 2 (.tmp 81) (.const (.int .i64 13)) 2, 4, "laws.go:780", #[⟨33, .data⟩, ⟨25, .guard⟩], some (25, false)⟩
def fao35 : Oper := ⟨some 83, .pick (.tmp 73) (.const (.bool true)) (.tmp 82), 4, "laws.go:780", #[⟨25, .data⟩, ⟨34, .data⟩], none⟩
def faO : Array Oper := #[fao0, fao1, fao2, fao3, fao4, fao5, fao6, fao7, fao8, fao9, fao10, fao11, fao12, fao13, fao14, fao15, fao16, fao17, fao18, fao19, fao20, fao21, fao22, fao23, fao24, fao25, fao26, fao27, fao28, fao29, fao30, fao31, fao32, fao33, fao34, fao35]
structure faP where
  (w0 : World)
  (X8 X11 XK : Nat)
  (mt pt bd id : ByteArray)
  (a1 : Option Addr)
  (n1 c1 : Nat)
  (a2 : Option Addr)
  (n2 c2 : Nat)
  (nw ls S1 S2 S3 : Int)
  (sa sb sc sd se sf sk so sp sq sr ss su sv sw sx sy sz ta tb tc td te tf tg th ti tj tk tl tm tn tp tr tt tu tv tw tx ty tz ua ub uc ud ue uf ug uh ui uj uk ul um un uo up uq ur us ut uu uv uw ux uy uz va vb vc vd ve vf vg vh vi vj vk vl vm vn vo vp vq vr vs vt vu vv vw vx vy vz xa xb xc xd xe xf xg xh xi xj xk : Value)
def faT (P : faP) (dm : Nat) (b0 b1 b2 b3 b4 b5 b6 b7 b8 b9 b10 b11 b12 b13 b14 b15 b16 b17 b18 b19 b20 b21 b22 b23 b24 b25 b26 b27 b28 b29 b30 b31 b32 b33 b34 b35 : Bool) : Array Value := #[P.sa, P.sb, P.sc, P.sd, P.se, P.sf, .int .i64 P.nw, .int .i64 P.ls, .pointer (some ⟨P.X8, 0, none⟩), P.sk, .slice (some ⟨P.XK, 0, none⟩) 1 1, .pointer (some ⟨P.X11, 0, none⟩), P.so, P.sp, P.sq, P.sr, P.ss, P.su, P.sv, P.sw, P.sx, P.sy, P.sz, P.ta, P.tb, P.tc, P.td, P.te, P.tf, P.tg, P.th, P.ti, P.tj, P.tk, P.tl, P.tm, P.tn, P.tp, P.tr, P.tt, P.tu, P.tv, P.tw, P.tx, P.ty, P.tz, P.ua, P.ub, selS b0 (.agg #[.string P.mt, .string P.pt, .slice P.a1 P.n1 P.c1, .slice P.a2 P.n2 P.c2, .string P.bd]) (P.uc), selS b1 (.slice (some ⟨P.XK, 0, none⟩) 1 1) (P.ud), selS b2 (.int .i64 P.nw) (P.ue), selS b3 (.agg #[.int .i64 0, .string P.id]) (P.uf), selS b4 (.agg #[.int .i64 0, .string P.id]) (P.ug), selS b5 (.bool false) (P.uh), selS b6 (.bool false) (P.ui), selS b7 (.agg #[.string P.mt, .string P.pt, .slice P.a1 P.n1 P.c1, .slice P.a2 P.n2 P.c2, .string P.bd]) (P.uj), selS b8 (.slice (some ⟨P.XK, 0, none⟩) 1 1) (P.uk), selS b9 (.int .i64 P.nw) (P.ul), selS b10 (.int .i64 P.ls) (P.um), selS b11 (.int .i64 P.S1) (P.un), selS b12 (.agg #[.int .i64 0, .string P.id]) (P.uo), selS b13 (.agg #[.int .i64 0, .string P.id]) (P.up), selS b14 (.bool false) (P.uq), selS b15 (.bool false) (P.ur), selS b16 (.bool false) (P.us), selS b17 (.agg #[.string P.mt, .string P.pt, .slice P.a1 P.n1 P.c1, .slice P.a2 P.n2 P.c2, .string P.bd]) (P.ut), selS b18 (.slice (some ⟨P.XK, 0, none⟩) 1 1) (P.uu), selS b19 (.int .i64 P.nw) (P.uv), selS b20 (.int .i64 P.S2) (P.uw), selS b21 (.agg #[.int .i64 13, .string ⟨#[]⟩]) (P.ux), selS b22 (.int .i64 13) (P.uy), selS b23 (.bool false) (P.uz), selS b24 (.bool false) (P.va), selS b25 (.bool false) (P.vb), selS b26 (.agg #[.string P.mt, .string P.pt, .slice P.a1 P.n1 P.c1, .slice P.a2 P.n2 P.c2, .string P.bd]) (P.vc), selS b27 (.slice (some ⟨P.XK, 0, none⟩) 1 1) (P.vd), selS b28 (.int .i64 P.nw) (P.ve), selS b29 (.int .i64 P.ls) (P.vf), selS b30 (.int .i64 P.S1) (P.vg), selS b31 (.int .i64 P.S3) (P.vh), selS b32 (.agg #[.int .i64 13, .string ⟨#[]⟩]) (P.vi), selS b33 (.int .i64 13) (P.vj), selS b34 (.bool false) (P.vk), selS b35 (.bool false) (P.vl), P.vm, P.vn, P.vo, P.vp, P.vq, P.vr, P.vs, P.vt, P.vu, P.vv, P.vw, P.vx, P.vy, P.vz, P.xa, P.xb, P.xc, P.xd, P.xe, P.xf, P.xg, P.xh, P.xi, P.xj, P.xk]
def faF (P : faP) (dm : Nat) (b0 b1 b2 b3 b4 b5 b6 b7 b8 b9 b10 b11 b12 b13 b14 b15 b16 b17 b18 b19 b20 b21 b22 b23 b24 b25 b26 b27 b28 b29 b30 b31 b32 b33 b34 b35 : Bool) (w : World) : Prop := (Below P.w0.heap.size P.w0 w) ∧ (RowAt w P.X8 25 #[.string P.mt, .string P.pt, .slice P.a1 P.n1 P.c1, .slice P.a2 P.n2 P.c2, .string P.bd]) ∧ (RowAt w P.X11 35 #[.int .i64 0, .string P.id]) ∧ (∀ wx, Below P.w0.heap.size P.w0 wx → Calls Tryz.prog 11 #[.agg #[.string P.mt, .string P.pt, .slice P.a1 P.n1 P.c1, .slice P.a2 P.n2 P.c2, .string P.bd], .slice (some ⟨P.XK, 0, none⟩) 1 1, .int .i64 P.nw] wx fun e w' => e = .returned (.agg #[.int .i64 0, .string P.id]) ∧ Below wx.heap.size wx w') ∧ (∀ wx, Below P.w0.heap.size P.w0 wx → Calls Tryz.prog 11 #[.agg #[.string P.mt, .string P.pt, .slice P.a1 P.n1 P.c1, .slice P.a2 P.n2 P.c2, .string P.bd], .slice (some ⟨P.XK, 0, none⟩) 1 1, .int .i64 P.S1] wx fun e w' => e = .returned (.agg #[.int .i64 0, .string P.id]) ∧ Below wx.heap.size wx w') ∧ (∀ wx, Below P.w0.heap.size P.w0 wx → Calls Tryz.prog 11 #[.agg #[.string P.mt, .string P.pt, .slice P.a1 P.n1 P.c1, .slice P.a2 P.n2 P.c2, .string P.bd], .slice (some ⟨P.XK, 0, none⟩) 1 1, .int .i64 P.S2] wx fun e w' => e = .returned (.agg #[.int .i64 13, .string ⟨#[]⟩]) ∧ Below wx.heap.size wx w') ∧ (∀ wx, Below P.w0.heap.size P.w0 wx → Calls Tryz.prog 11 #[.agg #[.string P.mt, .string P.pt, .slice P.a1 P.n1 P.c1, .slice P.a2 P.n2 P.c2, .string P.bd], .slice (some ⟨P.XK, 0, none⟩) 1 1, .int .i64 P.S3] wx fun e w' => e = .returned (.agg #[.int .i64 13, .string ⟨#[]⟩]) ∧ Below wx.heap.size wx w') ∧ (IntKind.i64.wrap (P.nw + P.ls) = P.S1) ∧ (IntKind.i64.wrap (P.nw - 1) = P.S2) ∧ (IntKind.i64.wrap (P.S1 + 1) = P.S3)
def faI (P : faP) (l : Array Bool) (f : Act) (w : World) : Prop :=
  ∃ (b0 b1 b2 b3 b4 b5 b6 b7 b8 b9 b10 b11 b12 b13 b14 b15 b16 b17 b18 b19 b20 b21 b22 b23 b24 b25 b26 b27 b28 b29 b30 b31 b32 b33 b34 b35 : Bool) (dm : Nat), l = #[b0, b1, b2, b3, b4, b5, b6, b7, b8, b9, b10, b11, b12, b13, b14, b15, b16, b17, b18, b19, b20, b21, b22, b23, b24, b25, b26, b27, b28, b29, b30, b31, b32, b33, b34, b35] ∧ f = { tmps := faT P dm b0 b1 b2 b3 b4 b5 b6 b7 b8 b9 b10 b11 b12 b13 b14 b15 b16 b17 b18 b19 b20 b21 b22 b23 b24 b25 b26 b27 b28 b29 b30 b31 b32 b33 b34 b35, defers := [] } ∧ faF P dm b0 b1 b2 b3 b4 b5 b6 b7 b8 b9 b10 b11 b12 b13 b14 b15 b16 b17 b18 b19 b20 b21 b22 b23 b24 b25 b26 b27 b28 b29 b30 b31 b32 b33 b34 b35 w
theorem faM {P : faP} {b0 b1 b2 b3 b4 b5 b6 b7 b8 b9 b10 b11 b12 b13 b14 b15 b16 b17 b18 b19 b20 b21 b22 b23 b24 b25 b26 b27 b28 b29 b30 b31 b32 b33 b34 b35 : Bool} (dm : Nat) {l : Array Bool} {f : Act} {w : World} (hl : l = #[b0, b1, b2, b3, b4, b5, b6, b7, b8, b9, b10, b11, b12, b13, b14, b15, b16, b17, b18, b19, b20, b21, b22, b23, b24, b25, b26, b27, b28, b29, b30, b31, b32, b33, b34, b35]) (hf : f = { tmps := faT P dm b0 b1 b2 b3 b4 b5 b6 b7 b8 b9 b10 b11 b12 b13 b14 b15 b16 b17 b18 b19 b20 b21 b22 b23 b24 b25 b26 b27 b28 b29 b30 b31 b32 b33 b34 b35, defers := [] }) (h : faF P dm b0 b1 b2 b3 b4 b5 b6 b7 b8 b9 b10 b11 b12 b13 b14 b15 b16 b17 b18 b19 b20 b21 b22 b23 b24 b25 b26 b27 b28 b29 b30 b31 b32 b33 b34 b35 w) : faI P l f w := ⟨b0, b1, b2, b3, b4, b5, b6, b7, b8, b9, b10, b11, b12, b13, b14, b15, b16, b17, b18, b19, b20, b21, b22, b23, b24, b25, b26, b27, b28, b29, b30, b31, b32, b33, b34, b35, dm, hl, hf, h⟩
set_option maxRecDepth 20000 in
set_option maxHeartbeats 20000000 in
theorem fa_step {Q : Exit → Act → World → Prop} (P : faP) (l : Array Bool) (f : Act) (w : World) (hC : Closed faO l) (hI : faI P l f w) (i : Nat) (h0 : l.getD i true = false) (o : Oper) (ho : faO[i]? = some o) (h1 : ∀ e ∈ o.after, Region.binds .any e = true → l.getD e.on false = true) : wpOp Tryz.prog faO Q i (faI P (l.setIfInBounds i true)) f w := by
  obtain ⟨b0, b1, b2, b3, b4, b5, b6, b7, b8, b9, b10, b11, b12, b13, b14, b15, b16, b17, b18, b19, b20, b21, b22, b23, b24, b25, b26, b27, b28, b29, b30, b31, b32, b33, b34, b35, dm, rfl, rfl, hF⟩ := hI
  have hi : i < 36 := by
    rcases Nat.lt_or_ge i 36 with h | h
    · exact h
    · rw [show faO[i]? = none from Array.getElem?_eq_none h] at ho; cases ho
  rcases (by omega : i = 0 ∨ i = 1 ∨ i = 2 ∨ i = 3 ∨ i = 4 ∨ i = 5 ∨ i = 6 ∨ i = 7 ∨ i = 8 ∨ i = 9 ∨ i = 10 ∨ i = 11 ∨ i = 12 ∨ i = 13 ∨ i = 14 ∨ i = 15 ∨ i = 16 ∨ i = 17 ∨ i = 18 ∨ i = 19 ∨ i = 20 ∨ i = 21 ∨ i = 22 ∨ i = 23 ∨ i = 24 ∨ i = 25 ∨ i = 26 ∨ i = 27 ∨ i = 28 ∨ i = 29 ∨ i = 30 ∨ i = 31 ∨ i = 32 ∨ i = 33 ∨ i = 34 ∨ i = 35) with rfl | rfl | rfl | rfl | rfl | rfl | rfl | rfl | rfl | rfl | rfl | rfl | rfl | rfl | rfl | rfl | rfl | rfl | rfl | rfl | rfl | rfl | rfl | rfl | rfl | rfl | rfl | rfl | rfl | rfl | rfl | rfl | rfl | rfl | rfl | rfl
  · obtain rfl : fao0 = o := Option.some.inj ho
    obtain rfl : b0 = false := h0
    have hn := wayN_all hC (i := 0) rfl [(3, 0), (5, 3), (6, 3), (7, 6), (8, 6), (9, 6), (10, 6), (11, 6), (12, 6), (13, 6), (14, 6), (15, 6), (16, 12), (17, 16), (18, 16), (19, 16), (20, 16), (21, 16), (22, 16), (23, 16), (24, 16), (25, 21), (26, 25), (27, 25), (28, 25), (29, 25), (30, 25), (31, 25), (32, 25), (33, 25), (34, 25), (35, 25)] [] nk rfl; repeat (obtain ⟨rfl, hn⟩ := hn)
    obtain ⟨hB, hx8, hx11, hk1, hk2, hk3, hk4, hw1, hw2, hw3⟩ := hF
    have q0 := hx8.cell 0
    have q1 := hx8.cell 1
    have q2 := hx8.cell 2
    have q3 := hx8.cell 3
    have q4 := hx8.cell 4
    refine wpOp_step (o := fao0) rfl (fun K hK => ?_)
    replace hK := hid hK
    simp only [fao0, faT, selS_f]
    go_simp
    exact hK.out _ _ (faM dm rfl rfl ⟨hB, hx8, hx11, hk1, hk2, hk3, hk4, hw1, hw2, hw3⟩)
  · obtain rfl : fao1 = o := Option.some.inj ho
    obtain rfl : b1 = false := h0
    have hn := wayN_all hC (i := 1) rfl [(3, 1), (5, 3), (6, 3), (7, 6), (8, 6), (9, 6), (10, 6), (11, 6), (12, 6), (13, 6), (14, 6), (15, 6), (16, 12), (17, 16), (18, 16), (19, 16), (20, 16), (21, 16), (22, 16), (23, 16), (24, 16), (25, 21), (26, 25), (27, 25), (28, 25), (29, 25), (30, 25), (31, 25), (32, 25), (33, 25), (34, 25), (35, 25)] [] nk rfl; repeat (obtain ⟨rfl, hn⟩ := hn)
    obtain ⟨hB, hx8, hx11, hk1, hk2, hk3, hk4, hw1, hw2, hw3⟩ := hF
    refine wpOp_step (o := fao1) rfl (fun K hK => ?_)
    replace hK := hid hK
    simp only [fao1, faT, selS_f]
    go_simp
    exact hK.out _ _ (faM dm rfl rfl ⟨hB, hx8, hx11, hk1, hk2, hk3, hk4, hw1, hw2, hw3⟩)
  · obtain rfl : fao2 = o := Option.some.inj ho
    obtain rfl : b2 = false := h0
    have hn := wayN_all hC (i := 2) rfl [(3, 2), (5, 3), (6, 3), (7, 6), (8, 6), (9, 6), (10, 6), (11, 6), (12, 6), (13, 6), (14, 6), (15, 6), (16, 12), (17, 16), (18, 16), (19, 16), (20, 16), (21, 16), (22, 16), (23, 16), (24, 16), (25, 21), (26, 25), (27, 25), (28, 25), (29, 25), (30, 25), (31, 25), (32, 25), (33, 25), (34, 25), (35, 25)] [] nk rfl; repeat (obtain ⟨rfl, hn⟩ := hn)
    obtain ⟨hB, hx8, hx11, hk1, hk2, hk3, hk4, hw1, hw2, hw3⟩ := hF
    refine wpOp_step (o := fao2) rfl (fun K hK => ?_)
    replace hK := hid hK
    simp only [fao2, faT, selS_f]
    go_simp
    exact hK.out _ _ (faM dm rfl rfl ⟨hB, hx8, hx11, hk1, hk2, hk3, hk4, hw1, hw2, hw3⟩)
  · obtain rfl : fao3 = o := Option.some.inj ho
    obtain rfl : b3 = false := h0
    have hn := wayP_all (o := fao3) hC h1 [(2, none), (1, none), (0, none)] [] nk rfl; repeat (obtain ⟨rfl, hn⟩ := hn)
    have hn := wayN_all hC (i := 3) rfl [(5, 3), (6, 3), (7, 6), (8, 6), (9, 6), (10, 6), (11, 6), (12, 6), (13, 6), (14, 6), (15, 6), (16, 12), (17, 16), (18, 16), (19, 16), (20, 16), (21, 16), (22, 16), (23, 16), (24, 16), (25, 21), (26, 25), (27, 25), (28, 25), (29, 25), (30, 25), (31, 25), (32, 25), (33, 25), (34, 25), (35, 25)] [] nk rfl; repeat (obtain ⟨rfl, hn⟩ := hn)
    obtain ⟨hB, hx8, hx11, hk1, hk2, hk3, hk4, hw1, hw2, hw3⟩ := hF
    refine wpOp_step (o := fao3) rfl (fun K hK => ?_)
    replace hK := hid hK
    simp only [fao3, faT, selS_t, selS_f]
    go_simp
    refine (hk1 _ hB).mono ?_
    rintro e w2 ⟨rfl, hb2⟩
    dsimp only
    exact hK.out _ _ (faM dm rfl rfl ⟨hB.trans (hb2.mono hB.size), RowAt.nxS hb2 hx8, RowAt.nxS hb2 hx11, hk1, hk2, hk3, hk4, hw1, hw2, hw3⟩)
  · obtain rfl : fao4 = o := Option.some.inj ho
    obtain rfl : b4 = false := h0
    have hn := wayN_all hC (i := 4) rfl [(5, 4), (6, 5), (7, 6), (8, 6), (9, 6), (10, 6), (11, 6), (12, 6), (13, 6), (14, 6), (15, 6), (16, 12), (17, 16), (18, 16), (19, 16), (20, 16), (21, 16), (22, 16), (23, 16), (24, 16), (25, 21), (26, 25), (27, 25), (28, 25), (29, 25), (30, 25), (31, 25), (32, 25), (33, 25), (34, 25), (35, 25)] [] nk rfl; repeat (obtain ⟨rfl, hn⟩ := hn)
    obtain ⟨hB, hx8, hx11, hk1, hk2, hk3, hk4, hw1, hw2, hw3⟩ := hF
    have q0 := hx11.cell 0
    have q1 := hx11.cell 1
    refine wpOp_step (o := fao4) rfl (fun K hK => ?_)
    replace hK := hid hK
    simp only [fao4, faT, selS_f]
    go_simp
    exact hK.out _ _ (faM dm rfl rfl ⟨hB, hx8, hx11, hk1, hk2, hk3, hk4, hw1, hw2, hw3⟩)
  · obtain rfl : fao5 = o := Option.some.inj ho
    obtain rfl : b5 = false := h0
    have hn := wayP_all (o := fao5) hC h1 [(4, none), (3, none), (0, some 3), (1, some 3), (2, some 3)] [] nk rfl; repeat (obtain ⟨rfl, hn⟩ := hn)
    have hn := wayN_all hC (i := 5) rfl [(6, 5), (7, 6), (8, 6), (9, 6), (10, 6), (11, 6), (12, 6), (13, 6), (14, 6), (15, 6), (16, 12), (17, 16), (18, 16), (19, 16), (20, 16), (21, 16), (22, 16), (23, 16), (24, 16), (25, 21), (26, 25), (27, 25), (28, 25), (29, 25), (30, 25), (31, 25), (32, 25), (33, 25), (34, 25), (35, 25)] [] nk rfl; repeat (obtain ⟨rfl, hn⟩ := hn)
    obtain ⟨hB, hx8, hx11, hk1, hk2, hk3, hk4, hw1, hw2, hw3⟩ := hF
    refine wpOp_step (o := fao5) rfl (fun K hK => ?_)
    replace hK := hid hK
    simp only [fao5, faT, selS_t, selS_f]
    go_simp
    exact hK.out _ _ (faM dm rfl rfl ⟨hB, hx8, hx11, hk1, hk2, hk3, hk4, hw1, hw2, hw3⟩)
  · obtain rfl : fao6 = o := Option.some.inj ho
    obtain rfl : b6 = false := h0
    have hn := wayP_all (o := fao6) hC h1 [(5, none), (3, none), (4, some 5), (0, some 3), (1, some 3), (2, some 3)] [] nk rfl; repeat (obtain ⟨rfl, hn⟩ := hn)
    have hn := wayN_all hC (i := 6) rfl [(7, 6), (8, 6), (9, 6), (10, 6), (11, 6), (12, 6), (13, 6), (14, 6), (15, 6), (16, 12), (17, 16), (18, 16), (19, 16), (20, 16), (21, 16), (22, 16), (23, 16), (24, 16), (25, 21), (26, 25), (27, 25), (28, 25), (29, 25), (30, 25), (31, 25), (32, 25), (33, 25), (34, 25), (35, 25)] [] nk rfl; repeat (obtain ⟨rfl, hn⟩ := hn)
    obtain ⟨hB, hx8, hx11, hk1, hk2, hk3, hk4, hw1, hw2, hw3⟩ := hF
    refine wpOp_step (o := fao6) rfl (fun K hK => ?_)
    replace hK := hid hK
    simp only [fao6, faT, selS_t, selS_f]
    go_simp
    exact hK.out _ _ (faM dm rfl rfl ⟨hB, hx8, hx11, hk1, hk2, hk3, hk4, hw1, hw2, hw3⟩)
  · obtain rfl : fao7 = o := Option.some.inj ho
    obtain rfl : b7 = false := h0
    have hn := wayP_all (o := fao7) hC h1 [(6, none), (3, some 6), (5, some 6), (4, some 5), (0, some 3), (1, some 3), (2, some 3)] [] nk rfl; repeat (obtain ⟨rfl, hn⟩ := hn)
    have hn := wayN_all hC (i := 7) rfl [(12, 7), (14, 12), (15, 14), (16, 12), (17, 16), (18, 16), (19, 16), (20, 16), (21, 16), (22, 16), (23, 16), (24, 16), (25, 21), (26, 25), (27, 25), (28, 25), (29, 25), (30, 25), (31, 25), (32, 25), (33, 25), (34, 25), (35, 25)] [] nk rfl; repeat (obtain ⟨rfl, hn⟩ := hn)
    obtain ⟨hB, hx8, hx11, hk1, hk2, hk3, hk4, hw1, hw2, hw3⟩ := hF
    have q0 := hx8.cell 0
    have q1 := hx8.cell 1
    have q2 := hx8.cell 2
    have q3 := hx8.cell 3
    have q4 := hx8.cell 4
    refine wpOp_step (o := fao7) rfl (fun K hK => ?_)
    replace hK := hid hK
    simp only [fao7, faT, selS_t, selS_f]
    go_simp
    exact hK.out _ _ (faM dm rfl rfl ⟨hB, hx8, hx11, hk1, hk2, hk3, hk4, hw1, hw2, hw3⟩)
  · obtain rfl : fao8 = o := Option.some.inj ho
    obtain rfl : b8 = false := h0
    have hn := wayP_all (o := fao8) hC h1 [(6, none), (3, some 6), (5, some 6), (4, some 5), (0, some 3), (1, some 3), (2, some 3)] [] nk rfl; repeat (obtain ⟨rfl, hn⟩ := hn)
    have hn := wayN_all hC (i := 8) rfl [(12, 8), (14, 12), (15, 14), (16, 12), (17, 16), (18, 16), (19, 16), (20, 16), (21, 16), (22, 16), (23, 16), (24, 16), (25, 21), (26, 25), (27, 25), (28, 25), (29, 25), (30, 25), (31, 25), (32, 25), (33, 25), (34, 25), (35, 25)] [] nk rfl; repeat (obtain ⟨rfl, hn⟩ := hn)
    obtain ⟨hB, hx8, hx11, hk1, hk2, hk3, hk4, hw1, hw2, hw3⟩ := hF
    refine wpOp_step (o := fao8) rfl (fun K hK => ?_)
    replace hK := hid hK
    simp only [fao8, faT, selS_t, selS_f]
    go_simp
    exact hK.out _ _ (faM dm rfl rfl ⟨hB, hx8, hx11, hk1, hk2, hk3, hk4, hw1, hw2, hw3⟩)
  · obtain rfl : fao9 = o := Option.some.inj ho
    obtain rfl : b9 = false := h0
    have hn := wayP_all (o := fao9) hC h1 [(6, none), (3, some 6), (5, some 6), (4, some 5), (0, some 3), (1, some 3), (2, some 3)] [] nk rfl; repeat (obtain ⟨rfl, hn⟩ := hn)
    have hn := wayN_all hC (i := 9) rfl [(11, 9), (12, 11), (14, 12), (15, 14), (16, 12), (17, 16), (18, 16), (19, 16), (20, 16), (21, 16), (22, 16), (23, 16), (24, 16), (25, 21), (26, 25), (27, 25), (28, 25), (29, 25), (30, 25), (31, 25), (32, 25), (33, 25), (34, 25), (35, 25)] [] nk rfl; repeat (obtain ⟨rfl, hn⟩ := hn)
    obtain ⟨hB, hx8, hx11, hk1, hk2, hk3, hk4, hw1, hw2, hw3⟩ := hF
    refine wpOp_step (o := fao9) rfl (fun K hK => ?_)
    replace hK := hid hK
    simp only [fao9, faT, selS_t, selS_f]
    go_simp
    exact hK.out _ _ (faM dm rfl rfl ⟨hB, hx8, hx11, hk1, hk2, hk3, hk4, hw1, hw2, hw3⟩)
  · obtain rfl : fao10 = o := Option.some.inj ho
    obtain rfl : b10 = false := h0
    have hn := wayP_all (o := fao10) hC h1 [(6, none), (3, some 6), (5, some 6), (4, some 5), (0, some 3), (1, some 3), (2, some 3)] [] nk rfl; repeat (obtain ⟨rfl, hn⟩ := hn)
    have hn := wayN_all hC (i := 10) rfl [(11, 10), (12, 11), (14, 12), (15, 14), (16, 12), (17, 16), (18, 16), (19, 16), (20, 16), (21, 16), (22, 16), (23, 16), (24, 16), (25, 21), (26, 25), (27, 25), (28, 25), (29, 25), (30, 25), (31, 25), (32, 25), (33, 25), (34, 25), (35, 25)] [] nk rfl; repeat (obtain ⟨rfl, hn⟩ := hn)
    obtain ⟨hB, hx8, hx11, hk1, hk2, hk3, hk4, hw1, hw2, hw3⟩ := hF
    refine wpOp_step (o := fao10) rfl (fun K hK => ?_)
    replace hK := hid hK
    simp only [fao10, faT, selS_t, selS_f]
    go_simp
    exact hK.out _ _ (faM dm rfl rfl ⟨hB, hx8, hx11, hk1, hk2, hk3, hk4, hw1, hw2, hw3⟩)
  · obtain rfl : fao11 = o := Option.some.inj ho
    obtain rfl : b11 = false := h0
    have hn := wayP_all (o := fao11) hC h1 [(10, none), (9, none), (6, none), (3, some 6), (5, some 6), (4, some 5), (0, some 3), (1, some 3), (2, some 3)] [] nk rfl; repeat (obtain ⟨rfl, hn⟩ := hn)
    have hn := wayN_all hC (i := 11) rfl [(12, 11), (14, 12), (15, 14), (16, 12), (17, 16), (18, 16), (19, 16), (20, 16), (21, 16), (22, 16), (23, 16), (24, 16), (25, 21), (26, 25), (27, 25), (28, 25), (29, 25), (30, 25), (31, 25), (32, 25), (33, 25), (34, 25), (35, 25)] [] nk rfl; repeat (obtain ⟨rfl, hn⟩ := hn)
    obtain ⟨hB, hx8, hx11, hk1, hk2, hk3, hk4, hw1, hw2, hw3⟩ := hF
    refine wpOp_step (o := fao11) rfl (fun K hK => ?_)
    replace hK := hid hK
    simp only [fao11, faT, selS_t, selS_f]
    go_simp
    exact hK.out _ _ (faM dm rfl rfl ⟨hB, hx8, hx11, hk1, hk2, hk3, hk4, hw1, hw2, hw3⟩)
  · obtain rfl : fao12 = o := Option.some.inj ho
    obtain rfl : b12 = false := h0
    have hn := wayP_all (o := fao12) hC h1 [(11, none), (8, none), (7, none), (6, none), (9, some 11), (10, some 11), (3, some 6), (5, some 6), (4, some 5), (0, some 3), (1, some 3), (2, some 3)] [] nk rfl; repeat (obtain ⟨rfl, hn⟩ := hn)
    have hn := wayN_all hC (i := 12) rfl [(14, 12), (15, 14), (16, 12), (17, 16), (18, 16), (19, 16), (20, 16), (21, 16), (22, 16), (23, 16), (24, 16), (25, 21), (26, 25), (27, 25), (28, 25), (29, 25), (30, 25), (31, 25), (32, 25), (33, 25), (34, 25), (35, 25)] [] nk rfl; repeat (obtain ⟨rfl, hn⟩ := hn)
    obtain ⟨hB, hx8, hx11, hk1, hk2, hk3, hk4, hw1, hw2, hw3⟩ := hF
    refine wpOp_step (o := fao12) rfl (fun K hK => ?_)
    replace hK := hid hK
    simp only [fao12, faT, selS_t, selS_f]
    go_simp
    refine (hk2 _ hB).mono ?_
    rintro e w2 ⟨rfl, hb2⟩
    dsimp only
    exact hK.out _ _ (faM dm rfl rfl ⟨hB.trans (hb2.mono hB.size), RowAt.nxS hb2 hx8, RowAt.nxS hb2 hx11, hk1, hk2, hk3, hk4, hw1, hw2, hw3⟩)
  · obtain rfl : fao13 = o := Option.some.inj ho
    obtain rfl : b13 = false := h0
    have hn := wayP_all (o := fao13) hC h1 [(6, none), (3, some 6), (5, some 6), (4, some 5), (0, some 3), (1, some 3), (2, some 3)] [] nk rfl; repeat (obtain ⟨rfl, hn⟩ := hn)
    have hn := wayN_all hC (i := 13) rfl [(14, 13), (15, 14), (16, 15), (17, 16), (18, 16), (19, 16), (20, 16), (21, 16), (22, 16), (23, 16), (24, 16), (25, 21), (26, 25), (27, 25), (28, 25), (29, 25), (30, 25), (31, 25), (32, 25), (33, 25), (34, 25), (35, 25)] [] nk rfl; repeat (obtain ⟨rfl, hn⟩ := hn)
    obtain ⟨hB, hx8, hx11, hk1, hk2, hk3, hk4, hw1, hw2, hw3⟩ := hF
    have q0 := hx11.cell 0
    have q1 := hx11.cell 1
    refine wpOp_step (o := fao13) rfl (fun K hK => ?_)
    replace hK := hid hK
    simp only [fao13, faT, selS_t, selS_f]
    go_simp
    exact hK.out _ _ (faM dm rfl rfl ⟨hB, hx8, hx11, hk1, hk2, hk3, hk4, hw1, hw2, hw3⟩)
  · obtain rfl : fao14 = o := Option.some.inj ho
    obtain rfl : b14 = false := h0
    have hn := wayP_all (o := fao14) hC h1 [(13, none), (12, none), (6, none), (7, some 12), (8, some 12), (11, some 12), (9, some 11), (10, some 11), (3, some 6), (5, some 6), (4, some 5), (0, some 3), (1, some 3), (2, some 3)] [] nk rfl; repeat (obtain ⟨rfl, hn⟩ := hn)
    have hn := wayN_all hC (i := 14) rfl [(15, 14), (16, 15), (17, 16), (18, 16), (19, 16), (20, 16), (21, 16), (22, 16), (23, 16), (24, 16), (25, 21), (26, 25), (27, 25), (28, 25), (29, 25), (30, 25), (31, 25), (32, 25), (33, 25), (34, 25), (35, 25)] [] nk rfl; repeat (obtain ⟨rfl, hn⟩ := hn)
    obtain ⟨hB, hx8, hx11, hk1, hk2, hk3, hk4, hw1, hw2, hw3⟩ := hF
    refine wpOp_step (o := fao14) rfl (fun K hK => ?_)
    replace hK := hid hK
    simp only [fao14, faT, selS_t, selS_f]
    go_simp
    exact hK.out _ _ (faM dm rfl rfl ⟨hB, hx8, hx11, hk1, hk2, hk3, hk4, hw1, hw2, hw3⟩)
  · obtain rfl : fao15 = o := Option.some.inj ho
    obtain rfl : b15 = false := h0
    have hn := wayP_all (o := fao15) hC h1 [(14, none), (6, none), (12, some 14), (13, some 14), (7, some 12), (8, some 12), (11, some 12), (9, some 11), (10, some 11), (3, some 6), (5, some 6), (4, some 5), (0, some 3), (1, some 3), (2, some 3)] [] nk rfl; repeat (obtain ⟨rfl, hn⟩ := hn)
    have hn := wayN_all hC (i := 15) rfl [(16, 15), (17, 16), (18, 16), (19, 16), (20, 16), (21, 16), (22, 16), (23, 16), (24, 16), (25, 21), (26, 25), (27, 25), (28, 25), (29, 25), (30, 25), (31, 25), (32, 25), (33, 25), (34, 25), (35, 25)] [] nk rfl; repeat (obtain ⟨rfl, hn⟩ := hn)
    obtain ⟨hB, hx8, hx11, hk1, hk2, hk3, hk4, hw1, hw2, hw3⟩ := hF
    refine wpOp_step (o := fao15) rfl (fun K hK => ?_)
    replace hK := hid hK
    simp only [fao15, faT, selS_t, selS_f]
    go_simp
    exact hK.out _ _ (faM dm rfl rfl ⟨hB, hx8, hx11, hk1, hk2, hk3, hk4, hw1, hw2, hw3⟩)
  · obtain rfl : fao16 = o := Option.some.inj ho
    obtain rfl : b16 = false := h0
    have hn := wayP_all (o := fao16) hC h1 [(15, none), (12, none), (6, some 15), (14, some 15), (13, some 14), (7, some 12), (8, some 12), (11, some 12), (9, some 11), (10, some 11), (3, some 6), (5, some 6), (4, some 5), (0, some 3), (1, some 3), (2, some 3)] [] nk rfl; repeat (obtain ⟨rfl, hn⟩ := hn)
    have hn := wayN_all hC (i := 16) rfl [(17, 16), (18, 16), (19, 16), (20, 16), (21, 16), (22, 16), (23, 16), (24, 16), (25, 21), (26, 25), (27, 25), (28, 25), (29, 25), (30, 25), (31, 25), (32, 25), (33, 25), (34, 25), (35, 25)] [] nk rfl; repeat (obtain ⟨rfl, hn⟩ := hn)
    obtain ⟨hB, hx8, hx11, hk1, hk2, hk3, hk4, hw1, hw2, hw3⟩ := hF
    refine wpOp_step (o := fao16) rfl (fun K hK => ?_)
    replace hK := hid hK
    simp only [fao16, faT, selS_t, selS_f]
    go_simp
    exact hK.out _ _ (faM dm rfl rfl ⟨hB, hx8, hx11, hk1, hk2, hk3, hk4, hw1, hw2, hw3⟩)
  · obtain rfl : fao17 = o := Option.some.inj ho
    obtain rfl : b17 = false := h0
    have hn := wayP_all (o := fao17) hC h1 [(16, none), (12, some 16), (15, some 16), (6, some 15), (14, some 15), (13, some 14), (7, some 12), (8, some 12), (11, some 12), (9, some 11), (10, some 11), (3, some 6), (5, some 6), (4, some 5), (0, some 3), (1, some 3), (2, some 3)] [] nk rfl; repeat (obtain ⟨rfl, hn⟩ := hn)
    have hn := wayN_all hC (i := 17) rfl [(21, 17), (22, 21), (23, 22), (24, 23), (25, 21), (26, 25), (27, 25), (28, 25), (29, 25), (30, 25), (31, 25), (32, 25), (33, 25), (34, 25), (35, 25)] [] nk rfl; repeat (obtain ⟨rfl, hn⟩ := hn)
    obtain ⟨hB, hx8, hx11, hk1, hk2, hk3, hk4, hw1, hw2, hw3⟩ := hF
    have q0 := hx8.cell 0
    have q1 := hx8.cell 1
    have q2 := hx8.cell 2
    have q3 := hx8.cell 3
    have q4 := hx8.cell 4
    refine wpOp_step (o := fao17) rfl (fun K hK => ?_)
    replace hK := hid hK
    simp only [fao17, faT, selS_t, selS_f]
    go_simp
    exact hK.out _ _ (faM dm rfl rfl ⟨hB, hx8, hx11, hk1, hk2, hk3, hk4, hw1, hw2, hw3⟩)
  · obtain rfl : fao18 = o := Option.some.inj ho
    obtain rfl : b18 = false := h0
    have hn := wayP_all (o := fao18) hC h1 [(16, none), (12, some 16), (15, some 16), (6, some 15), (14, some 15), (13, some 14), (7, some 12), (8, some 12), (11, some 12), (9, some 11), (10, some 11), (3, some 6), (5, some 6), (4, some 5), (0, some 3), (1, some 3), (2, some 3)] [] nk rfl; repeat (obtain ⟨rfl, hn⟩ := hn)
    have hn := wayN_all hC (i := 18) rfl [(21, 18), (22, 21), (23, 22), (24, 23), (25, 21), (26, 25), (27, 25), (28, 25), (29, 25), (30, 25), (31, 25), (32, 25), (33, 25), (34, 25), (35, 25)] [] nk rfl; repeat (obtain ⟨rfl, hn⟩ := hn)
    obtain ⟨hB, hx8, hx11, hk1, hk2, hk3, hk4, hw1, hw2, hw3⟩ := hF
    refine wpOp_step (o := fao18) rfl (fun K hK => ?_)
    replace hK := hid hK
    simp only [fao18, faT, selS_t, selS_f]
    go_simp
    exact hK.out _ _ (faM dm rfl rfl ⟨hB, hx8, hx11, hk1, hk2, hk3, hk4, hw1, hw2, hw3⟩)
  · obtain rfl : fao19 = o := Option.some.inj ho
    obtain rfl : b19 = false := h0
    have hn := wayP_all (o := fao19) hC h1 [(16, none), (12, some 16), (15, some 16), (6, some 15), (14, some 15), (13, some 14), (7, some 12), (8, some 12), (11, some 12), (9, some 11), (10, some 11), (3, some 6), (5, some 6), (4, some 5), (0, some 3), (1, some 3), (2, some 3)] [] nk rfl; repeat (obtain ⟨rfl, hn⟩ := hn)
    have hn := wayN_all hC (i := 19) rfl [(20, 19), (21, 20), (22, 21), (23, 22), (24, 23), (25, 21), (26, 25), (27, 25), (28, 25), (29, 25), (30, 25), (31, 25), (32, 25), (33, 25), (34, 25), (35, 25)] [] nk rfl; repeat (obtain ⟨rfl, hn⟩ := hn)
    obtain ⟨hB, hx8, hx11, hk1, hk2, hk3, hk4, hw1, hw2, hw3⟩ := hF
    refine wpOp_step (o := fao19) rfl (fun K hK => ?_)
    replace hK := hid hK
    simp only [fao19, faT, selS_t, selS_f]
    go_simp
    exact hK.out _ _ (faM dm rfl rfl ⟨hB, hx8, hx11, hk1, hk2, hk3, hk4, hw1, hw2, hw3⟩)
  · obtain rfl : fao20 = o := Option.some.inj ho
    obtain rfl : b20 = false := h0
    have hn := wayP_all (o := fao20) hC h1 [(19, none), (16, none), (12, some 16), (15, some 16), (6, some 15), (14, some 15), (13, some 14), (7, some 12), (8, some 12), (11, some 12), (9, some 11), (10, some 11), (3, some 6), (5, some 6), (4, some 5), (0, some 3), (1, some 3), (2, some 3)] [] nk rfl; repeat (obtain ⟨rfl, hn⟩ := hn)
    have hn := wayN_all hC (i := 20) rfl [(21, 20), (22, 21), (23, 22), (24, 23), (25, 21), (26, 25), (27, 25), (28, 25), (29, 25), (30, 25), (31, 25), (32, 25), (33, 25), (34, 25), (35, 25)] [] nk rfl; repeat (obtain ⟨rfl, hn⟩ := hn)
    obtain ⟨hB, hx8, hx11, hk1, hk2, hk3, hk4, hw1, hw2, hw3⟩ := hF
    refine wpOp_step (o := fao20) rfl (fun K hK => ?_)
    replace hK := hid hK
    simp only [fao20, faT, selS_t, selS_f]
    go_simp
    exact hK.out _ _ (faM dm rfl rfl ⟨hB, hx8, hx11, hk1, hk2, hk3, hk4, hw1, hw2, hw3⟩)
  · obtain rfl : fao21 = o := Option.some.inj ho
    obtain rfl : b21 = false := h0
    have hn := wayP_all (o := fao21) hC h1 [(20, none), (18, none), (17, none), (16, none), (19, some 20), (12, some 16), (15, some 16), (6, some 15), (14, some 15), (13, some 14), (7, some 12), (8, some 12), (11, some 12), (9, some 11), (10, some 11), (3, some 6), (5, some 6), (4, some 5), (0, some 3), (1, some 3), (2, some 3)] [] nk rfl; repeat (obtain ⟨rfl, hn⟩ := hn)
    have hn := wayN_all hC (i := 21) rfl [(22, 21), (23, 22), (24, 23), (25, 21), (26, 25), (27, 25), (28, 25), (29, 25), (30, 25), (31, 25), (32, 25), (33, 25), (34, 25), (35, 25)] [] nk rfl; repeat (obtain ⟨rfl, hn⟩ := hn)
    obtain ⟨hB, hx8, hx11, hk1, hk2, hk3, hk4, hw1, hw2, hw3⟩ := hF
    refine wpOp_step (o := fao21) rfl (fun K hK => ?_)
    replace hK := hid hK
    simp only [fao21, faT, selS_t, selS_f]
    go_simp
    refine (hk3 _ hB).mono ?_
    rintro e w2 ⟨rfl, hb2⟩
    dsimp only
    exact hK.out _ _ (faM dm rfl rfl ⟨hB.trans (hb2.mono hB.size), RowAt.nxS hb2 hx8, RowAt.nxS hb2 hx11, hk1, hk2, hk3, hk4, hw1, hw2, hw3⟩)
  · obtain rfl : fao22 = o := Option.some.inj ho
    obtain rfl : b22 = false := h0
    have hn := wayP_all (o := fao22) hC h1 [(21, none), (16, none), (17, some 21), (18, some 21), (20, some 21), (19, some 20), (12, some 16), (15, some 16), (6, some 15), (14, some 15), (13, some 14), (7, some 12), (8, some 12), (11, some 12), (9, some 11), (10, some 11), (3, some 6), (5, some 6), (4, some 5), (0, some 3), (1, some 3), (2, some 3)] [] nk rfl; repeat (obtain ⟨rfl, hn⟩ := hn)
    have hn := wayN_all hC (i := 22) rfl [(23, 22), (24, 23), (25, 24), (26, 25), (27, 25), (28, 25), (29, 25), (30, 25), (31, 25), (32, 25), (33, 25), (34, 25), (35, 25)] [] nk rfl; repeat (obtain ⟨rfl, hn⟩ := hn)
    obtain ⟨hB, hx8, hx11, hk1, hk2, hk3, hk4, hw1, hw2, hw3⟩ := hF
    refine wpOp_step (o := fao22) rfl (fun K hK => ?_)
    replace hK := hid hK
    simp only [fao22, faT, selS_t, selS_f]
    go_simp
    exact hK.out _ _ (faM dm rfl rfl ⟨hB, hx8, hx11, hk1, hk2, hk3, hk4, hw1, hw2, hw3⟩)
  · obtain rfl : fao23 = o := Option.some.inj ho
    obtain rfl : b23 = false := h0
    have hn := wayP_all (o := fao23) hC h1 [(22, none), (16, none), (21, some 22), (17, some 21), (18, some 21), (20, some 21), (19, some 20), (12, some 16), (15, some 16), (6, some 15), (14, some 15), (13, some 14), (7, some 12), (8, some 12), (11, some 12), (9, some 11), (10, some 11), (3, some 6), (5, some 6), (4, some 5), (0, some 3), (1, some 3), (2, some 3)] [] nk rfl; repeat (obtain ⟨rfl, hn⟩ := hn)
    have hn := wayN_all hC (i := 23) rfl [(24, 23), (25, 24), (26, 25), (27, 25), (28, 25), (29, 25), (30, 25), (31, 25), (32, 25), (33, 25), (34, 25), (35, 25)] [] nk rfl; repeat (obtain ⟨rfl, hn⟩ := hn)
    obtain ⟨hB, hx8, hx11, hk1, hk2, hk3, hk4, hw1, hw2, hw3⟩ := hF
    refine wpOp_step (o := fao23) rfl (fun K hK => ?_)
    replace hK := hid hK
    simp only [fao23, faT, selS_t, selS_f]
    go_simp
    exact hK.out _ _ (faM dm rfl rfl ⟨hB, hx8, hx11, hk1, hk2, hk3, hk4, hw1, hw2, hw3⟩)
  · obtain rfl : fao24 = o := Option.some.inj ho
    obtain rfl : b24 = false := h0
    have hn := wayP_all (o := fao24) hC h1 [(23, none), (16, none), (22, some 23), (21, some 22), (17, some 21), (18, some 21), (20, some 21), (19, some 20), (12, some 16), (15, some 16), (6, some 15), (14, some 15), (13, some 14), (7, some 12), (8, some 12), (11, some 12), (9, some 11), (10, some 11), (3, some 6), (5, some 6), (4, some 5), (0, some 3), (1, some 3), (2, some 3)] [] nk rfl; repeat (obtain ⟨rfl, hn⟩ := hn)
    have hn := wayN_all hC (i := 24) rfl [(25, 24), (26, 25), (27, 25), (28, 25), (29, 25), (30, 25), (31, 25), (32, 25), (33, 25), (34, 25), (35, 25)] [] nk rfl; repeat (obtain ⟨rfl, hn⟩ := hn)
    obtain ⟨hB, hx8, hx11, hk1, hk2, hk3, hk4, hw1, hw2, hw3⟩ := hF
    refine wpOp_step (o := fao24) rfl (fun K hK => ?_)
    replace hK := hid hK
    simp only [fao24, faT, selS_t, selS_f]
    go_simp
    exact hK.out _ _ (faM dm rfl rfl ⟨hB, hx8, hx11, hk1, hk2, hk3, hk4, hw1, hw2, hw3⟩)
  · obtain rfl : fao25 = o := Option.some.inj ho
    obtain rfl : b25 = false := h0
    have hn := wayP_all (o := fao25) hC h1 [(24, none), (21, none), (16, some 24), (23, some 24), (22, some 23), (17, some 21), (18, some 21), (20, some 21), (19, some 20), (12, some 16), (15, some 16), (6, some 15), (14, some 15), (13, some 14), (7, some 12), (8, some 12), (11, some 12), (9, some 11), (10, some 11), (3, some 6), (5, some 6), (4, some 5), (0, some 3), (1, some 3), (2, some 3)] [] nk rfl; repeat (obtain ⟨rfl, hn⟩ := hn)
    have hn := wayN_all hC (i := 25) rfl [(26, 25), (27, 25), (28, 25), (29, 25), (30, 25), (31, 25), (32, 25), (33, 25), (34, 25), (35, 25)] [] nk rfl; repeat (obtain ⟨rfl, hn⟩ := hn)
    obtain ⟨hB, hx8, hx11, hk1, hk2, hk3, hk4, hw1, hw2, hw3⟩ := hF
    refine wpOp_step (o := fao25) rfl (fun K hK => ?_)
    replace hK := hid hK
    simp only [fao25, faT, selS_t, selS_f]
    go_simp
    exact hK.out _ _ (faM dm rfl rfl ⟨hB, hx8, hx11, hk1, hk2, hk3, hk4, hw1, hw2, hw3⟩)
  · obtain rfl : fao26 = o := Option.some.inj ho
    obtain rfl : b26 = false := h0
    have hn := wayP_all (o := fao26) hC h1 [(25, none), (21, some 25), (24, some 25), (16, some 24), (23, some 24), (22, some 23), (17, some 21), (18, some 21), (20, some 21), (19, some 20), (12, some 16), (15, some 16), (6, some 15), (14, some 15), (13, some 14), (7, some 12), (8, some 12), (11, some 12), (9, some 11), (10, some 11), (3, some 6), (5, some 6), (4, some 5), (0, some 3), (1, some 3), (2, some 3)] [] nk rfl; repeat (obtain ⟨rfl, hn⟩ := hn)
    have hn := wayN_all hC (i := 26) rfl [(32, 26), (33, 32), (34, 33), (35, 34)] [] nk rfl; repeat (obtain ⟨rfl, hn⟩ := hn)
    obtain ⟨hB, hx8, hx11, hk1, hk2, hk3, hk4, hw1, hw2, hw3⟩ := hF
    have q0 := hx8.cell 0
    have q1 := hx8.cell 1
    have q2 := hx8.cell 2
    have q3 := hx8.cell 3
    have q4 := hx8.cell 4
    refine wpOp_step (o := fao26) rfl (fun K hK => ?_)
    replace hK := hid hK
    simp only [fao26, faT, selS_t, selS_f]
    go_simp
    exact hK.out _ _ (faM dm rfl rfl ⟨hB, hx8, hx11, hk1, hk2, hk3, hk4, hw1, hw2, hw3⟩)
  · obtain rfl : fao27 = o := Option.some.inj ho
    obtain rfl : b27 = false := h0
    have hn := wayP_all (o := fao27) hC h1 [(25, none), (21, some 25), (24, some 25), (16, some 24), (23, some 24), (22, some 23), (17, some 21), (18, some 21), (20, some 21), (19, some 20), (12, some 16), (15, some 16), (6, some 15), (14, some 15), (13, some 14), (7, some 12), (8, some 12), (11, some 12), (9, some 11), (10, some 11), (3, some 6), (5, some 6), (4, some 5), (0, some 3), (1, some 3), (2, some 3)] [] nk rfl; repeat (obtain ⟨rfl, hn⟩ := hn)
    have hn := wayN_all hC (i := 27) rfl [(32, 27), (33, 32), (34, 33), (35, 34)] [] nk rfl; repeat (obtain ⟨rfl, hn⟩ := hn)
    obtain ⟨hB, hx8, hx11, hk1, hk2, hk3, hk4, hw1, hw2, hw3⟩ := hF
    refine wpOp_step (o := fao27) rfl (fun K hK => ?_)
    replace hK := hid hK
    simp only [fao27, faT, selS_t, selS_f]
    go_simp
    exact hK.out _ _ (faM dm rfl rfl ⟨hB, hx8, hx11, hk1, hk2, hk3, hk4, hw1, hw2, hw3⟩)
  · obtain rfl : fao28 = o := Option.some.inj ho
    obtain rfl : b28 = false := h0
    have hn := wayP_all (o := fao28) hC h1 [(25, none), (21, some 25), (24, some 25), (16, some 24), (23, some 24), (22, some 23), (17, some 21), (18, some 21), (20, some 21), (19, some 20), (12, some 16), (15, some 16), (6, some 15), (14, some 15), (13, some 14), (7, some 12), (8, some 12), (11, some 12), (9, some 11), (10, some 11), (3, some 6), (5, some 6), (4, some 5), (0, some 3), (1, some 3), (2, some 3)] [] nk rfl; repeat (obtain ⟨rfl, hn⟩ := hn)
    have hn := wayN_all hC (i := 28) rfl [(30, 28), (31, 30), (32, 31), (33, 32), (34, 33), (35, 34)] [] nk rfl; repeat (obtain ⟨rfl, hn⟩ := hn)
    obtain ⟨hB, hx8, hx11, hk1, hk2, hk3, hk4, hw1, hw2, hw3⟩ := hF
    refine wpOp_step (o := fao28) rfl (fun K hK => ?_)
    replace hK := hid hK
    simp only [fao28, faT, selS_t, selS_f]
    go_simp
    exact hK.out _ _ (faM dm rfl rfl ⟨hB, hx8, hx11, hk1, hk2, hk3, hk4, hw1, hw2, hw3⟩)
  · obtain rfl : fao29 = o := Option.some.inj ho
    obtain rfl : b29 = false := h0
    have hn := wayP_all (o := fao29) hC h1 [(25, none), (21, some 25), (24, some 25), (16, some 24), (23, some 24), (22, some 23), (17, some 21), (18, some 21), (20, some 21), (19, some 20), (12, some 16), (15, some 16), (6, some 15), (14, some 15), (13, some 14), (7, some 12), (8, some 12), (11, some 12), (9, some 11), (10, some 11), (3, some 6), (5, some 6), (4, some 5), (0, some 3), (1, some 3), (2, some 3)] [] nk rfl; repeat (obtain ⟨rfl, hn⟩ := hn)
    have hn := wayN_all hC (i := 29) rfl [(30, 29), (31, 30), (32, 31), (33, 32), (34, 33), (35, 34)] [] nk rfl; repeat (obtain ⟨rfl, hn⟩ := hn)
    obtain ⟨hB, hx8, hx11, hk1, hk2, hk3, hk4, hw1, hw2, hw3⟩ := hF
    refine wpOp_step (o := fao29) rfl (fun K hK => ?_)
    replace hK := hid hK
    simp only [fao29, faT, selS_t, selS_f]
    go_simp
    exact hK.out _ _ (faM dm rfl rfl ⟨hB, hx8, hx11, hk1, hk2, hk3, hk4, hw1, hw2, hw3⟩)
  · obtain rfl : fao30 = o := Option.some.inj ho
    obtain rfl : b30 = false := h0
    have hn := wayP_all (o := fao30) hC h1 [(29, none), (28, none), (25, none), (21, some 25), (24, some 25), (16, some 24), (23, some 24), (22, some 23), (17, some 21), (18, some 21), (20, some 21), (19, some 20), (12, some 16), (15, some 16), (6, some 15), (14, some 15), (13, some 14), (7, some 12), (8, some 12), (11, some 12), (9, some 11), (10, some 11), (3, some 6), (5, some 6), (4, some 5), (0, some 3), (1, some 3), (2, some 3)] [] nk rfl; repeat (obtain ⟨rfl, hn⟩ := hn)
    have hn := wayN_all hC (i := 30) rfl [(31, 30), (32, 31), (33, 32), (34, 33), (35, 34)] [] nk rfl; repeat (obtain ⟨rfl, hn⟩ := hn)
    obtain ⟨hB, hx8, hx11, hk1, hk2, hk3, hk4, hw1, hw2, hw3⟩ := hF
    refine wpOp_step (o := fao30) rfl (fun K hK => ?_)
    replace hK := hid hK
    simp only [fao30, faT, selS_t, selS_f]
    go_simp
    exact hK.out _ _ (faM dm rfl rfl ⟨hB, hx8, hx11, hk1, hk2, hk3, hk4, hw1, hw2, hw3⟩)
  · obtain rfl : fao31 = o := Option.some.inj ho
    obtain rfl : b31 = false := h0
    have hn := wayP_all (o := fao31) hC h1 [(30, none), (25, none), (28, some 30), (29, some 30), (21, some 25), (24, some 25), (16, some 24), (23, some 24), (22, some 23), (17, some 21), (18, some 21), (20, some 21), (19, some 20), (12, some 16), (15, some 16), (6, some 15), (14, some 15), (13, some 14), (7, some 12), (8, some 12), (11, some 12), (9, some 11), (10, some 11), (3, some 6), (5, some 6), (4, some 5), (0, some 3), (1, some 3), (2, some 3)] [] nk rfl; repeat (obtain ⟨rfl, hn⟩ := hn)
    have hn := wayN_all hC (i := 31) rfl [(32, 31), (33, 32), (34, 33), (35, 34)] [] nk rfl; repeat (obtain ⟨rfl, hn⟩ := hn)
    obtain ⟨hB, hx8, hx11, hk1, hk2, hk3, hk4, hw1, hw2, hw3⟩ := hF
    refine wpOp_step (o := fao31) rfl (fun K hK => ?_)
    replace hK := hid hK
    simp only [fao31, faT, selS_t, selS_f]
    go_simp
    exact hK.out _ _ (faM dm rfl rfl ⟨hB, hx8, hx11, hk1, hk2, hk3, hk4, hw1, hw2, hw3⟩)
  · obtain rfl : fao32 = o := Option.some.inj ho
    obtain rfl : b32 = false := h0
    have hn := wayP_all (o := fao32) hC h1 [(31, none), (27, none), (26, none), (25, none), (30, some 31), (28, some 30), (29, some 30), (21, some 25), (24, some 25), (16, some 24), (23, some 24), (22, some 23), (17, some 21), (18, some 21), (20, some 21), (19, some 20), (12, some 16), (15, some 16), (6, some 15), (14, some 15), (13, some 14), (7, some 12), (8, some 12), (11, some 12), (9, some 11), (10, some 11), (3, some 6), (5, some 6), (4, some 5), (0, some 3), (1, some 3), (2, some 3)] [] nk rfl; repeat (obtain ⟨rfl, hn⟩ := hn)
    have hn := wayN_all hC (i := 32) rfl [(33, 32), (34, 33), (35, 34)] [] nk rfl; repeat (obtain ⟨rfl, hn⟩ := hn)
    obtain ⟨hB, hx8, hx11, hk1, hk2, hk3, hk4, hw1, hw2, hw3⟩ := hF
    refine wpOp_step (o := fao32) rfl (fun K hK => ?_)
    replace hK := hid hK
    simp only [fao32, faT, selS_t, selS_f]
    go_simp
    refine (hk4 _ hB).mono ?_
    rintro e w2 ⟨rfl, hb2⟩
    dsimp only
    exact hK.out _ _ (faM dm rfl rfl ⟨hB.trans (hb2.mono hB.size), RowAt.nxS hb2 hx8, RowAt.nxS hb2 hx11, hk1, hk2, hk3, hk4, hw1, hw2, hw3⟩)
  · obtain rfl : fao33 = o := Option.some.inj ho
    obtain rfl : b33 = false := h0
    have hn := wayP_all (o := fao33) hC h1 [(32, none), (25, none), (26, some 32), (27, some 32), (31, some 32), (30, some 31), (28, some 30), (29, some 30), (21, some 25), (24, some 25), (16, some 24), (23, some 24), (22, some 23), (17, some 21), (18, some 21), (20, some 21), (19, some 20), (12, some 16), (15, some 16), (6, some 15), (14, some 15), (13, some 14), (7, some 12), (8, some 12), (11, some 12), (9, some 11), (10, some 11), (3, some 6), (5, some 6), (4, some 5), (0, some 3), (1, some 3), (2, some 3)] [] nk rfl; repeat (obtain ⟨rfl, hn⟩ := hn)
    have hn := wayN_all hC (i := 33) rfl [(34, 33), (35, 34)] [] nk rfl; repeat (obtain ⟨rfl, hn⟩ := hn)
    obtain ⟨hB, hx8, hx11, hk1, hk2, hk3, hk4, hw1, hw2, hw3⟩ := hF
    refine wpOp_step (o := fao33) rfl (fun K hK => ?_)
    replace hK := hid hK
    simp only [fao33, faT, selS_t, selS_f]
    go_simp
    exact hK.out _ _ (faM dm rfl rfl ⟨hB, hx8, hx11, hk1, hk2, hk3, hk4, hw1, hw2, hw3⟩)
  · obtain rfl : fao34 = o := Option.some.inj ho
    obtain rfl : b34 = false := h0
    have hn := wayP_all (o := fao34) hC h1 [(33, none), (25, none), (32, some 33), (26, some 32), (27, some 32), (31, some 32), (30, some 31), (28, some 30), (29, some 30), (21, some 25), (24, some 25), (16, some 24), (23, some 24), (22, some 23), (17, some 21), (18, some 21), (20, some 21), (19, some 20), (12, some 16), (15, some 16), (6, some 15), (14, some 15), (13, some 14), (7, some 12), (8, some 12), (11, some 12), (9, some 11), (10, some 11), (3, some 6), (5, some 6), (4, some 5), (0, some 3), (1, some 3), (2, some 3)] [] nk rfl; repeat (obtain ⟨rfl, hn⟩ := hn)
    have hn := wayN_all hC (i := 34) rfl [(35, 34)] [] nk rfl; repeat (obtain ⟨rfl, hn⟩ := hn)
    obtain ⟨hB, hx8, hx11, hk1, hk2, hk3, hk4, hw1, hw2, hw3⟩ := hF
    refine wpOp_step (o := fao34) rfl (fun K hK => ?_)
    replace hK := hid hK
    simp only [fao34, faT, selS_t, selS_f]
    go_simp
    exact hK.out _ _ (faM dm rfl rfl ⟨hB, hx8, hx11, hk1, hk2, hk3, hk4, hw1, hw2, hw3⟩)
  · obtain rfl : fao35 = o := Option.some.inj ho
    obtain rfl : b35 = false := h0
    have hn := wayP_all (o := fao35) hC h1 [(34, none), (25, none), (33, some 34), (32, some 33), (26, some 32), (27, some 32), (31, some 32), (30, some 31), (28, some 30), (29, some 30), (21, some 25), (24, some 25), (16, some 24), (23, some 24), (22, some 23), (17, some 21), (18, some 21), (20, some 21), (19, some 20), (12, some 16), (15, some 16), (6, some 15), (14, some 15), (13, some 14), (7, some 12), (8, some 12), (11, some 12), (9, some 11), (10, some 11), (3, some 6), (5, some 6), (4, some 5), (0, some 3), (1, some 3), (2, some 3)] [] nk rfl; repeat (obtain ⟨rfl, hn⟩ := hn)
    obtain ⟨hB, hx8, hx11, hk1, hk2, hk3, hk4, hw1, hw2, hw3⟩ := hF
    refine wpOp_step (o := fao35) rfl (fun K hK => ?_)
    replace hK := hid hK
    simp only [fao35, faT, selS_t, selS_f]
    go_simp
    exact hK.out _ _ (faM dm rfl rfl ⟨hB, hx8, hx11, hk1, hk2, hk3, hk4, hw1, hw2, hw3⟩)
set_option maxRecDepth 20000 in
set_option maxHeartbeats 4000000 in
theorem fa_wp {Q : Exit → Act → World → Prop} {rid : Nat} (w0 : World) (X8 X11 XK : Nat) (mt pt bd id : ByteArray) (a1 : Option Addr) (n1 c1 : Nat) (a2 : Option Addr) (n2 c2 : Nat) (nw ls S1 S2 S3 : Int) {sa sb sc sd se sf sk so sp sq sr ss su sv sw sx sy sz ta tb tc td te tf tg th ti tj tk tl tm tn tp tr tt tu tv tw tx ty tz ua ub uc ud ue uf ug uh ui uj uk ul um un uo up uq ur us ut uu uv uw ux uy uz va vb vc vd ve vf vg vh vi vj vk vl vm vn vo vp vq vr vs vt vu vv vw vx vy vz xa xb xc xd xe xf xg xh xi xj xk : Value} (w : World) (hB : Below w0.heap.size w0 w) (hx8 : RowAt w X8 25 #[.string mt, .string pt, .slice a1 n1 c1, .slice a2 n2 c2, .string bd]) (hx11 : RowAt w X11 35 #[.int .i64 0, .string id]) (hk1 : ∀ wx, Below w0.heap.size w0 wx → Calls Tryz.prog 11 #[.agg #[.string mt, .string pt, .slice a1 n1 c1, .slice a2 n2 c2, .string bd], .slice (some ⟨XK, 0, none⟩) 1 1, .int .i64 nw] wx fun e w' => e = .returned (.agg #[.int .i64 0, .string id]) ∧ Below wx.heap.size wx w') (hk2 : ∀ wx, Below w0.heap.size w0 wx → Calls Tryz.prog 11 #[.agg #[.string mt, .string pt, .slice a1 n1 c1, .slice a2 n2 c2, .string bd], .slice (some ⟨XK, 0, none⟩) 1 1, .int .i64 S1] wx fun e w' => e = .returned (.agg #[.int .i64 0, .string id]) ∧ Below wx.heap.size wx w') (hk3 : ∀ wx, Below w0.heap.size w0 wx → Calls Tryz.prog 11 #[.agg #[.string mt, .string pt, .slice a1 n1 c1, .slice a2 n2 c2, .string bd], .slice (some ⟨XK, 0, none⟩) 1 1, .int .i64 S2] wx fun e w' => e = .returned (.agg #[.int .i64 13, .string ⟨#[]⟩]) ∧ Below wx.heap.size wx w') (hk4 : ∀ wx, Below w0.heap.size w0 wx → Calls Tryz.prog 11 #[.agg #[.string mt, .string pt, .slice a1 n1 c1, .slice a2 n2 c2, .string bd], .slice (some ⟨XK, 0, none⟩) 1 1, .int .i64 S3] wx fun e w' => e = .returned (.agg #[.int .i64 13, .string ⟨#[]⟩]) ∧ Below wx.heap.size wx w') (hw1 : IntKind.i64.wrap (nw + ls) = S1) (hw2 : IntKind.i64.wrap (nw - 1) = S2) (hw3 : IntKind.i64.wrap (S1 + 1) = S3)
    (fin : ∀ (dm : Nat) (w' : World), (Below w0.heap.size w0 w') → (RowAt w' X8 25 #[.string mt, .string pt, .slice a1 n1 c1, .slice a2 n2 c2, .string bd]) → (RowAt w' X11 35 #[.int .i64 0, .string id]) → (∀ wx, Below w0.heap.size w0 wx → Calls Tryz.prog 11 #[.agg #[.string mt, .string pt, .slice a1 n1 c1, .slice a2 n2 c2, .string bd], .slice (some ⟨XK, 0, none⟩) 1 1, .int .i64 nw] wx fun e w' => e = .returned (.agg #[.int .i64 0, .string id]) ∧ Below wx.heap.size wx w') → (∀ wx, Below w0.heap.size w0 wx → Calls Tryz.prog 11 #[.agg #[.string mt, .string pt, .slice a1 n1 c1, .slice a2 n2 c2, .string bd], .slice (some ⟨XK, 0, none⟩) 1 1, .int .i64 S1] wx fun e w' => e = .returned (.agg #[.int .i64 0, .string id]) ∧ Below wx.heap.size wx w') → (∀ wx, Below w0.heap.size w0 wx → Calls Tryz.prog 11 #[.agg #[.string mt, .string pt, .slice a1 n1 c1, .slice a2 n2 c2, .string bd], .slice (some ⟨XK, 0, none⟩) 1 1, .int .i64 S2] wx fun e w' => e = .returned (.agg #[.int .i64 13, .string ⟨#[]⟩]) ∧ Below wx.heap.size wx w') → (∀ wx, Below w0.heap.size w0 wx → Calls Tryz.prog 11 #[.agg #[.string mt, .string pt, .slice a1 n1 c1, .slice a2 n2 c2, .string bd], .slice (some ⟨XK, 0, none⟩) 1 1, .int .i64 S3] wx fun e w' => e = .returned (.agg #[.int .i64 13, .string ⟨#[]⟩]) ∧ Below wx.heap.size wx w') → (IntKind.i64.wrap (nw + ls) = S1) → (IntKind.i64.wrap (nw - 1) = S2) → (IntKind.i64.wrap (S1 + 1) = S3) → Q .normal { tmps := #[sa, sb, sc, sd, se, sf, .int .i64 nw, .int .i64 ls, .pointer (some ⟨X8, 0, none⟩), sk, .slice (some ⟨XK, 0, none⟩) 1 1, .pointer (some ⟨X11, 0, none⟩), so, sp, sq, sr, ss, su, sv, sw, sx, sy, sz, ta, tb, tc, td, te, tf, tg, th, ti, tj, tk, tl, tm, tn, tp, tr, tt, tu, tv, tw, tx, ty, tz, ua, ub, .agg #[.string mt, .string pt, .slice a1 n1 c1, .slice a2 n2 c2, .string bd], .slice (some ⟨XK, 0, none⟩) 1 1, .int .i64 nw, .agg #[.int .i64 0, .string id], .agg #[.int .i64 0, .string id], .bool false, .bool false, .agg #[.string mt, .string pt, .slice a1 n1 c1, .slice a2 n2 c2, .string bd], .slice (some ⟨XK, 0, none⟩) 1 1, .int .i64 nw, .int .i64 ls, .int .i64 S1, .agg #[.int .i64 0, .string id], .agg #[.int .i64 0, .string id], .bool false, .bool false, .bool false, .agg #[.string mt, .string pt, .slice a1 n1 c1, .slice a2 n2 c2, .string bd], .slice (some ⟨XK, 0, none⟩) 1 1, .int .i64 nw, .int .i64 S2, .agg #[.int .i64 13, .string ⟨#[]⟩], .int .i64 13, .bool false, .bool false, .bool false, .agg #[.string mt, .string pt, .slice a1 n1 c1, .slice a2 n2 c2, .string bd], .slice (some ⟨XK, 0, none⟩) 1 1, .int .i64 nw, .int .i64 ls, .int .i64 S1, .int .i64 S3, .agg #[.int .i64 13, .string ⟨#[]⟩], .int .i64 13, .bool false, .bool false, vm, vn, vo, vp, vq, vr, vs, vt, vu, vv, vw, vx, vy, vz, xa, xb, xc, xd, xe, xf, xg, xh, xi, xj, xk], defers := [] } w') :
    (Code.region rid faO true).wp Tryz.prog Q { tmps := #[sa, sb, sc, sd, se, sf, .int .i64 nw, .int .i64 ls, .pointer (some ⟨X8, 0, none⟩), sk, .slice (some ⟨XK, 0, none⟩) 1 1, .pointer (some ⟨X11, 0, none⟩), so, sp, sq, sr, ss, su, sv, sw, sx, sy, sz, ta, tb, tc, td, te, tf, tg, th, ti, tj, tk, tl, tm, tn, tp, tr, tt, tu, tv, tw, tx, ty, tz, ua, ub, uc, ud, ue, uf, ug, uh, ui, uj, uk, ul, um, un, uo, up, uq, ur, us, ut, uu, uv, uw, ux, uy, uz, va, vb, vc, vd, ve, vf, vg, vh, vi, vj, vk, vl, vm, vn, vo, vp, vq, vr, vs, vt, vu, vv, vw, vx, vy, vz, xa, xb, xc, xd, xe, xf, xg, xh, xi, xj, xk], defers := [] } w := by
  refine wp_region_inv (ops := faO) (faI ⟨w0, X8, X11, XK, mt, pt, bd, id, a1, n1, c1, a2, n2, c2, nw, ls, S1, S2, S3, sa, sb, sc, sd, se, sf, sk, so, sp, sq, sr, ss, su, sv, sw, sx, sy, sz, ta, tb, tc, td, te, tf, tg, th, ti, tj, tk, tl, tm, tn, tp, tr, tt, tu, tv, tw, tx, ty, tz, ua, ub, uc, ud, ue, uf, ug, uh, ui, uj, uk, ul, um, un, uo, up, uq, ur, us, ut, uu, uv, uw, ux, uy, uz, va, vb, vc, vd, ve, vf, vg, vh, vi, vj, vk, vl, vm, vn, vo, vp, vq, vr, vs, vt, vu, vv, vw, vx, vy, vz, xa, xb, xc, xd, xe, xf, xg, xh, xi, xj, xk⟩) (by kernel_rfl) (by kernel_rfl) (fun l f v hI => ?_) (fun l f v hC hI i h0 o ho h1 => fa_step ⟨w0, X8, X11, XK, mt, pt, bd, id, a1, n1, c1, a2, n2, c2, nw, ls, S1, S2, S3, sa, sb, sc, sd, se, sf, sk, so, sp, sq, sr, ss, su, sv, sw, sx, sy, sz, ta, tb, tc, td, te, tf, tg, th, ti, tj, tk, tl, tm, tn, tp, tr, tt, tu, tv, tw, tx, ty, tz, ua, ub, uc, ud, ue, uf, ug, uh, ui, uj, uk, ul, um, un, uo, up, uq, ur, us, ut, uu, uv, uw, ux, uy, uz, va, vb, vc, vd, ve, vf, vg, vh, vi, vj, vk, vl, vm, vn, vo, vp, vq, vr, vs, vt, vu, vv, vw, vx, vy, vz, xa, xb, xc, xd, xe, xf, xg, xh, xi, xj, xk⟩ l f v hC hI i h0 o ho h1) (fun l f v hI hall => ?_) ?_
  · obtain ⟨_, _, _, _, _, _, _, _, _, _, _, _, _, _, _, _, _, _, _, _, _, _, _, _, _, _, _, _, _, _, _, _, _, _, _, _, _, rfl, _⟩ := hI; rfl
  · obtain ⟨b0, b1, b2, b3, b4, b5, b6, b7, b8, b9, b10, b11, b12, b13, b14, b15, b16, b17, b18, b19, b20, b21, b22, b23, b24, b25, b26, b27, b28, b29, b30, b31, b32, b33, b34, b35, dm, rfl, rfl, hB, hx8, hx11, hk1, hk2, hk3, hk4, hw1, hw2, hw3⟩ := hI
    have hn := allT hall [0, 1, 2, 3, 4, 5, 6, 7, 8, 9, 10, 11, 12, 13, 14, 15, 16, 17, 18, 19, 20, 21, 22, 23, 24, 25, 26, 27, 28, 29, 30, 31, 32, 33, 34, 35] rfl; repeat (obtain ⟨rfl, hn⟩ := hn)
    exact fin dm v hB hx8 hx11 hk1 hk2 hk3 hk4 hw1 hw2 hw3
  · exact ⟨false, false, false, false, false, false, false, false, false, false, false, false, false, false, false, false, false, false, false, false, false, false, false, false, false, false, false, false, false, false, false, false, false, false, false, false, 0, rfl, rfl, hB.drew, hx8.drew, hx11.drew, hk1, hk2, hk3, hk4, hw1, hw2, hw3⟩
end Go.Proofs.YtepdodifgkejjaaGreatDoor
namespace Go.Proofs.YtepdodifgkejjaaGreatDoor
open Go.RowKit
set_option linter.unusedVariables false
def fbo0 : Oper := ⟨some 84, .fieldAddr 27 (.tmp 4) 0, 0, "laws.go:783", #[], none⟩
def fbo1 : Oper := ⟨some 85, .load 9 (.tmp 84), 9, "laws.go:783", #[⟨0, .data⟩], none⟩
def fbo2 : Oper := ⟨some 86, .fieldAddr 27 (.tmp 4) 1, 0, "laws.go:783", #[], none⟩
def fbo3 : Oper := ⟨some 87, .load 9 (.tmp 86), 9, "laws.go:783", #[⟨2, .data⟩], none⟩
def fbo4 : Oper := ⟨some 88, .move (.tmp 6), 2, "laws.go:783", #[], none⟩
def fbo5 : Oper := ⟨some 89, .binOp .rem 2 (.tmp 88) (.const (.int .i64 100)) 2, 2, "laws.go:783", #[⟨4, .data⟩], none⟩
def fbo6 : Oper := ⟨some 90, .move (.tmp 7), 2, "laws.go:783", #[], none⟩
def fbo7 : Oper := ⟨some 91, .binOp .rem 2 (.tmp 90) (.const (.int .i64 100)) 2, 2, "laws.go:783", #[⟨6, .data⟩], none⟩
def fbo8 : Oper := ⟨some 92, .call { callee := .value (.func 12), args := #[.tmp 87, .tmp 89, .tmp 91], argTypes := #[9, 2, 2] }, 9, "laws.go:783", #[⟨3, .data⟩, ⟨5, .data⟩, ⟨7, .data⟩], none⟩
def fbo9 : Oper := ⟨some 93, .build 27 #[(0, .tmp 85), (1, .tmp 92)], 27, "laws.go:783", #[⟨1, .data⟩, ⟨8, .data⟩], none⟩
def fbo10 : Oper := ⟨some 12, .alloc 27, 0, "laws.go:783", #[], none⟩
def fbo11 : Oper := ⟨none, .store 27 (.tmp 12) (.tmp 93), 0, "laws.go:783", #[⟨10, .data⟩, ⟨9, .data⟩, ⟨8, .chain⟩, ⟨0, .phase⟩, ⟨1, .phase⟩, ⟨2, .phase⟩, ⟨3, .phase⟩, ⟨4, .phase⟩, ⟨5, .phase⟩, ⟨6, .phase⟩, ⟨7, .phase⟩, ⟨8, .phase⟩, ⟨9, .phase⟩, ⟨10, .phase⟩], none⟩
def fbO : Array Oper := #[fbo0, fbo1, fbo2, fbo3, fbo4, fbo5, fbo6, fbo7, fbo8, fbo9, fbo10, fbo11]
structure fbP where
  (w0 : World)
  (X4 r1 r2 : Nat)
  (id sec : ByteArray)
  (nw ls : Int)
  (sa sb sc sd sf sj sk sm sn so sp sq sr ss su sv sw sx sy sz ta tb tc td te tf tg th ti tj tk tl tm tn tp tr tt tu tv tw tx ty tz ua ub uc ud ue uf ug uh ui uj uk ul um un uo up uq ur us ut uu uv uw ux uy uz va vb vc vd ve vf vg vh vi vj vk vl vm vn vo vp vq vr vs vt vu vv vw vx vy vz xa xb xc xd xe xf xg xh xi xj xk : Value)
def fbT (P : fbP) (t8 : ByteArray) (XO : Nat) (b0 b1 b2 b3 b4 b5 b6 b7 b8 b9 b10 b11 : Bool) : Array Value := #[P.sa, P.sb, P.sc, P.sd, .pointer (some ⟨P.X4, 0, none⟩), P.sf, .int .i64 P.nw, .int .i64 P.ls, P.sj, P.sk, P.sm, P.sn, selS b10 (.pointer (some ⟨XO, 0, none⟩)) (P.so), P.sp, P.sq, P.sr, P.ss, P.su, P.sv, P.sw, P.sx, P.sy, P.sz, P.ta, P.tb, P.tc, P.td, P.te, P.tf, P.tg, P.th, P.ti, P.tj, P.tk, P.tl, P.tm, P.tn, P.tp, P.tr, P.tt, P.tu, P.tv, P.tw, P.tx, P.ty, P.tz, P.ua, P.ub, P.uc, P.ud, P.ue, P.uf, P.ug, P.uh, P.ui, P.uj, P.uk, P.ul, P.um, P.un, P.uo, P.up, P.uq, P.ur, P.us, P.ut, P.uu, P.uv, P.uw, P.ux, P.uy, P.uz, P.va, P.vb, P.vc, P.vd, P.ve, P.vf, P.vg, P.vh, P.vi, P.vj, P.vk, P.vl, selS b0 (.pointer (some ⟨P.X4, 0, none⟩)) (P.vm), selS b1 (.string P.id) (P.vn), selS b2 (.pointer (some ⟨P.X4, 1, none⟩)) (P.vo), selS b3 (.string P.sec) (P.vp), selS b4 (.int .i64 P.nw) (P.vq), selS b5 (.int .i64 (P.r1 : Int)) (P.vr), selS b6 (.int .i64 P.ls) (P.vs), selS b7 (.int .i64 (P.r2 : Int)) (P.vt), selS b8 (.string t8) (P.vu), selS b9 (.agg #[.string P.id, .string t8]) (P.vv), P.vw, P.vx, P.vy, P.vz, P.xa, P.xb, P.xc, P.xd, P.xe, P.xf, P.xg, P.xh, P.xi, P.xj, P.xk]
def fbF (P : fbP) (t8 : ByteArray) (XO : Nat) (b0 b1 b2 b3 b4 b5 b6 b7 b8 b9 b10 b11 : Bool) (w : World) : Prop := (Below P.w0.heap.size P.w0 w) ∧ (RowAt w P.X4 27 #[.string P.id, .string P.sec]) ∧ (P.X4 < P.w0.heap.size) ∧ (Int.tmod P.nw 100 = (P.r1 : Int)) ∧ (Int.tmod P.ls 100 = (P.r2 : Int)) ∧ (∀ wx, Below P.w0.heap.size P.w0 wx → Calls Tryz.prog 12 #[.string P.sec, .int .i64 (P.r1 : Int), .int .i64 (P.r2 : Int)] wx fun e w' => (∃ (k : Nat) (d : UInt8), ∃ h : k < P.sec.size, d ≠ P.sec[k] ∧ e = .returned (.string ⟨(turned P.sec k d).toArray⟩)) ∧ Below wx.heap.size wx w') ∧ (b8 = true → ∃ (k : Nat) (d : UInt8), ∃ h : k < P.sec.size, d ≠ P.sec[k] ∧ t8 = ⟨(turned P.sec k d).toArray⟩) ∧ (b10 = true → RowAt w XO 27 (cond b11 #[.string P.id, .string t8] #[.string ⟨#[]⟩, .string ⟨#[]⟩]) ∧ P.w0.heap.size ≤ XO)
def fbI (P : fbP) (l : Array Bool) (f : Act) (w : World) : Prop :=
  ∃ (b0 b1 b2 b3 b4 b5 b6 b7 b8 b9 b10 b11 : Bool) (t8 : ByteArray) (XO : Nat), l = #[b0, b1, b2, b3, b4, b5, b6, b7, b8, b9, b10, b11] ∧ f = { tmps := fbT P t8 XO b0 b1 b2 b3 b4 b5 b6 b7 b8 b9 b10 b11, defers := [] } ∧ fbF P t8 XO b0 b1 b2 b3 b4 b5 b6 b7 b8 b9 b10 b11 w
theorem fbM {P : fbP} {b0 b1 b2 b3 b4 b5 b6 b7 b8 b9 b10 b11 : Bool} (t8 : ByteArray) (XO : Nat) {l : Array Bool} {f : Act} {w : World} (hl : l = #[b0, b1, b2, b3, b4, b5, b6, b7, b8, b9, b10, b11]) (hf : f = { tmps := fbT P t8 XO b0 b1 b2 b3 b4 b5 b6 b7 b8 b9 b10 b11, defers := [] }) (h : fbF P t8 XO b0 b1 b2 b3 b4 b5 b6 b7 b8 b9 b10 b11 w) : fbI P l f w := ⟨b0, b1, b2, b3, b4, b5, b6, b7, b8, b9, b10, b11, t8, XO, hl, hf, h⟩
set_option maxRecDepth 20000 in
set_option maxHeartbeats 20000000 in
theorem fb_step {Q : Exit → Act → World → Prop} (P : fbP) (l : Array Bool) (f : Act) (w : World) (hC : Closed fbO l) (hI : fbI P l f w) (i : Nat) (h0 : l.getD i true = false) (o : Oper) (ho : fbO[i]? = some o) (h1 : ∀ e ∈ o.after, Region.binds .any e = true → l.getD e.on false = true) : wpOp Tryz.prog fbO Q i (fbI P (l.setIfInBounds i true)) f w := by
  obtain ⟨b0, b1, b2, b3, b4, b5, b6, b7, b8, b9, b10, b11, t8, XO, rfl, rfl, hF⟩ := hI
  have hi : i < 12 := by
    rcases Nat.lt_or_ge i 12 with h | h
    · exact h
    · rw [show fbO[i]? = none from Array.getElem?_eq_none h] at ho; cases ho
  rcases (by omega : i = 0 ∨ i = 1 ∨ i = 2 ∨ i = 3 ∨ i = 4 ∨ i = 5 ∨ i = 6 ∨ i = 7 ∨ i = 8 ∨ i = 9 ∨ i = 10 ∨ i = 11) with rfl | rfl | rfl | rfl | rfl | rfl | rfl | rfl | rfl | rfl | rfl | rfl
  · obtain rfl : fbo0 = o := Option.some.inj ho
    obtain rfl : b0 = false := h0
    have hn := wayN_all hC (i := 0) rfl [(1, 0), (9, 1), (11, 0)] [] nk rfl; repeat (obtain ⟨rfl, hn⟩ := hn)
    obtain ⟨hB, hx4, hxl, hm1, hm2, hkt, ht8, hXO⟩ := hF
    refine wpOp_step (o := fbo0) rfl (fun K hK => ?_)
    replace hK := hid hK
    simp only [fbo0, fbT, selS_f]
    go_simp
    exact hK.out _ _ (fbM t8 XO rfl rfl ⟨hB, hx4, hxl, hm1, hm2, hkt, ht8, hXO⟩)
  · obtain rfl : fbo1 = o := Option.some.inj ho
    obtain rfl : b1 = false := h0
    have hn := wayP_all (o := fbo1) hC h1 [(0, none)] [] nk rfl; repeat (obtain ⟨rfl, hn⟩ := hn)
    have hn := wayN_all hC (i := 1) rfl [(9, 1), (11, 1)] [] nk rfl; repeat (obtain ⟨rfl, hn⟩ := hn)
    obtain ⟨hB, hx4, hxl, hm1, hm2, hkt, ht8, hXO⟩ := hF
    have q0 := hx4.cell 0
    have q1 := hx4.cell 1
    refine wpOp_step (o := fbo1) rfl (fun K hK => ?_)
    replace hK := hid hK
    simp only [fbo1, fbT, selS_t, selS_f]
    go_simp
    exact hK.out _ _ (fbM t8 XO rfl rfl ⟨hB, hx4, hxl, hm1, hm2, hkt, ht8, hXO⟩)
  · obtain rfl : fbo2 = o := Option.some.inj ho
    obtain rfl : b2 = false := h0
    have hn := wayN_all hC (i := 2) rfl [(3, 2), (8, 3), (9, 8), (11, 2)] [] nk rfl; repeat (obtain ⟨rfl, hn⟩ := hn)
    obtain ⟨hB, hx4, hxl, hm1, hm2, hkt, ht8, hXO⟩ := hF
    refine wpOp_step (o := fbo2) rfl (fun K hK => ?_)
    replace hK := hid hK
    simp only [fbo2, fbT, selS_f]
    go_simp
    exact hK.out _ _ (fbM t8 XO rfl rfl ⟨hB, hx4, hxl, hm1, hm2, hkt, fun h => Bool.noConfusion h, hXO⟩)
  · obtain rfl : fbo3 = o := Option.some.inj ho
    obtain rfl : b3 = false := h0
    have hn := wayP_all (o := fbo3) hC h1 [(2, none)] [] nk rfl; repeat (obtain ⟨rfl, hn⟩ := hn)
    have hn := wayN_all hC (i := 3) rfl [(8, 3), (9, 8), (11, 3)] [] nk rfl; repeat (obtain ⟨rfl, hn⟩ := hn)
    obtain ⟨hB, hx4, hxl, hm1, hm2, hkt, ht8, hXO⟩ := hF
    have q0 := hx4.cell 0
    have q1 := hx4.cell 1
    refine wpOp_step (o := fbo3) rfl (fun K hK => ?_)
    replace hK := hid hK
    simp only [fbo3, fbT, selS_t, selS_f]
    go_simp
    exact hK.out _ _ (fbM t8 XO rfl rfl ⟨hB, hx4, hxl, hm1, hm2, hkt, fun h => Bool.noConfusion h, hXO⟩)
  · obtain rfl : fbo4 = o := Option.some.inj ho
    obtain rfl : b4 = false := h0
    have hn := wayN_all hC (i := 4) rfl [(5, 4), (8, 5), (9, 8), (11, 4)] [] nk rfl; repeat (obtain ⟨rfl, hn⟩ := hn)
    obtain ⟨hB, hx4, hxl, hm1, hm2, hkt, ht8, hXO⟩ := hF
    refine wpOp_step (o := fbo4) rfl (fun K hK => ?_)
    replace hK := hid hK
    simp only [fbo4, fbT, selS_f]
    go_simp
    exact hK.out _ _ (fbM t8 XO rfl rfl ⟨hB, hx4, hxl, hm1, hm2, hkt, fun h => Bool.noConfusion h, hXO⟩)
  · obtain rfl : fbo5 = o := Option.some.inj ho
    obtain rfl : b5 = false := h0
    have hn := wayP_all (o := fbo5) hC h1 [(4, none)] [] nk rfl; repeat (obtain ⟨rfl, hn⟩ := hn)
    have hn := wayN_all hC (i := 5) rfl [(8, 5), (9, 8), (11, 5)] [] nk rfl; repeat (obtain ⟨rfl, hn⟩ := hn)
    obtain ⟨hB, hx4, hxl, hm1, hm2, hkt, ht8, hXO⟩ := hF
    refine wpOp_step (o := fbo5) rfl (fun K hK => ?_)
    replace hK := hid hK
    simp only [fbo5, fbT, selS_t, selS_f]
    go_simp
    exact hK.out _ _ (fbM t8 XO rfl rfl ⟨hB, hx4, hxl, hm1, hm2, hkt, fun h => Bool.noConfusion h, hXO⟩)
  · obtain rfl : fbo6 = o := Option.some.inj ho
    obtain rfl : b6 = false := h0
    have hn := wayN_all hC (i := 6) rfl [(7, 6), (8, 7), (9, 8), (11, 6)] [] nk rfl; repeat (obtain ⟨rfl, hn⟩ := hn)
    obtain ⟨hB, hx4, hxl, hm1, hm2, hkt, ht8, hXO⟩ := hF
    refine wpOp_step (o := fbo6) rfl (fun K hK => ?_)
    replace hK := hid hK
    simp only [fbo6, fbT, selS_f]
    go_simp
    exact hK.out _ _ (fbM t8 XO rfl rfl ⟨hB, hx4, hxl, hm1, hm2, hkt, fun h => Bool.noConfusion h, hXO⟩)
  · obtain rfl : fbo7 = o := Option.some.inj ho
    obtain rfl : b7 = false := h0
    have hn := wayP_all (o := fbo7) hC h1 [(6, none)] [] nk rfl; repeat (obtain ⟨rfl, hn⟩ := hn)
    have hn := wayN_all hC (i := 7) rfl [(8, 7), (9, 8), (11, 7)] [] nk rfl; repeat (obtain ⟨rfl, hn⟩ := hn)
    obtain ⟨hB, hx4, hxl, hm1, hm2, hkt, ht8, hXO⟩ := hF
    refine wpOp_step (o := fbo7) rfl (fun K hK => ?_)
    replace hK := hid hK
    simp only [fbo7, fbT, selS_t, selS_f]
    go_simp
    exact hK.out _ _ (fbM t8 XO rfl rfl ⟨hB, hx4, hxl, hm1, hm2, hkt, fun h => Bool.noConfusion h, hXO⟩)
  · obtain rfl : fbo8 = o := Option.some.inj ho
    obtain rfl : b8 = false := h0
    have hn := wayP_all (o := fbo8) hC h1 [(7, none), (5, none), (3, none), (6, some 7), (4, some 5), (2, some 3)] [] nk rfl; repeat (obtain ⟨rfl, hn⟩ := hn)
    have hn := wayN_all hC (i := 8) rfl [(9, 8), (11, 8)] [] nk rfl; repeat (obtain ⟨rfl, hn⟩ := hn)
    obtain ⟨hB, hx4, hxl, hm1, hm2, hkt, ht8, hXO⟩ := hF
    refine wpOp_step (o := fbo8) rfl (fun K hK => ?_)
    replace hK := hid hK
    simp only [fbo8, fbT, selS_t, selS_f]
    go_simp
    refine (hkt _ hB).mono ?_
    rintro e w2 ⟨⟨k9, d9, h9, hne9, rfl⟩, hb2⟩
    dsimp only
    exact hK.out _ _ (fbM (⟨(turned P.sec k9 d9).toArray⟩) XO rfl rfl ⟨hB.trans (hb2.mono hB.size), RowAt.nxS hb2 hx4, hxl, hm1, hm2, hkt, fun _ => ⟨k9, d9, h9, hne9, rfl⟩, fun h => ⟨RowAt.nxS hb2 (hXO h).1, (hXO h).2⟩⟩)
  · obtain rfl : fbo9 = o := Option.some.inj ho
    obtain rfl : b9 = false := h0
    have hn := wayP_all (o := fbo9) hC h1 [(8, none), (1, none), (3, some 8), (5, some 8), (7, some 8), (6, some 7), (4, some 5), (2, some 3), (0, some 1)] [] nk rfl; repeat (obtain ⟨rfl, hn⟩ := hn)
    have hn := wayN_all hC (i := 9) rfl [(11, 9)] [] nk rfl; repeat (obtain ⟨rfl, hn⟩ := hn)
    obtain ⟨hB, hx4, hxl, hm1, hm2, hkt, ht8, hXO⟩ := hF
    refine wpOp_step (o := fbo9) rfl (fun K hK => ?_)
    replace hK := hid hK
    simp only [fbo9, fbT, selS_t, selS_f]
    go_simp
    exact hK.out _ _ (fbM t8 XO rfl rfl ⟨hB, hx4, hxl, hm1, hm2, hkt, ht8, hXO⟩)
  · obtain rfl : fbo10 = o := Option.some.inj ho
    obtain rfl : b10 = false := h0
    have hn := wayN_all hC (i := 10) rfl [(11, 10)] [] nk rfl; repeat (obtain ⟨rfl, hn⟩ := hn)
    obtain ⟨hB, hx4, hxl, hm1, hm2, hkt, ht8, hXO⟩ := hF
    refine wpOp_step (o := fbo10) rfl (fun K hK => ?_)
    replace hK := hid hK
    simp only [fbo10, fbT, selS_f]
    go_simp
    exact hK.out _ _ (fbM t8 w.heap.size rfl rfl ⟨hB.alloc hB.size _, hx4.alloc _, hxl, hm1, hm2, hkt, ht8, fun _ => ⟨RowAt.new w _ _, hB.size⟩⟩)
  · obtain rfl : fbo11 = o := Option.some.inj ho
    obtain rfl : b11 = false := h0
    have hn := wayP_all (o := fbo11) hC h1 [(10, none), (9, none), (8, none), (7, none), (6, none), (5, none), (4, none), (3, none), (2, none), (1, none), (0, none)] [] nk rfl; repeat (obtain ⟨rfl, hn⟩ := hn)
    obtain ⟨hB, hx4, hxl, hm1, hm2, hkt, ht8, hXO⟩ := hF
    have hz : RowAt w XO 27 #[.string ⟨#[]⟩, .string ⟨#[]⟩] := (hXO rfl).1
    have hx := (hXO rfl).2
    have q0 := hz.cell 0
    have q1 := hz.cell 1
    have f0 := hz.free 0
    have f1 := hz.free 1
    refine wpOp_step (o := fbo11) rfl (fun K hK => ?_)
    replace hK := hid hK
    simp only [fbo11, fbT, selS_t]
    go_simp
    exact hK.out _ _ (fbM t8 XO rfl rfl ⟨(hB.setCell (by simp; omega) _).setCell (by simp; omega) _, (hx4.other ⟨XO, 0, none⟩ _ (by simp; omega)).other ⟨XO, 1, none⟩ _ (by simp; omega), hxl, hm1, hm2, hkt, ht8, fun _ => ⟨(hz.set 0 _).set 1 _, hx⟩⟩)
set_option maxRecDepth 20000 in
set_option maxHeartbeats 4000000 in
theorem fb_wp {Q : Exit → Act → World → Prop} {rid : Nat} (w0 : World) (X4 r1 r2 : Nat) (id sec : ByteArray) (nw ls : Int) {sa sb sc sd sf sj sk sm sn so sp sq sr ss su sv sw sx sy sz ta tb tc td te tf tg th ti tj tk tl tm tn tp tr tt tu tv tw tx ty tz ua ub uc ud ue uf ug uh ui uj uk ul um un uo up uq ur us ut uu uv uw ux uy uz va vb vc vd ve vf vg vh vi vj vk vl vm vn vo vp vq vr vs vt vu vv vw vx vy vz xa xb xc xd xe xf xg xh xi xj xk : Value} (w : World) (hB : Below w0.heap.size w0 w) (hx4 : RowAt w X4 27 #[.string id, .string sec]) (hxl : X4 < w0.heap.size) (hm1 : Int.tmod nw 100 = (r1 : Int)) (hm2 : Int.tmod ls 100 = (r2 : Int)) (hkt : ∀ wx, Below w0.heap.size w0 wx → Calls Tryz.prog 12 #[.string sec, .int .i64 (r1 : Int), .int .i64 (r2 : Int)] wx fun e w' => (∃ (k : Nat) (d : UInt8), ∃ h : k < sec.size, d ≠ sec[k] ∧ e = .returned (.string ⟨(turned sec k d).toArray⟩)) ∧ Below wx.heap.size wx w')
    (fin : ∀ (t8 : ByteArray) (XO : Nat) (w' : World), (Below w0.heap.size w0 w') → (RowAt w' X4 27 #[.string id, .string sec]) → (X4 < w0.heap.size) → (Int.tmod nw 100 = (r1 : Int)) → (Int.tmod ls 100 = (r2 : Int)) → (∀ wx, Below w0.heap.size w0 wx → Calls Tryz.prog 12 #[.string sec, .int .i64 (r1 : Int), .int .i64 (r2 : Int)] wx fun e w' => (∃ (k : Nat) (d : UInt8), ∃ h : k < sec.size, d ≠ sec[k] ∧ e = .returned (.string ⟨(turned sec k d).toArray⟩)) ∧ Below wx.heap.size wx w') → (∃ (k : Nat) (d : UInt8), ∃ h : k < sec.size, d ≠ sec[k] ∧ t8 = ⟨(turned sec k d).toArray⟩) → (RowAt w' XO 27 #[.string id, .string t8] ∧ w0.heap.size ≤ XO) → Q .normal { tmps := #[sa, sb, sc, sd, .pointer (some ⟨X4, 0, none⟩), sf, .int .i64 nw, .int .i64 ls, sj, sk, sm, sn, .pointer (some ⟨XO, 0, none⟩), sp, sq, sr, ss, su, sv, sw, sx, sy, sz, ta, tb, tc, td, te, tf, tg, th, ti, tj, tk, tl, tm, tn, tp, tr, tt, tu, tv, tw, tx, ty, tz, ua, ub, uc, ud, ue, uf, ug, uh, ui, uj, uk, ul, um, un, uo, up, uq, ur, us, ut, uu, uv, uw, ux, uy, uz, va, vb, vc, vd, ve, vf, vg, vh, vi, vj, vk, vl, .pointer (some ⟨X4, 0, none⟩), .string id, .pointer (some ⟨X4, 1, none⟩), .string sec, .int .i64 nw, .int .i64 (r1 : Int), .int .i64 ls, .int .i64 (r2 : Int), .string t8, .agg #[.string id, .string t8], vw, vx, vy, vz, xa, xb, xc, xd, xe, xf, xg, xh, xi, xj, xk], defers := [] } w') :
    (Code.region rid fbO true).wp Tryz.prog Q { tmps := #[sa, sb, sc, sd, .pointer (some ⟨X4, 0, none⟩), sf, .int .i64 nw, .int .i64 ls, sj, sk, sm, sn, so, sp, sq, sr, ss, su, sv, sw, sx, sy, sz, ta, tb, tc, td, te, tf, tg, th, ti, tj, tk, tl, tm, tn, tp, tr, tt, tu, tv, tw, tx, ty, tz, ua, ub, uc, ud, ue, uf, ug, uh, ui, uj, uk, ul, um, un, uo, up, uq, ur, us, ut, uu, uv, uw, ux, uy, uz, va, vb, vc, vd, ve, vf, vg, vh, vi, vj, vk, vl, vm, vn, vo, vp, vq, vr, vs, vt, vu, vv, vw, vx, vy, vz, xa, xb, xc, xd, xe, xf, xg, xh, xi, xj, xk], defers := [] } w := by
  refine wp_region_inv (ops := fbO) (fbI ⟨w0, X4, r1, r2, id, sec, nw, ls, sa, sb, sc, sd, sf, sj, sk, sm, sn, so, sp, sq, sr, ss, su, sv, sw, sx, sy, sz, ta, tb, tc, td, te, tf, tg, th, ti, tj, tk, tl, tm, tn, tp, tr, tt, tu, tv, tw, tx, ty, tz, ua, ub, uc, ud, ue, uf, ug, uh, ui, uj, uk, ul, um, un, uo, up, uq, ur, us, ut, uu, uv, uw, ux, uy, uz, va, vb, vc, vd, ve, vf, vg, vh, vi, vj, vk, vl, vm, vn, vo, vp, vq, vr, vs, vt, vu, vv, vw, vx, vy, vz, xa, xb, xc, xd, xe, xf, xg, xh, xi, xj, xk⟩) (by kernel_rfl) (by kernel_rfl) (fun l f v hI => ?_) (fun l f v hC hI i h0 o ho h1 => fb_step ⟨w0, X4, r1, r2, id, sec, nw, ls, sa, sb, sc, sd, sf, sj, sk, sm, sn, so, sp, sq, sr, ss, su, sv, sw, sx, sy, sz, ta, tb, tc, td, te, tf, tg, th, ti, tj, tk, tl, tm, tn, tp, tr, tt, tu, tv, tw, tx, ty, tz, ua, ub, uc, ud, ue, uf, ug, uh, ui, uj, uk, ul, um, un, uo, up, uq, ur, us, ut, uu, uv, uw, ux, uy, uz, va, vb, vc, vd, ve, vf, vg, vh, vi, vj, vk, vl, vm, vn, vo, vp, vq, vr, vs, vt, vu, vv, vw, vx, vy, vz, xa, xb, xc, xd, xe, xf, xg, xh, xi, xj, xk⟩ l f v hC hI i h0 o ho h1) (fun l f v hI hall => ?_) ?_
  · obtain ⟨_, _, _, _, _, _, _, _, _, _, _, _, _, _, rfl, _⟩ := hI; rfl
  · obtain ⟨b0, b1, b2, b3, b4, b5, b6, b7, b8, b9, b10, b11, t8, XO, rfl, rfl, hB, hx4, hxl, hm1, hm2, hkt, ht8, hXO⟩ := hI
    have hn := allT hall [0, 1, 2, 3, 4, 5, 6, 7, 8, 9, 10, 11] rfl; repeat (obtain ⟨rfl, hn⟩ := hn)
    exact fin t8 XO v hB hx4 hxl hm1 hm2 hkt (ht8 rfl) (hXO rfl)
  · exact ⟨false, false, false, false, false, false, false, false, false, false, false, false, ⟨#[]⟩, 0, rfl, rfl, hB.drew, hx4.drew, hxl, hm1, hm2, hkt, fun h => Bool.noConfusion h, fun h => Bool.noConfusion h⟩
end Go.Proofs.YtepdodifgkejjaaGreatDoor
