import Derived.Test.YtkcjigelenofhaaGreatDoorG15
import Derived.Test.YtkcjigelenofhaaGreatDoorCP
import Derived.Test.YtkcjigelenofhaaGreatDoorG8
namespace Go.Proofs.YtkcjigelenofhaaGreatDoor
open Go.RowKit
set_option linter.unusedVariables false
def qao0 : Oper := ⟨some 42, .load 72 (.tmp 3), 72, "l10_request.go:475", #[], none⟩
def qao1 : Oper := ⟨some 43, .call { callee := .value (.func 43), args := #[.tmp 42], argTypes := #[72] }, 23, "l10_request.go:475", #[⟨0, .data⟩], none⟩
def qao2 : Oper := ⟨some 44, .move (.tmp 7), 23, "l10_request.go:475", #[], none⟩
def qao3 : Oper := ⟨some 45, .slice 23 (.tmp 44) none (some (.const (.int .i64 4))) none, 23, "l10_request.go:475", #[⟨2, .data⟩], none⟩
def qao4 : Oper := ⟨some 46, .call { callee := .value (.func 94), args := #[.tmp 43, .tmp 45], argTypes := #[23, 23] }, 4, "l10_request.go:475", #[⟨1, .data⟩, ⟨3, .data⟩, ⟨1, .chain⟩], none⟩
def qao5 : Oper := ⟨some 47, .unOp .not 4 (.tmp 46), 4, "l10_request.go:475", #[⟨4, .data⟩], none⟩
def qao6 : Oper := ⟨some 48, .move (.tmp 47), 4, "l10_request.go:475", #[⟨5, .data⟩, ⟨4, .chain⟩], none⟩
def qao7 : Oper := ⟨some 49, .fieldAddr 66 (.tmp 8) 0, 0, "l10_request.go:475", #[⟨6, .guard⟩], some (6, false)⟩
def qao8 : Oper := ⟨some 50, .load 9 (.tmp 49), 9, "l10_request.go:475", #[⟨7, .data⟩, ⟨6, .guard⟩], some (6, false)⟩
def qao9 : Oper := ⟨some 51, .binOp .neq 9 (.tmp 50) (.const (.string { data := #[120, 45, 115, 117, 109] })) 9, 4, "l10_request.go:475", #[⟨8, .data⟩, ⟨6, .guard⟩], some (6, false)⟩
def qao10 : Oper := ⟨some 52, .pick (.tmp 48) (.const (.bool true)) (.tmp 51), 4, "l10_request.go:475", #[⟨6, .data⟩, ⟨9, .data⟩], none⟩
def qaO : Array Oper := #[qao0, qao1, qao2, qao3, qao4, qao5, qao6, qao7, qao8, qao9, qao10]
structure qbP where
 (w0 : World)
 (X3 X8 qb tq cp : Nat)
 (V0 N4 V4 : ByteArray)
 (z1 z2 : Int)
 (sA : Option Addr)
 (mc : Nat)
 (L : List ByteArray)
 (o4 : Nat → Hp)
 (sa sb sc se sf sh sk sm sn so sp sq sr ss su sv sw sx sy sz ta tb tc td te tf tg th ti tj tk tl tm tn tp tr ts tt tu tv tw tx ty tz ua ub uc ud ue uf ug uh ui uj uk ul um un uo up uq ur us ut uu uv uw ux uy uz ya yb yc yd ye yf : Value)
def qbT (P : qbP) (XP : Nat) (b0 b1 b2 b3 b4 b5 b6 b7 b8 b9 b10 : Bool) : Array Value := #[P.sa, P.sb, P.sc, .pointer (some ⟨P.X3, 0, none⟩), P.se, P.sf, P.sh, .slice (some ⟨P.qb, P.tq, none⟩) 5 P.cp, .pointer (some ⟨P.X8, 0, none⟩), P.sk, P.sm, P.sn, P.so, P.sp, P.sq, P.sr, P.ss, P.su, P.sv, P.sw, P.sx, P.sy, P.sz, P.ta, P.tb, P.tc, P.td, P.te, P.tf, P.tg, P.th, P.ti, P.tj, P.tk, P.tl, P.tm, P.tn, P.tp, P.tr, P.ts, P.tt, P.tu, selS b0 (.agg #[.string P.V0, .int .i64 P.z1, .int .i64 P.z2, .slice P.sA P.L.length P.mc]) (P.tv), selS b1 (.slice (some ⟨XP, 0, none⟩) 4 4) (P.tw), selS b2 (.slice (some ⟨P.qb, P.tq, none⟩) 5 P.cp) (P.tx), selS b3 (.slice (some ⟨P.qb, P.tq, none⟩) 4 P.cp) (P.ty), selS b4 (.bool true) (P.tz), selS b5 (.bool false) (P.ua), selS b6 (.bool false) (P.ub), selS b7 (.pointer (some ⟨P.X8, 0, none⟩)) (P.uc), selS b8 (.string P.N4) (P.ud), selS b9 (.bool false) (P.ue), selS b10 (.bool false) (P.uf), P.ug, P.uh, P.ui, P.uj, P.uk, P.ul, P.um, P.un, P.uo, P.up, P.uq, P.ur, P.us, P.ut, P.uu, P.uv, P.uw, P.ux, P.uy, P.uz, P.ya, P.yb, P.yc, P.yd, P.ye, P.yf]
def qbF (P : qbP) (XP : Nat) (b0 b1 b2 b3 b4 b5 b6 b7 b8 b9 b10 : Bool) (w : World) : Prop := (Below P.w0.heap.size P.w0 w) ∧ (RowAt w P.X3 72 #[.string P.V0, .int .i64 P.z1, .int .i64 P.z2, .slice P.sA P.L.length P.mc]) ∧ (RowAt w P.X8 66 #[.string P.N4, .string P.V4]) ∧ (SgAt w P.sA P.mc P.L) ∧ (∀ wx, Below P.w0.heap.size P.w0 wx → SgAt wx P.sA P.mc P.L → Calls Tryz.prog 43 #[.agg #[.string P.V0, .int .i64 P.z1, .int .i64 P.z2, .slice P.sA P.L.length P.mc]] wx fun e w' => ∃ X, e = .returned (.slice (some ⟨X, 0, none⟩) 4 4) ∧ Hps w' (some ⟨X, 0, none⟩) 4 4 P.o4 ∧ Below wx.heap.size wx w') ∧ (∀ wx X, Below P.w0.heap.size P.w0 wx → Hps wx (some ⟨X, 0, none⟩) 4 4 P.o4 → Calls Tryz.prog 94 #[.slice (some ⟨X, 0, none⟩) 4 4, .slice (some ⟨P.qb, P.tq, none⟩) 4 P.cp] wx fun e w' => e = .returned (.bool true) ∧ Below wx.heap.size wx w') ∧ ((4 : Int) ≤ (P.cp : Int)) ∧ (b1 = true → Hps w (some ⟨XP, 0, none⟩) 4 4 P.o4) ∧ ((P.N4.toList == [120, 45, 115, 117, 109]) = true) ∧ ((P.N4.toList == (⟨#[120, 45, 115, 117, 109]⟩ : ByteArray).toList) = true)
def qbI (P : qbP) (l : Array Bool) (f : Act) (w : World) : Prop :=
 ∃ (b0 b1 b2 b3 b4 b5 b6 b7 b8 b9 b10 : Bool) (XP : Nat), l = #[b0, b1, b2, b3, b4, b5, b6, b7, b8, b9, b10] ∧ f = { tmps := qbT P XP b0 b1 b2 b3 b4 b5 b6 b7 b8 b9 b10, defers := [] } ∧ qbF P XP b0 b1 b2 b3 b4 b5 b6 b7 b8 b9 b10 w
theorem qbM {P : qbP} {b0 b1 b2 b3 b4 b5 b6 b7 b8 b9 b10 : Bool} (XP : Nat) {l : Array Bool} {f : Act} {w : World} (hl : l = #[b0, b1, b2, b3, b4, b5, b6, b7, b8, b9, b10]) (hf : f = { tmps := qbT P XP b0 b1 b2 b3 b4 b5 b6 b7 b8 b9 b10, defers := [] }) (h : qbF P XP b0 b1 b2 b3 b4 b5 b6 b7 b8 b9 b10 w) : qbI P l f w := ⟨b0, b1, b2, b3, b4, b5, b6, b7, b8, b9, b10, XP, hl, hf, h⟩
set_option maxRecDepth 20000 in
set_option maxHeartbeats 20000000 in
theorem qb_step {Q : Exit → Act → World → Prop} (P : qbP) (l : Array Bool) (f : Act) (w : World) (hC : Closed qaO l) (hI : qbI P l f w) (i : Nat) (h0 : l.getD i true = false) (o : Oper) (ho : qaO[i]? = some o) (h1 : ∀ e ∈ o.after, Region.binds .any e = true → l.getD e.on false = true) : wpOp Tryz.prog qaO Q i (qbI P (l.setIfInBounds i true)) f w := by
 obtain ⟨b0, b1, b2, b3, b4, b5, b6, b7, b8, b9, b10, XP, rfl, rfl, hF⟩ := hI
 have hi : i < 11 := by
  rcases Nat.lt_or_ge i 11 with h | h
  · exact h
  · rw [show qaO[i]? = none from Array.getElem?_eq_none h] at ho; cases ho
 rcases (by omega : i = 0 ∨ i = 1 ∨ i = 2 ∨ i = 3 ∨ i = 4 ∨ i = 5 ∨ i = 6 ∨ i = 7 ∨ i = 8 ∨ i = 9 ∨ i = 10) with rfl | rfl | rfl | rfl | rfl | rfl | rfl | rfl | rfl | rfl | rfl
 · obtain rfl : qao0 = o := Option.some.inj ho
   obtain rfl : b0 = false := h0
   have hn := wayN_all hC (i := 0) rfl [(1, 0), (4, 1), (5, 4), (6, 4), (7, 6), (8, 6), (9, 6), (10, 6)] [] nk rfl; repeat (obtain ⟨rfl, hn⟩ := hn)
   obtain ⟨hB, hx3, hx8, hsg, hkp, hke, hc4, hhp, hn1, hn2⟩ := hF
   have q0 := hx3.cell 0
   have q1 := hx3.cell 1
   have q2 := hx3.cell 2
   have q3 := hx3.cell 3
   refine wpOp_step (o := qao0) rfl (fun K hK => ?_)
   replace hK := hid hK
   simp only [qao0, qbT, selS_f]
   go_simp
   exact hK.out _ _ (qbM XP rfl rfl ⟨hB, hx3, hx8, hsg, hkp, hke, hc4, fun h => Bool.noConfusion h, hn1, hn2⟩)
 · obtain rfl : qao1 = o := Option.some.inj ho
   obtain rfl : b1 = false := h0
   have hn := wayP_all (o := qao1) hC h1 [(0, none)] [] nk rfl; repeat (obtain ⟨rfl, hn⟩ := hn)
   have hn := wayN_all hC (i := 1) rfl [(4, 1), (5, 4), (6, 4), (7, 6), (8, 6), (9, 6), (10, 6)] [] nk rfl; repeat (obtain ⟨rfl, hn⟩ := hn)
   obtain ⟨hB, hx3, hx8, hsg, hkp, hke, hc4, hhp, hn1, hn2⟩ := hF
   refine wpOp_step (o := qao1) rfl (fun K hK => ?_)
   replace hK := hid hK
   simp only [qao1, qbT, selS_t, selS_f]
   go_simp
   refine (hkp _ hB hsg).mono ?_
   rintro e w2 ⟨X9, rfl, hh9, hb2⟩
   dsimp only
   exact hK.out _ _ (qbM X9 rfl rfl ⟨hB.trans (hb2.mono hB.size), RowAt.nxS hb2 hx3, RowAt.nxS hb2 hx8, hsg.below hb2, hkp, hke, hc4, fun _ => hh9, hn1, hn2⟩)
 · obtain rfl : qao2 = o := Option.some.inj ho
   obtain rfl : b2 = false := h0
   have hn := wayN_all hC (i := 2) rfl [(3, 2), (4, 3), (5, 4), (6, 4), (7, 6), (8, 6), (9, 6), (10, 6)] [] nk rfl; repeat (obtain ⟨rfl, hn⟩ := hn)
   obtain ⟨hB, hx3, hx8, hsg, hkp, hke, hc4, hhp, hn1, hn2⟩ := hF
   refine wpOp_step (o := qao2) rfl (fun K hK => ?_)
   replace hK := hid hK
   simp only [qao2, qbT, selS_f]
   go_simp
   exact hK.out _ _ (qbM XP rfl rfl ⟨hB, hx3, hx8, hsg, hkp, hke, hc4, hhp, hn1, hn2⟩)
 · obtain rfl : qao3 = o := Option.some.inj ho
   obtain rfl : b3 = false := h0
   have hn := wayP_all (o := qao3) hC h1 [(2, none)] [] nk rfl; repeat (obtain ⟨rfl, hn⟩ := hn)
   have hn := wayN_all hC (i := 3) rfl [(4, 3), (5, 4), (6, 4), (7, 6), (8, 6), (9, 6), (10, 6)] [] nk rfl; repeat (obtain ⟨rfl, hn⟩ := hn)
   obtain ⟨hB, hx3, hx8, hsg, hkp, hke, hc4, hhp, hn1, hn2⟩ := hF
   refine wpOp_step (o := qao3) rfl (fun K hK => ?_)
   replace hK := hid hK
   simp only [qao3, qbT, selS_t, selS_f]
   go_simp
   exact hK.out _ _ (qbM XP rfl rfl ⟨hB, hx3, hx8, hsg, hkp, hke, hc4, hhp, hn1, hn2⟩)
 · obtain rfl : qao4 = o := Option.some.inj ho
   obtain rfl : b4 = false := h0
   have hn := wayP_all (o := qao4) hC h1 [(3, none), (1, none), (2, some 3), (0, some 1)] [] nk rfl; repeat (obtain ⟨rfl, hn⟩ := hn)
   have hn := wayN_all hC (i := 4) rfl [(5, 4), (6, 4), (7, 6), (8, 6), (9, 6), (10, 6)] [] nk rfl; repeat (obtain ⟨rfl, hn⟩ := hn)
   obtain ⟨hB, hx3, hx8, hsg, hkp, hke, hc4, hhp, hn1, hn2⟩ := hF
   refine wpOp_step (o := qao4) rfl (fun K hK => ?_)
   replace hK := hid hK
   simp only [qao4, qbT, selS_t, selS_f]
   go_simp
   refine (hke _ _ hB (hhp rfl)).mono ?_
   rintro e w2 ⟨rfl, hb2⟩
   dsimp only
   exact hK.out _ _ (qbM XP rfl rfl ⟨hB.trans (hb2.mono hB.size), RowAt.nxS hb2 hx3, RowAt.nxS hb2 hx8, hsg.below hb2, hkp, hke, hc4, fun h => (hhp h).below hb2, hn1, hn2⟩)
 · obtain rfl : qao5 = o := Option.some.inj ho
   obtain rfl : b5 = false := h0
   have hn := wayP_all (o := qao5) hC h1 [(4, none), (1, some 4), (3, some 4), (2, some 3), (0, some 1)] [] nk rfl; repeat (obtain ⟨rfl, hn⟩ := hn)
   have hn := wayN_all hC (i := 5) rfl [(6, 5), (7, 6), (8, 6), (9, 6), (10, 6)] [] nk rfl; repeat (obtain ⟨rfl, hn⟩ := hn)
   obtain ⟨hB, hx3, hx8, hsg, hkp, hke, hc4, hhp, hn1, hn2⟩ := hF
   refine wpOp_step (o := qao5) rfl (fun K hK => ?_)
   replace hK := hid hK
   simp only [qao5, qbT, selS_t, selS_f]
   go_simp
   exact hK.out _ _ (qbM XP rfl rfl ⟨hB, hx3, hx8, hsg, hkp, hke, hc4, hhp, hn1, hn2⟩)
 · obtain rfl : qao6 = o := Option.some.inj ho
   obtain rfl : b6 = false := h0
   have hn := wayP_all (o := qao6) hC h1 [(5, none), (4, none), (1, some 4), (3, some 4), (2, some 3), (0, some 1)] [] nk rfl; repeat (obtain ⟨rfl, hn⟩ := hn)
   have hn := wayN_all hC (i := 6) rfl [(7, 6), (8, 6), (9, 6), (10, 6)] [] nk rfl; repeat (obtain ⟨rfl, hn⟩ := hn)
   obtain ⟨hB, hx3, hx8, hsg, hkp, hke, hc4, hhp, hn1, hn2⟩ := hF
   refine wpOp_step (o := qao6) rfl (fun K hK => ?_)
   replace hK := hid hK
   simp only [qao6, qbT, selS_t, selS_f]
   go_simp
   exact hK.out _ _ (qbM XP rfl rfl ⟨hB, hx3, hx8, hsg, hkp, hke, hc4, hhp, hn1, hn2⟩)
 · obtain rfl : qao7 = o := Option.some.inj ho
   obtain rfl : b7 = false := h0
   have hn := wayP_all (o := qao7) hC h1 [(6, none), (4, some 6), (5, some 6), (1, some 4), (3, some 4), (2, some 3), (0, some 1)] [] nk rfl; repeat (obtain ⟨rfl, hn⟩ := hn)
   have hn := wayN_all hC (i := 7) rfl [(8, 7), (9, 8), (10, 9)] [] nk rfl; repeat (obtain ⟨rfl, hn⟩ := hn)
   obtain ⟨hB, hx3, hx8, hsg, hkp, hke, hc4, hhp, hn1, hn2⟩ := hF
   refine wpOp_step (o := qao7) rfl (fun K hK => ?_)
   replace hK := hid hK
   simp only [qao7, qbT, selS_t, selS_f]
   go_simp
   exact hK.out _ _ (qbM XP rfl rfl ⟨hB, hx3, hx8, hsg, hkp, hke, hc4, hhp, hn1, hn2⟩)
 · obtain rfl : qao8 = o := Option.some.inj ho
   obtain rfl : b8 = false := h0
   have hn := wayP_all (o := qao8) hC h1 [(7, none), (6, none), (4, some 6), (5, some 6), (1, some 4), (3, some 4), (2, some 3), (0, some 1)] [] nk rfl; repeat (obtain ⟨rfl, hn⟩ := hn)
   have hn := wayN_all hC (i := 8) rfl [(9, 8), (10, 9)] [] nk rfl; repeat (obtain ⟨rfl, hn⟩ := hn)
   obtain ⟨hB, hx3, hx8, hsg, hkp, hke, hc4, hhp, hn1, hn2⟩ := hF
   have q0 := hx8.cell 0
   refine wpOp_step (o := qao8) rfl (fun K hK => ?_)
   replace hK := hid hK
   simp only [qao8, qbT, selS_t, selS_f]
   go_simp
   exact hK.out _ _ (qbM XP rfl rfl ⟨hB, hx3, hx8, hsg, hkp, hke, hc4, hhp, hn1, hn2⟩)
 · obtain rfl : qao9 = o := Option.some.inj ho
   obtain rfl : b9 = false := h0
   have hn := wayP_all (o := qao9) hC h1 [(8, none), (6, none), (7, some 8), (4, some 6), (5, some 6), (1, some 4), (3, some 4), (2, some 3), (0, some 1)] [] nk rfl; repeat (obtain ⟨rfl, hn⟩ := hn)
   have hn := wayN_all hC (i := 9) rfl [(10, 9)] [] nk rfl; repeat (obtain ⟨rfl, hn⟩ := hn)
   obtain ⟨hB, hx3, hx8, hsg, hkp, hke, hc4, hhp, hn1, hn2⟩ := hF
   refine wpOp_step (o := qao9) rfl (fun K hK => ?_)
   replace hK := hid hK
   simp only [qao9, qbT, selS_t, selS_f]
   go_simp
   exact hK.out _ _ (qbM XP rfl rfl ⟨hB, hx3, hx8, hsg, hkp, hke, hc4, hhp, hn1, hn2⟩)
 · obtain rfl : qao10 = o := Option.some.inj ho
   obtain rfl : b10 = false := h0
   have hn := wayP_all (o := qao10) hC h1 [(9, none), (6, none), (8, some 9), (7, some 8), (4, some 6), (5, some 6), (1, some 4), (3, some 4), (2, some 3), (0, some 1)] [] nk rfl; repeat (obtain ⟨rfl, hn⟩ := hn)
   obtain ⟨hB, hx3, hx8, hsg, hkp, hke, hc4, hhp, hn1, hn2⟩ := hF
   refine wpOp_step (o := qao10) rfl (fun K hK => ?_)
   replace hK := hid hK
   simp only [qao10, qbT, selS_t, selS_f]
   go_simp
   exact hK.out _ _ (qbM XP rfl rfl ⟨hB, hx3, hx8, hsg, hkp, hke, hc4, hhp, hn1, hn2⟩)
set_option maxRecDepth 20000 in
set_option maxHeartbeats 4000000 in
theorem qb_wp {Q : Exit → Act → World → Prop} {rid : Nat} (w0 : World) (X3 X8 qb tq cp : Nat) (V0 N4 V4 : ByteArray) (z1 z2 : Int) (sA : Option Addr) (mc : Nat) (L : List ByteArray) (o4 : Nat → Hp) {sa sb sc se sf sh sk sm sn so sp sq sr ss su sv sw sx sy sz ta tb tc td te tf tg th ti tj tk tl tm tn tp tr ts tt tu tv tw tx ty tz ua ub uc ud ue uf ug uh ui uj uk ul um un uo up uq ur us ut uu uv uw ux uy uz ya yb yc yd ye yf : Value} (w : World) (hB : Below w0.heap.size w0 w) (hx3 : RowAt w X3 72 #[.string V0, .int .i64 z1, .int .i64 z2, .slice sA L.length mc]) (hx8 : RowAt w X8 66 #[.string N4, .string V4]) (hsg : SgAt w sA mc L) (hkp : ∀ wx, Below w0.heap.size w0 wx → SgAt wx sA mc L → Calls Tryz.prog 43 #[.agg #[.string V0, .int .i64 z1, .int .i64 z2, .slice sA L.length mc]] wx fun e w' => ∃ X, e = .returned (.slice (some ⟨X, 0, none⟩) 4 4) ∧ Hps w' (some ⟨X, 0, none⟩) 4 4 o4 ∧ Below wx.heap.size wx w') (hke : ∀ wx X, Below w0.heap.size w0 wx → Hps wx (some ⟨X, 0, none⟩) 4 4 o4 → Calls Tryz.prog 94 #[.slice (some ⟨X, 0, none⟩) 4 4, .slice (some ⟨qb, tq, none⟩) 4 cp] wx fun e w' => e = .returned (.bool true) ∧ Below wx.heap.size wx w') (hc4 : (4 : Int) ≤ (cp : Int)) (hn1 : (N4.toList == [120, 45, 115, 117, 109]) = true) (hn2 : (N4.toList == (⟨#[120, 45, 115, 117, 109]⟩ : ByteArray).toList) = true)
 (fin : ∀ (XP : Nat) (w' : World), (Below w0.heap.size w0 w') → (RowAt w' X3 72 #[.string V0, .int .i64 z1, .int .i64 z2, .slice sA L.length mc]) → (RowAt w' X8 66 #[.string N4, .string V4]) → (SgAt w' sA mc L) → (∀ wx, Below w0.heap.size w0 wx → SgAt wx sA mc L → Calls Tryz.prog 43 #[.agg #[.string V0, .int .i64 z1, .int .i64 z2, .slice sA L.length mc]] wx fun e w' => ∃ X, e = .returned (.slice (some ⟨X, 0, none⟩) 4 4) ∧ Hps w' (some ⟨X, 0, none⟩) 4 4 o4 ∧ Below wx.heap.size wx w') → (∀ wx X, Below w0.heap.size w0 wx → Hps wx (some ⟨X, 0, none⟩) 4 4 o4 → Calls Tryz.prog 94 #[.slice (some ⟨X, 0, none⟩) 4 4, .slice (some ⟨qb, tq, none⟩) 4 cp] wx fun e w' => e = .returned (.bool true) ∧ Below wx.heap.size wx w') → ((4 : Int) ≤ (cp : Int)) → (Hps w' (some ⟨XP, 0, none⟩) 4 4 o4) → ((N4.toList == [120, 45, 115, 117, 109]) = true) → ((N4.toList == (⟨#[120, 45, 115, 117, 109]⟩ : ByteArray).toList) = true) → Q .normal { tmps := #[sa, sb, sc, .pointer (some ⟨X3, 0, none⟩), se, sf, sh, .slice (some ⟨qb, tq, none⟩) 5 cp, .pointer (some ⟨X8, 0, none⟩), sk, sm, sn, so, sp, sq, sr, ss, su, sv, sw, sx, sy, sz, ta, tb, tc, td, te, tf, tg, th, ti, tj, tk, tl, tm, tn, tp, tr, ts, tt, tu, .agg #[.string V0, .int .i64 z1, .int .i64 z2, .slice sA L.length mc], .slice (some ⟨XP, 0, none⟩) 4 4, .slice (some ⟨qb, tq, none⟩) 5 cp, .slice (some ⟨qb, tq, none⟩) 4 cp, .bool true, .bool false, .bool false, .pointer (some ⟨X8, 0, none⟩), .string N4, .bool false, .bool false, ug, uh, ui, uj, uk, ul, um, un, uo, up, uq, ur, us, ut, uu, uv, uw, ux, uy, uz, ya, yb, yc, yd, ye, yf], defers := [] } w') :
 (Code.region rid qaO true).wp Tryz.prog Q { tmps := #[sa, sb, sc, .pointer (some ⟨X3, 0, none⟩), se, sf, sh, .slice (some ⟨qb, tq, none⟩) 5 cp, .pointer (some ⟨X8, 0, none⟩), sk, sm, sn, so, sp, sq, sr, ss, su, sv, sw, sx, sy, sz, ta, tb, tc, td, te, tf, tg, th, ti, tj, tk, tl, tm, tn, tp, tr, ts, tt, tu, tv, tw, tx, ty, tz, ua, ub, uc, ud, ue, uf, ug, uh, ui, uj, uk, ul, um, un, uo, up, uq, ur, us, ut, uu, uv, uw, ux, uy, uz, ya, yb, yc, yd, ye, yf], defers := [] } w := by
 refine wp_region_inv (ops := qaO) (qbI ⟨w0, X3, X8, qb, tq, cp, V0, N4, V4, z1, z2, sA, mc, L, o4, sa, sb, sc, se, sf, sh, sk, sm, sn, so, sp, sq, sr, ss, su, sv, sw, sx, sy, sz, ta, tb, tc, td, te, tf, tg, th, ti, tj, tk, tl, tm, tn, tp, tr, ts, tt, tu, tv, tw, tx, ty, tz, ua, ub, uc, ud, ue, uf, ug, uh, ui, uj, uk, ul, um, un, uo, up, uq, ur, us, ut, uu, uv, uw, ux, uy, uz, ya, yb, yc, yd, ye, yf⟩) (by kernel_rfl) (by kernel_rfl) (fun l f v hI => ?_) (fun l f v hC hI i h0 o ho h1 => qb_step ⟨w0, X3, X8, qb, tq, cp, V0, N4, V4, z1, z2, sA, mc, L, o4, sa, sb, sc, se, sf, sh, sk, sm, sn, so, sp, sq, sr, ss, su, sv, sw, sx, sy, sz, ta, tb, tc, td, te, tf, tg, th, ti, tj, tk, tl, tm, tn, tp, tr, ts, tt, tu, tv, tw, tx, ty, tz, ua, ub, uc, ud, ue, uf, ug, uh, ui, uj, uk, ul, um, un, uo, up, uq, ur, us, ut, uu, uv, uw, ux, uy, uz, ya, yb, yc, yd, ye, yf⟩ l f v hC hI i h0 o ho h1) (fun l f v hI hall => ?_) ?_
 · obtain ⟨_, _, _, _, _, _, _, _, _, _, _, _, rfl, _⟩ := hI; rfl
 · obtain ⟨b0, b1, b2, b3, b4, b5, b6, b7, b8, b9, b10, XP, rfl, rfl, hB, hx3, hx8, hsg, hkp, hke, hc4, hhp, hn1, hn2⟩ := hI
   have hn := allT hall [0, 1, 2, 3, 4, 5, 6, 7, 8, 9, 10] rfl; repeat (obtain ⟨rfl, hn⟩ := hn)
   exact fin XP v hB hx3 hx8 hsg hkp hke hc4 (hhp rfl) hn1 hn2
 · exact ⟨false, false, false, false, false, false, false, false, false, false, false, 0, rfl, rfl, hB.drew, hx3.drew, hx8.drew, hsg.below ((Below.refl _ _).drew), hkp, hke, hc4, fun h => Bool.noConfusion h, hn1, hn2⟩
end Go.Proofs.YtkcjigelenofhaaGreatDoor
namespace Go.Proofs.YtkcjigelenofhaaGreatDoor
open Go.RowKit
theorem results_rr_tmp2 {P : Program} {fn : Func} {p q u u' : Tmp} {ty ty2 : TypeId} (h : fn.results = #[.cell p ty, .cell q ty2, .tmp u, .tmp u']) (tmps : Array Value) (w : World) (g : Nat) (t : TypeId) (cs : Array Value) (fr : Nat × Nat) (d : TypeDesc) (g2 : Nat) (t2 : TypeId) (cs2 : Array Value) (fr2 : Nat × Nat) (d2 : TypeDesc) (v v' : Value)
 (hp : tmps.getD p undef = .pointer (some ⟨g, 0, none⟩)) (hq : tmps.getD q undef = .pointer (some ⟨g2, 0, none⟩)) (hv : tmps.getD u undef = v) (hv2 : tmps.getD u' undef = v') (hg : w.heap[g]? = some (.cells cs t fr)) (hg2 : w.heap[g2]? = some (.cells cs2 t2 fr2))
 (hu : P.underlying ty = some d) (hd : (match d with | .struct _ | .array _ _ => true | _ => false) = true) (hi : (P.info? ty).map (·.size) = some cs.size)
 (hu2 : P.underlying ty2 = some d2) (hd2 : (match d2 with | .struct _ | .array _ _ => true | _ => false) = true) (hi2 : (P.info? ty2).map (·.size) = some cs2.size) :
 (results fn tmps).run P w = .ok (.tuple #[.agg cs, .agg cs2, v, v']) w := by
 have hp' : tmps[p]?.getD undef = .pointer (some ⟨g, 0, none⟩) := by simpa using hp
 have hq' : tmps[q]?.getD undef = .pointer (some ⟨g2, 0, none⟩) := by simpa using hq
 have hv' : tmps[u]?.getD undef = v := by simpa using hv
 have hv2' : tmps[u']?.getD undef = v' := by simpa using hv2
 simp [results, h, hp', hq', hv', hv2', asAddr, run_loadVar_row w g t ty cs fr d hg hu hd hi, run_loadVar_row w g2 t2 ty2 cs2 fr2 d2 hg2 hu2 hd2 hi2]
def PtO (r : Rq) (w' : World) (e : Ending) : Prop := ∃ (m p : ByteArray) (a1 : Option Addr) (n1 c1 : Nat) (a2 : Option Addr) (n2 c2 : Nat) (d id : ByteArray) (z1 z2 z4 : Int) (sA : Option Addr) (sl mc : Nat) (b : Bool),
 e = .returned (.tuple #[.agg #[.string m, .string p, .slice a1 n1 c1, .slice a2 n2 c2, .string d], .agg #[.string id, .int .i64 z1, .int .i64 z2, .slice sA sl mc], .int .i64 z4, .bool b]) ∧ (b = true ↔ ckP r) ∧
 (b = true → (m = r.mt ∧ p = r.pt ∧ a1 = r.qs.ad ∧ n1 = r.qs.n - 1 ∧ c1 = r.qs.cap) ∧ (a2 = r.hs.ad ∧ n2 = r.hs.n ∧ c2 = r.hs.cap ∧ d = r.bd) ∧ (id = ckV r 0 ∧ z1 = (numL (ckV r 1).data.toList : Int) ∧ z2 = (numL (ckV r 2).data.toList : Int) ∧ z4 = (numL (ckV r 4).data.toList : Int)) ∧ sl = (ckS r).length ∧ SgAt w' sA mc (ckS r))
theorem splA_memW (c : UInt8) : ∀ (l cur x : List UInt8), x ∈ splA c cur l → x.length ≤ cur.length + l.length
 | [], cur, x, h => by
  unfold splA at h
  rw [List.mem_singleton.1 h]; simp
 | y :: r, cur, x, h => by
  unfold splA at h
  split at h
  · rcases List.mem_cons.1 h with rfl | h
    · simp
    · have := splA_memW c r [] x h; simp at this ⊢; omega
  · have := splA_memW c r (cur ++ [y]) x h; simp at this ⊢; omega
theorem tAt_size (V : ByteArray) (i : Nat) : (tAt (sgT V) i).size ≤ V.size := by
 unfold tAt
 rw [List.getD_eq_getElem?_getD]
 cases h : (sgT V)[i]? with
 | none => exact Nat.zero_le _
 | some x =>
  have hm := List.mem_of_getElem? h
  unfold sgT at hm
  split at hm
  · cases hm
  · unfold splB at hm
    obtain ⟨y, hy, rfl⟩ := List.mem_map.1 hm
    have q := splA_memW 44 _ _ _ hy
    show (ofL y).size ≤ V.size
    rw [ofL_size]
    simpa using q
theorem SgAt.setRow {w : World} {sA : Option Addr} {mc : Nat} {L : List ByteArray} (h : SgAt w sA mc L) {X : Nat} {t : TypeId} {cs : Array Value} (hr : RowAt w X t cs) (ht : t ≠ 9) (c' : Array Value) : SgAt (w.setRow X c') sA mc L := by
 rcases h with h | ⟨b, h1, h2, h⟩
 · exact .inl h
 · refine .inr ⟨b, h1, h2, h.otherRow _ _ fun e => ?_⟩
   subst e
   unfold RowAt at h hr
   rw [h] at hr
   cases hr
   exact ht rfl
end Go.Proofs.YtkcjigelenofhaaGreatDoor
