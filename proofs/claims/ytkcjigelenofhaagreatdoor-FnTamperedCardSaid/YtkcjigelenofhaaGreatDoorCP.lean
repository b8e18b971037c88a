import Derived.Test.YtkcjigelenofhaaGreatDoorG15
import Derived.Test.YtkcjigelenofhaaGreatDoorG8
import Derived.Test.YtkcjigelenofhaaGreatDoorG8
namespace Go.Proofs.YtkcjigelenofhaaGreatDoor
open Go.RowKit
set_option linter.unusedVariables false
def pao0 : Oper := ⟨some 63, .load 25 (.tmp 1), 25, "l10_request.go:479", #[], none⟩
def pao1 : Oper := ⟨some 64, .load 72 (.tmp 3), 72, "l10_request.go:479", #[⟨16, .gcOnly .lateStores⟩], none⟩
def pao2 : Oper := ⟨some 65, .move (.tmp 4), 2, "l10_request.go:479", #[⟨17, .gcOnly .lateStores⟩], none⟩
def pao3 : Oper := ⟨some 66, .load 72 (.tmp 3), 72, "l10_request.go:479", #[], none⟩
def pao4 : Oper := ⟨some 67, .move (.tmp 6), 23, "l10_request.go:479", #[], none⟩
def pao5 : Oper := ⟨some 68, .fieldAddr 25 (.tmp 1) 3, 0, "l10_request.go:479", #[], none⟩
def pao6 : Oper := ⟨some 69, .load 23 (.tmp 68), 23, "l10_request.go:479", #[⟨5, .data⟩], none⟩
def pao7 : Oper := ⟨some 70, .call { callee := .value (.func 39), args := #[.tmp 66, .tmp 67, .tmp 69], argTypes := #[72, 23, 23] }, 4, "l10_request.go:479", #[⟨3, .data⟩, ⟨4, .data⟩, ⟨6, .data⟩], none⟩
def pao8 : Oper := ⟨some 71, .move (.tmp 70), 4, "l10_request.go:479", #[⟨7, .data⟩, ⟨7, .chain⟩], none⟩
def pao9 : Oper := ⟨some 72, .move (.tmp 4), 2, "l10_request.go:479", #[⟨8, .guard⟩], some (8, true)⟩
def pao10 : Oper := ⟨some 73, .binOp .geq 2 (.tmp 72) (.const (.int .i64 0)) 2, 4, "l10_request.go:479", #[⟨9, .data⟩, ⟨8, .guard⟩], some (8, true)⟩
def pao11 : Oper := ⟨some 74, .pick (.tmp 71) (.tmp 73) (.const (.bool false)), 4, "l10_request.go:479", #[⟨8, .data⟩, ⟨10, .data⟩], none⟩
def pao12 : Oper := ⟨some 75, .move (.tmp 74), 4, "l10_request.go:479", #[⟨11, .data⟩, ⟨8, .chain⟩], none⟩
def pao13 : Oper := ⟨some 76, .move (.tmp 4), 2, "l10_request.go:479", #[⟨12, .guard⟩], some (12, true)⟩
def pao14 : Oper := ⟨some 77, .binOp .lss 2 (.tmp 76) (.const (.int .i64 2147483647)) 2, 4, "l10_request.go:479", #[⟨13, .data⟩, ⟨12, .guard⟩, ⟨18, .gcOnly .lateStores⟩], some (12, true)⟩
def pao15 : Oper := ⟨some 78, .pick (.tmp 75) (.tmp 77) (.const (.bool false)), 4, "l10_request.go:479", #[⟨12, .data⟩, ⟨14, .data⟩, ⟨18, .gcOnly .lateStores⟩], none⟩
def pao16 : Oper := ⟨none, .store 25 (.tmp 2) (.tmp 63), 0, "l10_request.go:479", #[⟨0, .data⟩, ⟨12, .chain⟩, ⟨0, .phase⟩, ⟨1, .textOnly .lateStores⟩, ⟨2, .textOnly .lateStores⟩, ⟨3, .phase⟩, ⟨4, .textOnly .lateStores⟩, ⟨5, .textOnly .lateStores⟩, ⟨6, .textOnly .lateStores⟩, ⟨7, .textOnly .lateStoresUnsure⟩, ⟨8, .textOnly .lateStores⟩, ⟨9, .phase⟩, ⟨10, .textOnly .lateStores⟩, ⟨11, .textOnly .lateStores⟩, ⟨12, .textOnly .lateStores⟩, ⟨13, .phase⟩, ⟨14, .textOnly .lateStores⟩, ⟨15, .textOnly .lateStores⟩], none⟩
def pao17 : Oper := ⟨none, .store 72 (.tmp 3) (.tmp 64), 0, "l10_request.go:479", #[⟨1, .data⟩, ⟨16, .chain⟩, ⟨0, .phase⟩, ⟨1, .phase⟩, ⟨2, .textOnly .lateStores⟩, ⟨3, .phase⟩, ⟨4, .textOnly .lateStores⟩, ⟨5, .textOnly .lateStores⟩, ⟨6, .textOnly .lateStores⟩, ⟨7, .textOnly .lateStoresUnsure⟩, ⟨8, .textOnly .lateStores⟩, ⟨9, .phase⟩, ⟨10, .textOnly .lateStores⟩, ⟨11, .textOnly .lateStores⟩, ⟨12, .textOnly .lateStores⟩, ⟨13, .phase⟩, ⟨14, .textOnly .lateStores⟩, ⟨15, .textOnly .lateStores⟩, ⟨16, .phase⟩], none⟩
def pao18 : Oper := ⟨some 4, .assign (.tmp 65), 2, "l10_request.go:479", #[⟨2, .data⟩, ⟨17, .chain⟩, ⟨0, .phase⟩, ⟨1, .phase⟩, ⟨2, .phase⟩, ⟨3, .phase⟩, ⟨4, .textOnly .lateStores⟩, ⟨5, .textOnly .lateStores⟩, ⟨6, .textOnly .lateStores⟩, ⟨7, .textOnly .lateStoresUnsure⟩, ⟨8, .textOnly .lateStores⟩, ⟨9, .phase⟩, ⟨10, .textOnly .lateStores⟩, ⟨11, .textOnly .lateStores⟩, ⟨12, .textOnly .lateStores⟩, ⟨13, .phase⟩, ⟨14, .textOnly .lateStores⟩, ⟨15, .textOnly .lateStores⟩, ⟨16, .phase⟩, ⟨17, .phase⟩], none⟩
def pao19 : Oper := ⟨some 5, .assign (.tmp 78), 4, "l10_request.go:479", #[⟨15, .data⟩, ⟨18, .chain⟩, ⟨0, .phase⟩, ⟨1, .phase⟩, ⟨2, .phase⟩, ⟨3, .phase⟩, ⟨4, .phase⟩, ⟨5, .phase⟩, ⟨6, .phase⟩, ⟨7, .phase⟩, ⟨8, .phase⟩, ⟨9, .phase⟩, ⟨10, .phase⟩, ⟨11, .phase⟩, ⟨12, .phase⟩, ⟨13, .phase⟩, ⟨14, .phase⟩, ⟨15, .phase⟩, ⟨16, .phase⟩, ⟨17, .phase⟩, ⟨18, .phase⟩], none⟩
def paO : Array Oper := #[pao0, pao1, pao2, pao3, pao4, pao5, pao6, pao7, pao8, pao9, pao10, pao11, pao12, pao13, pao14, pao15, pao16, pao17, pao18, pao19]
end Go.Proofs.YtkcjigelenofhaaGreatDoor
namespace Go.Proofs.YtkcjigelenofhaaGreatDoor
open Go.RowKit
set_option linter.unusedVariables false
structure pcP where
 (w0 : World)
 (X1 X2 X3 nn : Nat)
 (mt pt bd V0 : ByteArray)
 (aq : Option Addr)
 (nq cq : Nat)
 (a2 : Option Addr)
 (n2 c2 : Nat)
 (z1 z2 z4 : Int)
 (sA : Option Addr)
 (mc : Nat)
 (L : List ByteArray)
 (sa sf si sj sk sm sn so sp sq sr ss su sv sw sx sy sz ta tb tc td te tf tg th ti tj tk tl tm tn tp tr ts tt tu tv tw tx ty tz ua ub uc ud ue uf ug uh ui uj uk ul um un uo up uq ur us ut uu uv uw ux uy uz ya yb yc yd ye yf : Value)
def pcT (P : pcP) (dm : Nat) (b0 b1 b2 b3 b4 b5 b6 b7 b8 b9 b10 b11 b12 b13 b14 b15 b16 b17 b18 b19 : Bool) : Array Value := #[P.sa, .pointer (some ⟨P.X1, 0, none⟩), .pointer (some ⟨P.X2, 0, none⟩), .pointer (some ⟨P.X3, 0, none⟩), selS b18 (.int .i64 P.z4) (.int .i64 P.z4), selS b19 (.bool (decide (P.z4 < 2147483647))) (P.sf), .slice P.aq P.nn P.cq, P.si, P.sj, P.sk, P.sm, P.sn, P.so, P.sp, P.sq, P.sr, P.ss, P.su, P.sv, P.sw, P.sx, P.sy, P.sz, P.ta, P.tb, P.tc, P.td, P.te, P.tf, P.tg, P.th, P.ti, P.tj, P.tk, P.tl, P.tm, P.tn, P.tp, P.tr, P.ts, P.tt, P.tu, P.tv, P.tw, P.tx, P.ty, P.tz, P.ua, P.ub, P.uc, P.ud, P.ue, P.uf, P.ug, P.uh, P.ui, P.uj, P.uk, P.ul, P.um, P.un, P.uo, P.up, selS b0 (.agg #[.string P.mt, .string P.pt, .slice P.aq P.nq P.cq, .slice P.a2 P.n2 P.c2, .string P.bd]) (P.uq), selS b1 (.agg #[.string P.V0, .int .i64 P.z1, .int .i64 P.z2, .slice P.sA P.L.length P.mc]) (P.ur), selS b2 (.int .i64 P.z4) (P.us), selS b3 (.agg #[.string P.V0, .int .i64 P.z1, .int .i64 P.z2, .slice P.sA P.L.length P.mc]) (P.ut), selS b4 (.slice P.aq P.nn P.cq) (P.uu), selS b5 (.pointer (some ⟨P.X1, 3, none⟩)) (P.uv), selS b6 (.slice P.a2 P.n2 P.c2) (P.uw), selS b7 (.bool true) (P.ux), selS b8 (.bool true) (P.uy), selS b9 (.int .i64 P.z4) (P.uz), selS b10 (.bool true) (P.ya), selS b11 (.bool true) (P.yb), selS b12 (.bool true) (P.yc), selS b13 (.int .i64 P.z4) (P.yd), selS b14 (.bool (decide (P.z4 < 2147483647))) (P.ye), selS b15 (.bool (decide (P.z4 < 2147483647))) (P.yf)]
def pcF (P : pcP) (dm : Nat) (b0 b1 b2 b3 b4 b5 b6 b7 b8 b9 b10 b11 b12 b13 b14 b15 b16 b17 b18 b19 : Bool) (w : World) : Prop := (Below P.w0.heap.size P.w0 w) ∧ (RowAt w P.X1 25 #[.string P.mt, .string P.pt, .slice P.aq P.nq P.cq, .slice P.a2 P.n2 P.c2, .string P.bd]) ∧ (RowAt w P.X2 25 (cond b16 #[.string P.mt, .string P.pt, .slice P.aq P.nq P.cq, .slice P.a2 P.n2 P.c2, .string P.bd] #[.string ⟨#[]⟩, .string ⟨#[]⟩, .slice none 0 0, .slice none 0 0, .string ⟨#[]⟩])) ∧ (RowAt w P.X3 72 #[.string P.V0, .int .i64 P.z1, .int .i64 P.z2, .slice P.sA P.L.length P.mc]) ∧ (SgAt w P.sA P.mc P.L) ∧ (∀ wx, Below P.w0.heap.size P.w0 wx → SgAt wx P.sA P.mc P.L → Calls Tryz.prog 39 #[.agg #[.string P.V0, .int .i64 P.z1, .int .i64 P.z2, .slice P.sA P.L.length P.mc], .slice P.aq P.nn P.cq, .slice P.a2 P.n2 P.c2] wx fun e w' => e = .returned (.bool true) ∧ Below wx.heap.size wx w') ∧ (P.w0.heap.size ≤ P.X1 ∧ P.w0.heap.size ≤ P.X2 ∧ P.w0.heap.size ≤ P.X3 ∧ P.X1 ≠ P.X2 ∧ P.X1 ≠ P.X3 ∧ P.X2 ≠ P.X3) ∧ ((0 : Int) ≤ P.z4)
def pcI (P : pcP) (l : Array Bool) (f : Act) (w : World) : Prop :=
 ∃ (b0 b1 b2 b3 b4 b5 b6 b7 b8 b9 b10 b11 b12 b13 b14 b15 b16 b17 b18 b19 : Bool) (dm : Nat), l = #[b0, b1, b2, b3, b4, b5, b6, b7, b8, b9, b10, b11, b12, b13, b14, b15, b16, b17, b18, b19] ∧ f = { tmps := pcT P dm b0 b1 b2 b3 b4 b5 b6 b7 b8 b9 b10 b11 b12 b13 b14 b15 b16 b17 b18 b19, defers := [] } ∧ pcF P dm b0 b1 b2 b3 b4 b5 b6 b7 b8 b9 b10 b11 b12 b13 b14 b15 b16 b17 b18 b19 w
theorem pcM {P : pcP} {b0 b1 b2 b3 b4 b5 b6 b7 b8 b9 b10 b11 b12 b13 b14 b15 b16 b17 b18 b19 : Bool} (dm : Nat) {l : Array Bool} {f : Act} {w : World} (hl : l = #[b0, b1, b2, b3, b4, b5, b6, b7, b8, b9, b10, b11, b12, b13, b14, b15, b16, b17, b18, b19]) (hf : f = { tmps := pcT P dm b0 b1 b2 b3 b4 b5 b6 b7 b8 b9 b10 b11 b12 b13 b14 b15 b16 b17 b18 b19, defers := [] }) (h : pcF P dm b0 b1 b2 b3 b4 b5 b6 b7 b8 b9 b10 b11 b12 b13 b14 b15 b16 b17 b18 b19 w) : pcI P l f w := ⟨b0, b1, b2, b3, b4, b5, b6, b7, b8, b9, b10, b11, b12, b13, b14, b15, b16, b17, b18, b19, dm, hl, hf, h⟩
set_option maxRecDepth 20000 in
set_option maxHeartbeats 20000000 in
theorem pc_step {Q : Exit → Act → World → Prop} (P : pcP) (l : Array Bool) (f : Act) (w : World) (hC : Closed paO l) (hI : pcI P l f w) (i : Nat) (h0 : l.getD i true = false) (o : Oper) (ho : paO[i]? = some o) (h1 : ∀ e ∈ o.after, Region.binds .any e = true → l.getD e.on false = true) : wpOp Tryz.prog paO Q i (pcI P (l.setIfInBounds i true)) f w := by
 obtain ⟨b0, b1, b2, b3, b4, b5, b6, b7, b8, b9, b10, b11, b12, b13, b14, b15, b16, b17, b18, b19, dm, rfl, rfl, hF⟩ := hI
 have hi : i < 20 := by
  rcases Nat.lt_or_ge i 20 with h | h
  · exact h
  · rw [show paO[i]? = none from Array.getElem?_eq_none h] at ho; cases ho
 rcases (by omega : i = 0 ∨ i = 1 ∨ i = 2 ∨ i = 3 ∨ i = 4 ∨ i = 5 ∨ i = 6 ∨ i = 7 ∨ i = 8 ∨ i = 9 ∨ i = 10 ∨ i = 11 ∨ i = 12 ∨ i = 13 ∨ i = 14 ∨ i = 15 ∨ i = 16 ∨ i = 17 ∨ i = 18 ∨ i = 19) with rfl | rfl | rfl | rfl | rfl | rfl | rfl | rfl | rfl | rfl | rfl | rfl | rfl | rfl | rfl | rfl | rfl | rfl | rfl | rfl
 · obtain rfl : pao0 = o := Option.some.inj ho
   obtain rfl : b0 = false := h0
   have hn := wayN_all hC (i := 0) rfl [(16, 0), (17, 0), (18, 0), (19, 0)] [] nk rfl; repeat (obtain ⟨rfl, hn⟩ := hn)
   obtain ⟨hB, hx1, hx2, hx3, hsg, hkf, hst, hgz⟩ := hF
   have q0 := hx1.cell 0
   have q1 := hx1.cell 1
   have q2 := hx1.cell 2
   have q3 := hx1.cell 3
   have q4 := hx1.cell 4
   refine wpOp_step (o := pao0) rfl (fun K hK => ?_)
   replace hK := hid hK
   simp only [pao0, pcT, selS_f]
   go_simp
   exact hK.out _ _ (pcM dm rfl rfl ⟨hB, hx1, hx2, hx3, hsg, hkf, hst, hgz⟩)
 · obtain rfl : pao1 = o := Option.some.inj ho
   obtain rfl : b1 = false := h0
   have hn := wayN_all hC (i := 1) rfl [(17, 1), (18, 1), (19, 1)] [] nk rfl; repeat (obtain ⟨rfl, hn⟩ := hn)
   obtain ⟨hB, hx1, hx2, hx3, hsg, hkf, hst, hgz⟩ := hF
   have q0 := hx3.cell 0
   have q1 := hx3.cell 1
   have q2 := hx3.cell 2
   have q3 := hx3.cell 3
   refine wpOp_step (o := pao1) rfl (fun K hK => ?_)
   replace hK := hid hK
   simp only [pao1, pcT, selS_f]
   go_simp
   exact hK.out _ _ (pcM dm rfl rfl ⟨hB, hx1, hx2, hx3, hsg, hkf, hst, hgz⟩)
 · obtain rfl : pao2 = o := Option.some.inj ho
   obtain rfl : b2 = false := h0
   have hn := wayN_all hC (i := 2) rfl [(18, 2), (19, 2)] [] nk rfl; repeat (obtain ⟨rfl, hn⟩ := hn)
   obtain ⟨hB, hx1, hx2, hx3, hsg, hkf, hst, hgz⟩ := hF
   refine wpOp_step (o := pao2) rfl (fun K hK => ?_)
   replace hK := hid hK
   simp only [pao2, pcT, selS_f]
   go_simp
   exact hK.out _ _ (pcM dm rfl rfl ⟨hB, hx1, hx2, hx3, hsg, hkf, hst, hgz⟩)
 · obtain rfl : pao3 = o := Option.some.inj ho
   obtain rfl : b3 = false := h0
   have hn := wayN_all hC (i := 3) rfl [(7, 3), (8, 7), (9, 8), (10, 8), (11, 8), (12, 8), (13, 12), (14, 12), (15, 12), (16, 3), (17, 3), (18, 3), (19, 3)] [] nk rfl; repeat (obtain ⟨rfl, hn⟩ := hn)
   obtain ⟨hB, hx1, hx2, hx3, hsg, hkf, hst, hgz⟩ := hF
   have q0 := hx3.cell 0
   have q1 := hx3.cell 1
   have q2 := hx3.cell 2
   have q3 := hx3.cell 3
   refine wpOp_step (o := pao3) rfl (fun K hK => ?_)
   replace hK := hid hK
   simp only [pao3, pcT, selS_f]
   go_simp
   exact hK.out _ _ (pcM dm rfl rfl ⟨hB, hx1, hx2, hx3, hsg, hkf, hst, hgz⟩)
 · obtain rfl : pao4 = o := Option.some.inj ho
   obtain rfl : b4 = false := h0
   have hn := wayN_all hC (i := 4) rfl [(7, 4), (8, 7), (9, 8), (10, 8), (11, 8), (12, 8), (13, 12), (14, 12), (15, 12), (16, 9), (17, 9), (18, 9), (19, 4)] [] nk rfl; repeat (obtain ⟨rfl, hn⟩ := hn)
   obtain ⟨hB, hx1, hx2, hx3, hsg, hkf, hst, hgz⟩ := hF
   refine wpOp_step (o := pao4) rfl (fun K hK => ?_)
   replace hK := hid hK
   simp only [pao4, pcT, selS_f]
   go_simp
   exact hK.out _ _ (pcM dm rfl rfl ⟨hB, hx1, hx2, hx3, hsg, hkf, hst, hgz⟩)
 · obtain rfl : pao5 = o := Option.some.inj ho
   obtain rfl : b5 = false := h0
   have hn := wayN_all hC (i := 5) rfl [(6, 5), (7, 6), (8, 7), (9, 8), (10, 8), (11, 8), (12, 8), (13, 12), (14, 12), (15, 12), (16, 9), (17, 9), (18, 9), (19, 5)] [] nk rfl; repeat (obtain ⟨rfl, hn⟩ := hn)
   obtain ⟨hB, hx1, hx2, hx3, hsg, hkf, hst, hgz⟩ := hF
   refine wpOp_step (o := pao5) rfl (fun K hK => ?_)
   replace hK := hid hK
   simp only [pao5, pcT, selS_f]
   go_simp
   exact hK.out _ _ (pcM dm rfl rfl ⟨hB, hx1, hx2, hx3, hsg, hkf, hst, hgz⟩)
 · obtain rfl : pao6 = o := Option.some.inj ho
   obtain rfl : b6 = false := h0
   have hn := wayP_all (o := pao6) hC h1 [(5, none)] [] nk rfl; repeat (obtain ⟨rfl, hn⟩ := hn)
   have hn := wayN_all hC (i := 6) rfl [(7, 6), (8, 7), (9, 8), (10, 8), (11, 8), (12, 8), (13, 12), (14, 12), (15, 12), (16, 9), (17, 9), (18, 9), (19, 6)] [] nk rfl; repeat (obtain ⟨rfl, hn⟩ := hn)
   obtain ⟨hB, hx1, hx2, hx3, hsg, hkf, hst, hgz⟩ := hF
   have q3 := hx1.cell 3
   refine wpOp_step (o := pao6) rfl (fun K hK => ?_)
   replace hK := hid hK
   simp only [pao6, pcT, selS_t, selS_f]
   go_simp
   exact hK.out _ _ (pcM dm rfl rfl ⟨hB, hx1, hx2, hx3, hsg, hkf, hst, hgz⟩)
 · obtain rfl : pao7 = o := Option.some.inj ho
   obtain rfl : b7 = false := h0
   have hn := wayP_all (o := pao7) hC h1 [(6, none), (4, none), (3, none), (5, some 6)] [] nk rfl; repeat (obtain ⟨rfl, hn⟩ := hn)
   have hn := wayN_all hC (i := 7) rfl [(8, 7), (9, 8), (10, 8), (11, 8), (12, 8), (13, 12), (14, 12), (15, 12), (16, 9), (17, 9), (18, 9), (19, 7)] [] nk rfl; repeat (obtain ⟨rfl, hn⟩ := hn)
   obtain ⟨hB, hx1, hx2, hx3, hsg, hkf, hst, hgz⟩ := hF
   refine wpOp_step (o := pao7) rfl (fun K hK => ?_)
   replace hK := hid hK
   simp only [pao7, pcT, selS_t, selS_f]
   go_simp
   refine (hkf _ hB hsg).mono ?_
   rintro e w2 ⟨rfl, hb2⟩
   dsimp only
   exact hK.out _ _ (pcM dm rfl rfl ⟨hB.trans (hb2.mono hB.size), RowAt.nxS hb2 hx1, RowAt.nxS hb2 hx2, RowAt.nxS hb2 hx3, hsg.below hb2, hkf, hst, hgz⟩)
 · obtain rfl : pao8 = o := Option.some.inj ho
   obtain rfl : b8 = false := h0
   have hn := wayP_all (o := pao8) hC h1 [(7, none), (3, some 7), (4, some 7), (6, some 7), (5, some 6)] [] nk rfl; repeat (obtain ⟨rfl, hn⟩ := hn)
   have hn := wayN_all hC (i := 8) rfl [(9, 8), (10, 8), (11, 8), (12, 8), (13, 12), (14, 12), (15, 12), (16, 9), (17, 9), (18, 9), (19, 8)] [] nk rfl; repeat (obtain ⟨rfl, hn⟩ := hn)
   obtain ⟨hB, hx1, hx2, hx3, hsg, hkf, hst, hgz⟩ := hF
   refine wpOp_step (o := pao8) rfl (fun K hK => ?_)
   replace hK := hid hK
   simp only [pao8, pcT, selS_t, selS_f]
   go_simp
   exact hK.out _ _ (pcM dm rfl rfl ⟨hB, hx1, hx2, hx3, hsg, hkf, hst, hgz⟩)
 · obtain rfl : pao9 = o := Option.some.inj ho
   obtain rfl : b9 = false := h0
   have hn := wayP_all (o := pao9) hC h1 [(8, none), (7, some 8), (3, some 7), (4, some 7), (6, some 7), (5, some 6)] [] nk rfl; repeat (obtain ⟨rfl, hn⟩ := hn)
   have hn := wayN_all hC (i := 9) rfl [(10, 9), (11, 10), (12, 11), (13, 12), (14, 12), (15, 12), (16, 9), (17, 9), (18, 9), (19, 9)] [] nk rfl; repeat (obtain ⟨rfl, hn⟩ := hn)
   obtain ⟨hB, hx1, hx2, hx3, hsg, hkf, hst, hgz⟩ := hF
   refine wpOp_step (o := pao9) rfl (fun K hK => ?_)
   replace hK := hid hK
   simp only [pao9, pcT, selS_t, selS_f]
   go_simp
   exact hK.out _ _ (pcM dm rfl rfl ⟨hB, hx1, hx2, hx3, hsg, hkf, hst, hgz⟩)
 · obtain rfl : pao10 = o := Option.some.inj ho
   obtain rfl : b10 = false := h0
   have hn := wayP_all (o := pao10) hC h1 [(9, none), (8, none), (7, some 8), (3, some 7), (4, some 7), (6, some 7), (5, some 6)] [] nk rfl; repeat (obtain ⟨rfl, hn⟩ := hn)
   have hn := wayN_all hC (i := 10) rfl [(11, 10), (12, 11), (13, 12), (14, 12), (15, 12), (16, 12), (17, 13), (18, 13), (19, 10)] [] nk rfl; repeat (obtain ⟨rfl, hn⟩ := hn)
   obtain ⟨hB, hx1, hx2, hx3, hsg, hkf, hst, hgz⟩ := hF
   refine wpOp_step (o := pao10) rfl (fun K hK => ?_)
   replace hK := hid hK
   simp only [pao10, pcT, selS_t, selS_f]
   go_simp
   exact hK.out _ _ (pcM dm rfl rfl ⟨hB, hx1, hx2, hx3, hsg, hkf, hst, hgz⟩)
 · obtain rfl : pao11 = o := Option.some.inj ho
   obtain rfl : b11 = false := h0
   have hn := wayP_all (o := pao11) hC h1 [(10, none), (8, none), (9, some 10), (7, some 8), (3, some 7), (4, some 7), (6, some 7), (5, some 6)] [] nk rfl; repeat (obtain ⟨rfl, hn⟩ := hn)
   have hn := wayN_all hC (i := 11) rfl [(12, 11), (13, 12), (14, 12), (15, 12), (16, 12), (17, 13), (18, 13), (19, 11)] [] nk rfl; repeat (obtain ⟨rfl, hn⟩ := hn)
   obtain ⟨hB, hx1, hx2, hx3, hsg, hkf, hst, hgz⟩ := hF
   refine wpOp_step (o := pao11) rfl (fun K hK => ?_)
   replace hK := hid hK
   simp only [pao11, pcT, selS_t, selS_f]
   go_simp
   exact hK.out _ _ (pcM dm rfl rfl ⟨hB, hx1, hx2, hx3, hsg, hkf, hst, hgz⟩)
 · obtain rfl : pao12 = o := Option.some.inj ho
   obtain rfl : b12 = false := h0
   have hn := wayP_all (o := pao12) hC h1 [(11, none), (8, none), (10, some 11), (9, some 10), (7, some 8), (3, some 7), (4, some 7), (6, some 7), (5, some 6)] [] nk rfl; repeat (obtain ⟨rfl, hn⟩ := hn)
   have hn := wayN_all hC (i := 12) rfl [(13, 12), (14, 12), (15, 12), (16, 12), (17, 13), (18, 13), (19, 12)] [] nk rfl; repeat (obtain ⟨rfl, hn⟩ := hn)
   obtain ⟨hB, hx1, hx2, hx3, hsg, hkf, hst, hgz⟩ := hF
   refine wpOp_step (o := pao12) rfl (fun K hK => ?_)
   replace hK := hid hK
   simp only [pao12, pcT, selS_t, selS_f]
   go_simp
   exact hK.out _ _ (pcM dm rfl rfl ⟨hB, hx1, hx2, hx3, hsg, hkf, hst, hgz⟩)
 · obtain rfl : pao13 = o := Option.some.inj ho
   obtain rfl : b13 = false := h0
   have hn := wayP_all (o := pao13) hC h1 [(12, none), (8, some 12), (11, some 12), (10, some 11), (9, some 10), (7, some 8), (3, some 7), (4, some 7), (6, some 7), (5, some 6)] [] nk rfl; repeat (obtain ⟨rfl, hn⟩ := hn)
   have hn := wayN_all hC (i := 13) rfl [(14, 13), (15, 14), (16, 13), (17, 13), (18, 13), (19, 13)] [] nk rfl; repeat (obtain ⟨rfl, hn⟩ := hn)
   obtain ⟨hB, hx1, hx2, hx3, hsg, hkf, hst, hgz⟩ := hF
   refine wpOp_step (o := pao13) rfl (fun K hK => ?_)
   replace hK := hid hK
   simp only [pao13, pcT, selS_t, selS_f]
   go_simp
   exact hK.out _ _ (pcM dm rfl rfl ⟨hB, hx1, hx2, hx3, hsg, hkf, hst, hgz⟩)
 · obtain rfl : pao14 = o := Option.some.inj ho
   obtain rfl : b14 = false := h0
   have hn := wayP_all (o := pao14) hC h1 [(13, none), (12, none), (8, some 12), (11, some 12), (10, some 11), (9, some 10), (7, some 8), (3, some 7), (4, some 7), (6, some 7), (5, some 6)] [] nk rfl; repeat (obtain ⟨rfl, hn⟩ := hn)
   have hn := wayN_all hC (i := 14) rfl [(15, 14), (19, 14)] [] nk rfl; repeat (obtain ⟨rfl, hn⟩ := hn)
   obtain ⟨hB, hx1, hx2, hx3, hsg, hkf, hst, hgz⟩ := hF
   refine wpOp_step (o := pao14) rfl (fun K hK => ?_)
   replace hK := hid hK
   simp only [pao14, pcT, selS_t, selS_f]
   go_simp
   exact hK.out _ _ (pcM dm rfl rfl ⟨hB, hx1, hx2, hx3, hsg, hkf, hst, hgz⟩)
 · obtain rfl : pao15 = o := Option.some.inj ho
   obtain rfl : b15 = false := h0
   have hn := wayP_all (o := pao15) hC h1 [(14, none), (12, none), (13, some 14), (8, some 12), (11, some 12), (10, some 11), (9, some 10), (7, some 8), (3, some 7), (4, some 7), (6, some 7), (5, some 6)] [] nk rfl; repeat (obtain ⟨rfl, hn⟩ := hn)
   have hn := wayN_all hC (i := 15) rfl [(19, 15)] [] nk rfl; repeat (obtain ⟨rfl, hn⟩ := hn)
   obtain ⟨hB, hx1, hx2, hx3, hsg, hkf, hst, hgz⟩ := hF
   refine wpOp_step (o := pao15) rfl (fun K hK => ?_)
   replace hK := hid hK
   simp only [pao15, pcT, selS_t, selS_f]
   go_simp
   exact hK.out _ _ (pcM dm rfl rfl ⟨hB, hx1, hx2, hx3, hsg, hkf, hst, hgz⟩)
 · obtain rfl : pao16 = o := Option.some.inj ho
   obtain rfl : b16 = false := h0
   have hn := wayP_all (o := pao16) hC h1 [(13, none), (12, none), (9, none), (3, none), (0, none), (8, some 12), (11, some 12), (10, some 11), (7, some 8), (4, some 7), (6, some 7), (5, some 6)] [] nk rfl; repeat (obtain ⟨rfl, hn⟩ := hn)
   have hn := wayN_all hC (i := 16) rfl [(17, 16), (18, 16), (19, 16)] [] nk rfl; repeat (obtain ⟨rfl, hn⟩ := hn)
   obtain ⟨hB, hx1, hx2, hx3, hsg, hkf, hst, hgz⟩ := hF
   have hz : RowAt w P.X2 25 #[.string ⟨#[]⟩, .string ⟨#[]⟩, .slice none 0 0, .slice none 0 0, .string ⟨#[]⟩] := hx2
   have q0 := hz.cell 0
   have q1 := hz.cell 1
   have q2 := hz.cell 2
   have q3 := hz.cell 3
   have q4 := hz.cell 4
   have f0 := hz.free 0
   have f1 := hz.free 1
   have f2 := hz.free 2
   have f3 := hz.free 3
   have f4 := hz.free 4
   refine wpOp_step (o := pao16) rfl (fun K hK => ?_)
   replace hK := hid hK
   simp only [pao16, pcT, selS_t, selS_f]
   go_simp
   exact hK.out _ _ (pcM dm rfl rfl ⟨(((((hB.setCell (by simp; omega) _).setCell (by simp; omega) _).setCell (by simp; omega) _).setCell (by simp; omega) _).setCell (by simp; omega) _), (((((hx1.other ⟨P.X2, 0, none⟩ _ (by simp; omega)).other ⟨P.X2, 1, none⟩ _ (by simp; omega)).other ⟨P.X2, 2, none⟩ _ (by simp; omega)).other ⟨P.X2, 3, none⟩ _ (by simp; omega)).other ⟨P.X2, 4, none⟩ _ (by simp; omega)), (((((hz.set 0 _).set 1 _).set 2 _).set 3 _).set 4 _), (((((hx3.other ⟨P.X2, 0, none⟩ _ (by simp; omega)).other ⟨P.X2, 1, none⟩ _ (by simp; omega)).other ⟨P.X2, 2, none⟩ _ (by simp; omega)).other ⟨P.X2, 3, none⟩ _ (by simp; omega)).other ⟨P.X2, 4, none⟩ _ (by simp; omega)), (SgAt.set (SgAt.set (SgAt.set (SgAt.set (SgAt.set hsg hz (by decide) 0 _) (hz.set 0 _) (by decide) 1 _) ((hz.set 0 _).set 1 _) (by decide) 2 _) (((hz.set 0 _).set 1 _).set 2 _) (by decide) 3 _) ((((hz.set 0 _).set 1 _).set 2 _).set 3 _) (by decide) 4 _), hkf, hst, hgz⟩)
 · obtain rfl : pao17 = o := Option.some.inj ho
   obtain rfl : b17 = false := h0
   have hn := wayP_all (o := pao17) hC h1 [(16, none), (13, none), (9, none), (3, none), (1, none), (0, none), (12, some 16), (8, some 12), (11, some 12), (10, some 11), (7, some 8), (4, some 7), (6, some 7), (5, some 6)] [] nk rfl; repeat (obtain ⟨rfl, hn⟩ := hn)
   have hn := wayN_all hC (i := 17) rfl [(18, 17), (19, 17)] [] nk rfl; repeat (obtain ⟨rfl, hn⟩ := hn)
   obtain ⟨hB, hx1, hx2, hx3, hsg, hkf, hst, hgz⟩ := hF
   have hz : RowAt w P.X3 72 #[.string P.V0, .int .i64 P.z1, .int .i64 P.z2, .slice P.sA P.L.length P.mc] := hx3
   have q0 := hz.cell 0
   have q1 := hz.cell 1
   have q2 := hz.cell 2
   have q3 := hz.cell 3
   have f0 := hz.free 0
   have f1 := hz.free 1
   have f2 := hz.free 2
   have f3 := hz.free 3
   refine wpOp_step (o := pao17) rfl (fun K hK => ?_)
   replace hK := hid hK
   simp only [pao17, pcT, selS_t, selS_f]
   go_simp
   exact hK.out _ _ (pcM dm rfl rfl ⟨((((hB.setCell (by simp; omega) _).setCell (by simp; omega) _).setCell (by simp; omega) _).setCell (by simp; omega) _), ((((hx1.other ⟨P.X3, 0, none⟩ _ (by simp; omega)).other ⟨P.X3, 1, none⟩ _ (by simp; omega)).other ⟨P.X3, 2, none⟩ _ (by simp; omega)).other ⟨P.X3, 3, none⟩ _ (by simp; omega)), ((((hx2.other ⟨P.X3, 0, none⟩ _ (by simp; omega)).other ⟨P.X3, 1, none⟩ _ (by simp; omega)).other ⟨P.X3, 2, none⟩ _ (by simp; omega)).other ⟨P.X3, 3, none⟩ _ (by simp; omega)), ((((hz.set 0 _).set 1 _).set 2 _).set 3 _), (SgAt.set (SgAt.set (SgAt.set (SgAt.set hsg hz (by decide) 0 _) (hz.set 0 _) (by decide) 1 _) ((hz.set 0 _).set 1 _) (by decide) 2 _) (((hz.set 0 _).set 1 _).set 2 _) (by decide) 3 _), hkf, hst, hgz⟩)
 · obtain rfl : pao18 = o := Option.some.inj ho
   obtain rfl : b18 = false := h0
   have hn := wayP_all (o := pao18) hC h1 [(17, none), (16, none), (13, none), (9, none), (3, none), (2, none), (1, none), (0, none), (12, some 16), (8, some 12), (11, some 12), (10, some 11), (7, some 8), (4, some 7), (6, some 7), (5, some 6)] [] nk rfl; repeat (obtain ⟨rfl, hn⟩ := hn)
   have hn := wayN_all hC (i := 18) rfl [(19, 18)] [] nk rfl; repeat (obtain ⟨rfl, hn⟩ := hn)
   obtain ⟨hB, hx1, hx2, hx3, hsg, hkf, hst, hgz⟩ := hF
   refine wpOp_step (o := pao18) rfl (fun K hK => ?_)
   replace hK := hid hK
   simp only [pao18, pcT, selS_t, selS_f]
   go_simp
   exact hK.out _ _ (pcM dm rfl rfl ⟨hB, hx1, hx2, hx3, hsg, hkf, hst, hgz⟩)
 · obtain rfl : pao19 = o := Option.some.inj ho
   obtain rfl : b19 = false := h0
   have hn := wayP_all (o := pao19) hC h1 [(18, none), (17, none), (16, none), (15, none), (14, none), (13, none), (12, none), (11, none), (10, none), (9, none), (8, none), (7, none), (6, none), (5, none), (4, none), (3, none), (2, none), (1, none), (0, none)] [] nk rfl; repeat (obtain ⟨rfl, hn⟩ := hn)
   obtain ⟨hB, hx1, hx2, hx3, hsg, hkf, hst, hgz⟩ := hF
   refine wpOp_step (o := pao19) rfl (fun K hK => ?_)
   replace hK := hid hK
   simp only [pao19, pcT, selS_t, selS_f]
   go_simp
   exact hK.out _ _ (pcM dm rfl rfl ⟨hB, hx1, hx2, hx3, hsg, hkf, hst, hgz⟩)
set_option maxRecDepth 20000 in
set_option maxHeartbeats 4000000 in
theorem pc_wp {Q : Exit → Act → World → Prop} {rid : Nat} (w0 : World) (X1 X2 X3 nn : Nat) (mt pt bd V0 : ByteArray) (aq : Option Addr) (nq cq : Nat) (a2 : Option Addr) (n2 c2 : Nat) (z1 z2 z4 : Int) (sA : Option Addr) (mc : Nat) (L : List ByteArray) {sa sf si sj sk sm sn so sp sq sr ss su sv sw sx sy sz ta tb tc td te tf tg th ti tj tk tl tm tn tp tr ts tt tu tv tw tx ty tz ua ub uc ud ue uf ug uh ui uj uk ul um un uo up uq ur us ut uu uv uw ux uy uz ya yb yc yd ye yf : Value} (w : World) (hB : Below w0.heap.size w0 w) (hx1 : RowAt w X1 25 #[.string mt, .string pt, .slice aq nq cq, .slice a2 n2 c2, .string bd]) (hx2 : RowAt w X2 25 #[.string ⟨#[]⟩, .string ⟨#[]⟩, .slice none 0 0, .slice none 0 0, .string ⟨#[]⟩]) (hx3 : RowAt w X3 72 #[.string V0, .int .i64 z1, .int .i64 z2, .slice sA L.length mc]) (hsg : SgAt w sA mc L) (hkf : ∀ wx, Below w0.heap.size w0 wx → SgAt wx sA mc L → Calls Tryz.prog 39 #[.agg #[.string V0, .int .i64 z1, .int .i64 z2, .slice sA L.length mc], .slice aq nn cq, .slice a2 n2 c2] wx fun e w' => e = .returned (.bool true) ∧ Below wx.heap.size wx w') (hst : w0.heap.size ≤ X1 ∧ w0.heap.size ≤ X2 ∧ w0.heap.size ≤ X3 ∧ X1 ≠ X2 ∧ X1 ≠ X3 ∧ X2 ≠ X3) (hgz : (0 : Int) ≤ z4)
 (fin : ∀ (dm : Nat) (w' : World), (Below w0.heap.size w0 w') → (RowAt w' X1 25 #[.string mt, .string pt, .slice aq nq cq, .slice a2 n2 c2, .string bd]) → (RowAt w' X2 25 #[.string mt, .string pt, .slice aq nq cq, .slice a2 n2 c2, .string bd]) → (RowAt w' X3 72 #[.string V0, .int .i64 z1, .int .i64 z2, .slice sA L.length mc]) → (SgAt w' sA mc L) → (∀ wx, Below w0.heap.size w0 wx → SgAt wx sA mc L → Calls Tryz.prog 39 #[.agg #[.string V0, .int .i64 z1, .int .i64 z2, .slice sA L.length mc], .slice aq nn cq, .slice a2 n2 c2] wx fun e w' => e = .returned (.bool true) ∧ Below wx.heap.size wx w') → (w0.heap.size ≤ X1 ∧ w0.heap.size ≤ X2 ∧ w0.heap.size ≤ X3 ∧ X1 ≠ X2 ∧ X1 ≠ X3 ∧ X2 ≠ X3) → ((0 : Int) ≤ z4) → Q .normal { tmps := #[sa, .pointer (some ⟨X1, 0, none⟩), .pointer (some ⟨X2, 0, none⟩), .pointer (some ⟨X3, 0, none⟩), .int .i64 z4, .bool (decide (z4 < 2147483647)), .slice aq nn cq, si, sj, sk, sm, sn, so, sp, sq, sr, ss, su, sv, sw, sx, sy, sz, ta, tb, tc, td, te, tf, tg, th, ti, tj, tk, tl, tm, tn, tp, tr, ts, tt, tu, tv, tw, tx, ty, tz, ua, ub, uc, ud, ue, uf, ug, uh, ui, uj, uk, ul, um, un, uo, up, .agg #[.string mt, .string pt, .slice aq nq cq, .slice a2 n2 c2, .string bd], .agg #[.string V0, .int .i64 z1, .int .i64 z2, .slice sA L.length mc], .int .i64 z4, .agg #[.string V0, .int .i64 z1, .int .i64 z2, .slice sA L.length mc], .slice aq nn cq, .pointer (some ⟨X1, 3, none⟩), .slice a2 n2 c2, .bool true, .bool true, .int .i64 z4, .bool true, .bool true, .bool true, .int .i64 z4, .bool (decide (z4 < 2147483647)), .bool (decide (z4 < 2147483647))], defers := [] } w') :
 (Code.region rid paO true).wp Tryz.prog Q { tmps := #[sa, .pointer (some ⟨X1, 0, none⟩), .pointer (some ⟨X2, 0, none⟩), .pointer (some ⟨X3, 0, none⟩), .int .i64 z4, sf, .slice aq nn cq, si, sj, sk, sm, sn, so, sp, sq, sr, ss, su, sv, sw, sx, sy, sz, ta, tb, tc, td, te, tf, tg, th, ti, tj, tk, tl, tm, tn, tp, tr, ts, tt, tu, tv, tw, tx, ty, tz, ua, ub, uc, ud, ue, uf, ug, uh, ui, uj, uk, ul, um, un, uo, up, uq, ur, us, ut, uu, uv, uw, ux, uy, uz, ya, yb, yc, yd, ye, yf], defers := [] } w := by
 refine wp_region_invG (ops := paO) (pcI ⟨w0, X1, X2, X3, nn, mt, pt, bd, V0, aq, nq, cq, a2, n2, c2, z1, z2, z4, sA, mc, L, sa, sf, si, sj, sk, sm, sn, so, sp, sq, sr, ss, su, sv, sw, sx, sy, sz, ta, tb, tc, td, te, tf, tg, th, ti, tj, tk, tl, tm, tn, tp, tr, ts, tt, tu, tv, tw, tx, ty, tz, ua, ub, uc, ud, ue, uf, ug, uh, ui, uj, uk, ul, um, un, uo, up, uq, ur, us, ut, uu, uv, uw, ux, uy, uz, ya, yb, yc, yd, ye, yf⟩) (by kernel_rfl) (by kernel_rfl) (fun l f v hI => ?_) (fun l f v hC hI i h0 o ho h1 => pc_step ⟨w0, X1, X2, X3, nn, mt, pt, bd, V0, aq, nq, cq, a2, n2, c2, z1, z2, z4, sA, mc, L, sa, sf, si, sj, sk, sm, sn, so, sp, sq, sr, ss, su, sv, sw, sx, sy, sz, ta, tb, tc, td, te, tf, tg, th, ti, tj, tk, tl, tm, tn, tp, tr, ts, tt, tu, tv, tw, tx, ty, tz, ua, ub, uc, ud, ue, uf, ug, uh, ui, uj, uk, ul, um, un, uo, up, uq, ur, us, ut, uu, uv, uw, ux, uy, uz, ya, yb, yc, yd, ye, yf⟩ l f v hC hI i h0 o ho h1) (fun l f v hI hall => ?_) ?_
 · obtain ⟨_, _, _, _, _, _, _, _, _, _, _, _, _, _, _, _, _, _, _, _, _, rfl, _⟩ := hI; rfl
 · obtain ⟨b0, b1, b2, b3, b4, b5, b6, b7, b8, b9, b10, b11, b12, b13, b14, b15, b16, b17, b18, b19, dm, rfl, rfl, hB, hx1, hx2, hx3, hsg, hkf, hst, hgz⟩ := hI
   have hn := allT hall [0, 1, 2, 3, 4, 5, 6, 7, 8, 9, 10, 11, 12, 13, 14, 15, 16, 17, 18, 19] rfl; repeat (obtain ⟨rfl, hn⟩ := hn)
   exact fin dm v hB hx1 hx2 hx3 hsg hkf hst hgz
 · exact ⟨false, false, false, false, false, false, false, false, false, false, false, false, false, false, false, false, false, false, false, false, 0, rfl, rfl, hB.drew, hx1.drew, hx2.drew, hx3.drew, hsg.below ((Below.refl _ _).drew), hkf, hst, hgz⟩
end Go.Proofs.YtkcjigelenofhaaGreatDoor
