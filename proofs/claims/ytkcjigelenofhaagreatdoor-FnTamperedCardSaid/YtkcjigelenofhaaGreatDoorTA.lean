import Derived.Test.YtkcjigelenofhaaGreatDoorG8
import Derived.Test.YtkcjigelenofhaaGreatDoorD0
import Derived.BigQuiet
namespace Go.Proofs.YtkcjigelenofhaaGreatDoor
open Go.RowKit
set_option linter.unusedVariables false
theorem lwAt_det (w : World) (a : Option Addr) (len cap i : Nat) (hc : CodeOk w a len) (hi : i ≤ 1000) : ∃ r : Nat, r < 256 ∧ ∀ wx, Below w.heap.size w wx →
 Calls Tryz.prog 13 #[.slice a len cap, .int .i64 (i : Int)] wx fun e w' => e = .returned (.int .i64 (r : Int)) ∧ w' = wx := by
 have hl := hc.1
 by_cases h : i < len
 · rcases hc.2 with h0 | ⟨b, off, rfl, hb, hcell⟩
   · omega
   · obtain ⟨z, hz, e0⟩ := hcell i h
     refine ⟨z, hz, fun wx hx => ?_⟩
     have e1 : wx.cell? ⟨b, off + i, none⟩ = some (.int .u8 z) := (hx.cell (p := ⟨b, off + i, none⟩) hb).trans e0
     have i1 : (i : Int) < (len : Int) := by omega
     clear e0 hcell
     go_enter Tryz.func13, Tryz.ntmps13
     go_wp2
     go_ret
     exact ⟨rfl, rfl⟩
 · refine ⟨(i * 61 + 29) % 256, by omega, fun wx hx => ?_⟩
   clear hx
   go_enter Tryz.func13, Tryz.ntmps13
   go_wp2
   go_ret
   exact ⟨congrArg (fun x => Ending.returned (.int .i64 x)) (by omega), rfl⟩
def tao0 : Oper := ⟨some 65, .move (.tmp 12), 22, "laws.go:804", #[], none⟩
def tao1 : Oper := ⟨some 66, .move (.tmp 13), 2, "laws.go:804", #[], none⟩
def tao2 : Oper := ⟨some 67, .move (.tmp 12), 22, "laws.go:804", #[], none⟩
def tao3 : Oper := ⟨some 68, .move (.tmp 13), 2, "laws.go:804", #[], none⟩
def tao4 : Oper := ⟨some 69, .indexAddr 22 (.tmp 67) (.tmp 68), 0, "laws.go:804", #[⟨2, .data⟩, ⟨3, .data⟩], none⟩
def tao5 : Oper := ⟨some 70, .load 5 (.tmp 69), 5, "laws.go:804", #[⟨4, .data⟩], none⟩
def tao6 : Oper := ⟨some 71, .convert 5 2 (.tmp 70), 2, "laws.go:804", #[⟨5, .data⟩], none⟩
def tao7 : Oper := ⟨some 72, .binOp .sub 2 (.tmp 71) (.const (.int .i64 97)) 2, 2, "laws.go:804", #[⟨6, .data⟩], none⟩
def tao8 : Oper := ⟨some 73, .binOp .add 2 (.tmp 72) (.const (.int .i64 1)) 2, 2, "laws.go:804", #[⟨7, .data⟩], none⟩
def tao9 : Oper := ⟨some 74, .move (.tmp 1), 22, "laws.go:804", #[], none⟩
def tao10 : Oper := ⟨some 75, .call { callee := .value (.func 13), args := #[.tmp 74, .const (.int .i64 1)], argTypes := #[22, 3] }, 2, "laws.go:804", #[⟨9, .data⟩], none⟩
def tao11 : Oper := ⟨some 76, .binOp .rem 2 (.tmp 75) (.const (.int .i64 25)) 2, 2, "laws.go:804", #[⟨10, .data⟩], none⟩
def tao12 : Oper := ⟨some 77, .binOp .add 2 (.tmp 73) (.tmp 76) 2, 2, "laws.go:804", #[⟨8, .data⟩, ⟨11, .data⟩], none⟩
def tao13 : Oper := ⟨some 78, .binOp .rem 2 (.tmp 77) (.const (.int .i64 26)) 2, 2, "laws.go:804", #[⟨12, .data⟩], none⟩
def tao14 : Oper := ⟨some 79, .binOp .add 2 (.const (.int .i64 97)) (.tmp 78) 2, 2, "laws.go:804", #[⟨13, .data⟩], none⟩
def tao15 : Oper := ⟨some 80, .convert 2 5 (.tmp 79), 5, "laws.go:804", #[⟨14, .data⟩], none⟩
def tao16 : Oper := ⟨some 81, .indexAddr 22 (.tmp 65) (.tmp 66), 0, "laws.go:804", #[⟨0, .data⟩, ⟨1, .data⟩, ⟨0, .phase⟩, ⟨1, .phase⟩, ⟨2, .phase⟩, ⟨3, .phase⟩, ⟨4, .phase⟩, ⟨5, .phase⟩, ⟨6, .phase⟩, ⟨7, .phase⟩, ⟨8, .phase⟩, ⟨9, .phase⟩, ⟨10, .phase⟩, ⟨11, .phase⟩, ⟨12, .phase⟩, ⟨13, .phase⟩, ⟨14, .phase⟩, ⟨15, .phase⟩], none⟩
def tao17 : Oper := ⟨none, .store 5 (.tmp 81) (.tmp 80), 0, "laws.go:804", #[⟨16, .data⟩, ⟨15, .data⟩, ⟨10, .chain⟩, ⟨0, .phase⟩, ⟨1, .phase⟩, ⟨2, .phase⟩, ⟨3, .phase⟩, ⟨4, .phase⟩, ⟨5, .phase⟩, ⟨6, .phase⟩, ⟨7, .phase⟩, ⟨8, .phase⟩, ⟨9, .phase⟩, ⟨10, .phase⟩, ⟨11, .phase⟩, ⟨12, .phase⟩, ⟨13, .phase⟩, ⟨14, .phase⟩, ⟨15, .phase⟩], none⟩
def taO : Array Oper := #[tao0, tao1, tao2, tao3, tao4, tao5, tao6, tao7, tao8, tao9, tao10, tao11, tao12, tao13, tao14, tao15, tao16, tao17]
structure taP where
 (w0 : World)
 (gb n C k l1 c1 : Nat)
 (a1 : Option Addr)
 (c q q1 r r25 s u d : Nat)
 (fy : Nat → Int)
 (sa sc sd se sf sh si sj sk sm sn sq sr ss su sv sw sx sy sz ta tb tc td te tf tg th ti tj tk tl tm tn tp tr tt tu tv tw tx ty tz ua ub uc ud ue uf ug uh ui uj uk ul um un uo up uq ur us ut uu uv uw ux uy uz va vb vc vd ve vf vg vh vi vj vk vl vm vn vo vp vq vr vs vt vu vv vw vx vy vz xa xb xc xd xe xf xg xh xi xj xk xl xm xn xo xp xq xr xt xu xv xw xx xy xz ya : Value)
def taT (P : taP) (dm : Nat) (b0 b1 b2 b3 b4 b5 b6 b7 b8 b9 b10 b11 b12 b13 b14 b15 b16 b17 : Bool) : Array Value := #[P.sa, .slice P.a1 P.l1 P.c1, P.sc, P.sd, P.se, P.sf, P.sh, P.si, P.sj, P.sk, P.sm, P.sn, .slice (some ⟨P.gb, 0, none⟩) P.n P.C, .int .i64 (P.k : Int), P.sq, P.sr, P.ss, P.su, P.sv, P.sw, P.sx, P.sy, P.sz, P.ta, P.tb, P.tc, P.td, P.te, P.tf, P.tg, P.th, P.ti, P.tj, P.tk, P.tl, P.tm, P.tn, P.tp, P.tr, P.tt, P.tu, P.tv, P.tw, P.tx, P.ty, P.tz, P.ua, P.ub, P.uc, P.ud, P.ue, P.uf, P.ug, P.uh, P.ui, P.uj, P.uk, P.ul, P.um, P.un, P.uo, P.up, P.uq, P.ur, P.us, selS b0 (.slice (some ⟨P.gb, 0, none⟩) P.n P.C) (P.ut), selS b1 (.int .i64 (P.k : Int)) (P.uu), selS b2 (.slice (some ⟨P.gb, 0, none⟩) P.n P.C) (P.uv), selS b3 (.int .i64 (P.k : Int)) (P.uw), selS b4 (.pointer (some ⟨P.gb, P.k, none⟩)) (P.ux), selS b5 (.int .u8 (P.c : Int)) (P.uy), selS b6 (.int .i64 (P.c : Int)) (P.uz), selS b7 (.int .i64 (P.q : Int)) (P.va), selS b8 (.int .i64 (P.q1 : Int)) (P.vb), selS b9 (.slice P.a1 P.l1 P.c1) (P.vc), selS b10 (.int .i64 (P.r : Int)) (P.vd), selS b11 (.int .i64 (P.r25 : Int)) (P.ve), selS b12 (.int .i64 (P.s : Int)) (P.vf), selS b13 (.int .i64 (P.u : Int)) (P.vg), selS b14 (.int .i64 (P.d : Int)) (P.vh), selS b15 (.int .u8 (P.d : Int)) (P.vi), selS b16 (.pointer (some ⟨P.gb, P.k, none⟩)) (P.vj), P.vk, P.vl, P.vm, P.vn, P.vo, P.vp, P.vq, P.vr, P.vs, P.vt, P.vu, P.vv, P.vw, P.vx, P.vy, P.vz, P.xa, P.xb, P.xc, P.xd, P.xe, P.xf, P.xg, P.xh, P.xi, P.xj, P.xk, P.xl, P.xm, P.xn, P.xo, P.xp, P.xq, P.xr, P.xt, P.xu, P.xv, P.xw, P.xx, P.xy, P.xz, P.ya]
def taF (P : taP) (dm : Nat) (b0 b1 b2 b3 b4 b5 b6 b7 b8 b9 b10 b11 b12 b13 b14 b15 b16 b17 : Bool) (w : World) : Prop := (Below P.gb P.w0 w) ∧ (∀ j, j < P.n → w.cell? ⟨P.gb, j, none⟩ = some (.int .u8 (if b17 = true ∧ j = P.k then (P.d : Int) else P.fy j))) ∧ (b17 = false → ∀ j, j < P.n → w.frozen? ⟨P.gb, j, none⟩ = false) ∧ ((P.k : Int) < (P.n : Int)) ∧ (P.fy P.k = (P.c : Int)) ∧ (∀ wx, Below P.gb P.w0 wx → Calls Tryz.prog 13 #[.slice P.a1 P.l1 P.c1, .int .i64 1] wx fun e w' => e = .returned (.int .i64 (P.r : Int)) ∧ w' = wx) ∧ (IntKind.i64.wrap (P.c : Int) = (P.c : Int)) ∧ (IntKind.i64.wrap ((P.c : Int) - 97) = (P.q : Int)) ∧ (IntKind.i64.wrap ((P.q : Int) + 1) = (P.q1 : Int)) ∧ (Int.tmod (P.r : Int) 25 = (P.r25 : Int)) ∧ ((P.r : Int) % 25 = (P.r25 : Int)) ∧ (IntKind.i64.wrap ((P.q1 : Int) + (P.r25 : Int)) = (P.s : Int)) ∧ (Int.tmod (P.s : Int) 26 = (P.u : Int)) ∧ ((P.s : Int) % 26 = (P.u : Int)) ∧ (IntKind.i64.wrap (97 + (P.u : Int)) = (P.d : Int)) ∧ (IntKind.u8.wrap (P.d : Int) = (P.d : Int))
def taI (P : taP) (l : Array Bool) (f : Act) (w : World) : Prop :=
 ∃ (b0 b1 b2 b3 b4 b5 b6 b7 b8 b9 b10 b11 b12 b13 b14 b15 b16 b17 : Bool) (dm : Nat), l = #[b0, b1, b2, b3, b4, b5, b6, b7, b8, b9, b10, b11, b12, b13, b14, b15, b16, b17] ∧ f = { tmps := taT P dm b0 b1 b2 b3 b4 b5 b6 b7 b8 b9 b10 b11 b12 b13 b14 b15 b16 b17, defers := [] } ∧ taF P dm b0 b1 b2 b3 b4 b5 b6 b7 b8 b9 b10 b11 b12 b13 b14 b15 b16 b17 w
theorem taM {P : taP} {b0 b1 b2 b3 b4 b5 b6 b7 b8 b9 b10 b11 b12 b13 b14 b15 b16 b17 : Bool} (dm : Nat) {l : Array Bool} {f : Act} {w : World} (hl : l = #[b0, b1, b2, b3, b4, b5, b6, b7, b8, b9, b10, b11, b12, b13, b14, b15, b16, b17]) (hf : f = { tmps := taT P dm b0 b1 b2 b3 b4 b5 b6 b7 b8 b9 b10 b11 b12 b13 b14 b15 b16 b17, defers := [] }) (h : taF P dm b0 b1 b2 b3 b4 b5 b6 b7 b8 b9 b10 b11 b12 b13 b14 b15 b16 b17 w) : taI P l f w := ⟨b0, b1, b2, b3, b4, b5, b6, b7, b8, b9, b10, b11, b12, b13, b14, b15, b16, b17, dm, hl, hf, h⟩
set_option maxRecDepth 20000 in
set_option maxHeartbeats 20000000 in
theorem ta_step {Q : Exit → Act → World → Prop} (P : taP) (l : Array Bool) (f : Act) (w : World) (hC : Closed taO l) (hI : taI P l f w) (i : Nat) (h0 : l.getD i true = false) (o : Oper) (ho : taO[i]? = some o) (h1 : ∀ e ∈ o.after, Region.binds .any e = true → l.getD e.on false = true) : wpOp Tryz.prog taO Q i (taI P (l.setIfInBounds i true)) f w := by
 obtain ⟨b0, b1, b2, b3, b4, b5, b6, b7, b8, b9, b10, b11, b12, b13, b14, b15, b16, b17, dm, rfl, rfl, hF⟩ := hI
 have hi : i < 18 := by
  rcases Nat.lt_or_ge i 18 with h | h
  · exact h
  · rw [show taO[i]? = none from Array.getElem?_eq_none h] at ho; cases ho
 rcases (by omega : i = 0 ∨ i = 1 ∨ i = 2 ∨ i = 3 ∨ i = 4 ∨ i = 5 ∨ i = 6 ∨ i = 7 ∨ i = 8 ∨ i = 9 ∨ i = 10 ∨ i = 11 ∨ i = 12 ∨ i = 13 ∨ i = 14 ∨ i = 15 ∨ i = 16 ∨ i = 17) with rfl | rfl | rfl | rfl | rfl | rfl | rfl | rfl | rfl | rfl | rfl | rfl | rfl | rfl | rfl | rfl | rfl | rfl
 · obtain rfl : tao0 = o := Option.some.inj ho
   obtain rfl : b0 = false := h0
   have hn := wayN_all hC (i := 0) rfl [(16, 0), (17, 0)] [] nk rfl; repeat (obtain ⟨rfl, hn⟩ := hn)
   obtain ⟨hB, hcj, hfr, hkn, hfc, hca, hw6, hw7, hw8, hm1, hm1e, hw12, hm2, hm2e, hw14, hw15⟩ := hF
   refine wpOp_step (o := tao0) rfl (fun K hK => ?_)
   replace hK := hid hK
   simp only [tao0, taT, selS_f]
   go_simp
   exact hK.out _ _ (taM dm rfl rfl ⟨hB, hcj, hfr, hkn, hfc, hca, hw6, hw7, hw8, hm1, hm1e, hw12, hm2, hm2e, hw14, hw15⟩)
 · obtain rfl : tao1 = o := Option.some.inj ho
   obtain rfl : b1 = false := h0
   have hn := wayN_all hC (i := 1) rfl [(16, 1), (17, 1)] [] nk rfl; repeat (obtain ⟨rfl, hn⟩ := hn)
   obtain ⟨hB, hcj, hfr, hkn, hfc, hca, hw6, hw7, hw8, hm1, hm1e, hw12, hm2, hm2e, hw14, hw15⟩ := hF
   refine wpOp_step (o := tao1) rfl (fun K hK => ?_)
   replace hK := hid hK
   simp only [tao1, taT, selS_f]
   go_simp
   exact hK.out _ _ (taM dm rfl rfl ⟨hB, hcj, hfr, hkn, hfc, hca, hw6, hw7, hw8, hm1, hm1e, hw12, hm2, hm2e, hw14, hw15⟩)
 · obtain rfl : tao2 = o := Option.some.inj ho
   obtain rfl : b2 = false := h0
   have hn := wayN_all hC (i := 2) rfl [(4, 2), (5, 4), (6, 5), (7, 6), (8, 7), (12, 8), (13, 12), (14, 13), (15, 14), (16, 2), (17, 2)] [] nk rfl; repeat (obtain ⟨rfl, hn⟩ := hn)
   obtain ⟨hB, hcj, hfr, hkn, hfc, hca, hw6, hw7, hw8, hm1, hm1e, hw12, hm2, hm2e, hw14, hw15⟩ := hF
   refine wpOp_step (o := tao2) rfl (fun K hK => ?_)
   replace hK := hid hK
   simp only [tao2, taT, selS_f]
   go_simp
   exact hK.out _ _ (taM dm rfl rfl ⟨hB, hcj, hfr, hkn, hfc, hca, hw6, hw7, hw8, hm1, hm1e, hw12, hm2, hm2e, hw14, hw15⟩)
 · obtain rfl : tao3 = o := Option.some.inj ho
   obtain rfl : b3 = false := h0
   have hn := wayN_all hC (i := 3) rfl [(4, 3), (5, 4), (6, 5), (7, 6), (8, 7), (12, 8), (13, 12), (14, 13), (15, 14), (16, 3), (17, 3)] [] nk rfl; repeat (obtain ⟨rfl, hn⟩ := hn)
   obtain ⟨hB, hcj, hfr, hkn, hfc, hca, hw6, hw7, hw8, hm1, hm1e, hw12, hm2, hm2e, hw14, hw15⟩ := hF
   refine wpOp_step (o := tao3) rfl (fun K hK => ?_)
   replace hK := hid hK
   simp only [tao3, taT, selS_f]
   go_simp
   exact hK.out _ _ (taM dm rfl rfl ⟨hB, hcj, hfr, hkn, hfc, hca, hw6, hw7, hw8, hm1, hm1e, hw12, hm2, hm2e, hw14, hw15⟩)
 · obtain rfl : tao4 = o := Option.some.inj ho
   obtain rfl : b4 = false := h0
   have hn := wayP_all (o := tao4) hC h1 [(3, none), (2, none)] [] nk rfl; repeat (obtain ⟨rfl, hn⟩ := hn)
   have hn := wayN_all hC (i := 4) rfl [(5, 4), (6, 5), (7, 6), (8, 7), (12, 8), (13, 12), (14, 13), (15, 14), (16, 4), (17, 4)] [] nk rfl; repeat (obtain ⟨rfl, hn⟩ := hn)
   obtain ⟨hB, hcj, hfr, hkn, hfc, hca, hw6, hw7, hw8, hm1, hm1e, hw12, hm2, hm2e, hw14, hw15⟩ := hF
   refine wpOp_step (o := tao4) rfl (fun K hK => ?_)
   replace hK := hid hK
   simp only [tao4, taT, selS_t, selS_f]
   go_simp
   exact hK.out _ _ (taM dm rfl rfl ⟨hB, hcj, hfr, hkn, hfc, hca, hw6, hw7, hw8, hm1, hm1e, hw12, hm2, hm2e, hw14, hw15⟩)
 · obtain rfl : tao5 = o := Option.some.inj ho
   obtain rfl : b5 = false := h0
   have hn := wayP_all (o := tao5) hC h1 [(4, none), (2, some 4), (3, some 4)] [] nk rfl; repeat (obtain ⟨rfl, hn⟩ := hn)
   have hn := wayN_all hC (i := 5) rfl [(6, 5), (7, 6), (8, 7), (12, 8), (13, 12), (14, 13), (15, 14), (16, 5), (17, 5)] [] nk rfl; repeat (obtain ⟨rfl, hn⟩ := hn)
   obtain ⟨hB, hcj, hfr, hkn, hfc, hca, hw6, hw7, hw8, hm1, hm1e, hw12, hm2, hm2e, hw14, hw15⟩ := hF
   have qk := hcj P.k (by omega)
   rw [if_neg (by simp), hfc] at qk
   refine wpOp_step (o := tao5) rfl (fun K hK => ?_)
   replace hK := hid hK
   simp only [tao5, taT, selS_t, selS_f]
   go_simp
   exact hK.out _ _ (taM dm rfl rfl ⟨hB, hcj, hfr, hkn, hfc, hca, hw6, hw7, hw8, hm1, hm1e, hw12, hm2, hm2e, hw14, hw15⟩)
 · obtain rfl : tao6 = o := Option.some.inj ho
   obtain rfl : b6 = false := h0
   have hn := wayP_all (o := tao6) hC h1 [(5, none), (4, some 5), (2, some 4), (3, some 4)] [] nk rfl; repeat (obtain ⟨rfl, hn⟩ := hn)
   have hn := wayN_all hC (i := 6) rfl [(7, 6), (8, 7), (12, 8), (13, 12), (14, 13), (15, 14), (16, 6), (17, 6)] [] nk rfl; repeat (obtain ⟨rfl, hn⟩ := hn)
   obtain ⟨hB, hcj, hfr, hkn, hfc, hca, hw6, hw7, hw8, hm1, hm1e, hw12, hm2, hm2e, hw14, hw15⟩ := hF
   refine wpOp_step (o := tao6) rfl (fun K hK => ?_)
   replace hK := hid hK
   simp only [tao6, taT, selS_t, selS_f]
   go_simp
   exact hK.out _ _ (taM dm rfl rfl ⟨hB, hcj, hfr, hkn, hfc, hca, hw6, hw7, hw8, hm1, hm1e, hw12, hm2, hm2e, hw14, hw15⟩)
 · obtain rfl : tao7 = o := Option.some.inj ho
   obtain rfl : b7 = false := h0
   have hn := wayP_all (o := tao7) hC h1 [(6, none), (5, some 6), (4, some 5), (2, some 4), (3, some 4)] [] nk rfl; repeat (obtain ⟨rfl, hn⟩ := hn)
   have hn := wayN_all hC (i := 7) rfl [(8, 7), (12, 8), (13, 12), (14, 13), (15, 14), (16, 7), (17, 7)] [] nk rfl; repeat (obtain ⟨rfl, hn⟩ := hn)
   obtain ⟨hB, hcj, hfr, hkn, hfc, hca, hw6, hw7, hw8, hm1, hm1e, hw12, hm2, hm2e, hw14, hw15⟩ := hF
   refine wpOp_step (o := tao7) rfl (fun K hK => ?_)
   replace hK := hid hK
   simp only [tao7, taT, selS_t, selS_f]
   go_simp
   exact hK.out _ _ (taM dm rfl rfl ⟨hB, hcj, hfr, hkn, hfc, hca, hw6, hw7, hw8, hm1, hm1e, hw12, hm2, hm2e, hw14, hw15⟩)
 · obtain rfl : tao8 = o := Option.some.inj ho
   obtain rfl : b8 = false := h0
   have hn := wayP_all (o := tao8) hC h1 [(7, none), (6, some 7), (5, some 6), (4, some 5), (2, some 4), (3, some 4)] [] nk rfl; repeat (obtain ⟨rfl, hn⟩ := hn)
   have hn := wayN_all hC (i := 8) rfl [(12, 8), (13, 12), (14, 13), (15, 14), (16, 8), (17, 8)] [] nk rfl; repeat (obtain ⟨rfl, hn⟩ := hn)
   obtain ⟨hB, hcj, hfr, hkn, hfc, hca, hw6, hw7, hw8, hm1, hm1e, hw12, hm2, hm2e, hw14, hw15⟩ := hF
   refine wpOp_step (o := tao8) rfl (fun K hK => ?_)
   replace hK := hid hK
   simp only [tao8, taT, selS_t, selS_f]
   go_simp
   exact hK.out _ _ (taM dm rfl rfl ⟨hB, hcj, hfr, hkn, hfc, hca, hw6, hw7, hw8, hm1, hm1e, hw12, hm2, hm2e, hw14, hw15⟩)
 · obtain rfl : tao9 = o := Option.some.inj ho
   obtain rfl : b9 = false := h0
   have hn := wayN_all hC (i := 9) rfl [(10, 9), (11, 10), (12, 11), (13, 12), (14, 13), (15, 14), (16, 9), (17, 9)] [] nk rfl; repeat (obtain ⟨rfl, hn⟩ := hn)
   obtain ⟨hB, hcj, hfr, hkn, hfc, hca, hw6, hw7, hw8, hm1, hm1e, hw12, hm2, hm2e, hw14, hw15⟩ := hF
   refine wpOp_step (o := tao9) rfl (fun K hK => ?_)
   replace hK := hid hK
   simp only [tao9, taT, selS_f]
   go_simp
   exact hK.out _ _ (taM dm rfl rfl ⟨hB, hcj, hfr, hkn, hfc, hca, hw6, hw7, hw8, hm1, hm1e, hw12, hm2, hm2e, hw14, hw15⟩)
 · obtain rfl : tao10 = o := Option.some.inj ho
   obtain rfl : b10 = false := h0
   have hn := wayP_all (o := tao10) hC h1 [(9, none)] [] nk rfl; repeat (obtain ⟨rfl, hn⟩ := hn)
   have hn := wayN_all hC (i := 10) rfl [(11, 10), (12, 11), (13, 12), (14, 13), (15, 14), (16, 10), (17, 10)] [] nk rfl; repeat (obtain ⟨rfl, hn⟩ := hn)
   obtain ⟨hB, hcj, hfr, hkn, hfc, hca, hw6, hw7, hw8, hm1, hm1e, hw12, hm2, hm2e, hw14, hw15⟩ := hF
   refine wpOp_step (o := tao10) rfl (fun K hK => ?_)
   replace hK := hid hK
   simp only [tao10, taT, selS_t, selS_f]
   go_simp
   refine (hca _ hB).mono ?_
   rintro e w2 ⟨rfl, rfl⟩
   dsimp only
   exact hK.out _ _ (taM dm rfl rfl ⟨hB, hcj, hfr, hkn, hfc, hca, hw6, hw7, hw8, hm1, hm1e, hw12, hm2, hm2e, hw14, hw15⟩)
 · obtain rfl : tao11 = o := Option.some.inj ho
   obtain rfl : b11 = false := h0
   have hn := wayP_all (o := tao11) hC h1 [(10, none), (9, some 10)] [] nk rfl; repeat (obtain ⟨rfl, hn⟩ := hn)
   have hn := wayN_all hC (i := 11) rfl [(12, 11), (13, 12), (14, 13), (15, 14), (16, 11), (17, 11)] [] nk rfl; repeat (obtain ⟨rfl, hn⟩ := hn)
   obtain ⟨hB, hcj, hfr, hkn, hfc, hca, hw6, hw7, hw8, hm1, hm1e, hw12, hm2, hm2e, hw14, hw15⟩ := hF
   refine wpOp_step (o := tao11) rfl (fun K hK => ?_)
   replace hK := hid hK
   simp only [tao11, taT, selS_t, selS_f]
   go_simp
   exact hK.out _ _ (taM dm rfl rfl ⟨hB, hcj, hfr, hkn, hfc, hca, hw6, hw7, hw8, hm1, hm1e, hw12, hm2, hm2e, hw14, hw15⟩)
 · obtain rfl : tao12 = o := Option.some.inj ho
   obtain rfl : b12 = false := h0
   have hn := wayP_all (o := tao12) hC h1 [(11, none), (8, none), (10, some 11), (9, some 10), (7, some 8), (6, some 7), (5, some 6), (4, some 5), (2, some 4), (3, some 4)] [] nk rfl; repeat (obtain ⟨rfl, hn⟩ := hn)
   have hn := wayN_all hC (i := 12) rfl [(13, 12), (14, 13), (15, 14), (16, 12), (17, 12)] [] nk rfl; repeat (obtain ⟨rfl, hn⟩ := hn)
   obtain ⟨hB, hcj, hfr, hkn, hfc, hca, hw6, hw7, hw8, hm1, hm1e, hw12, hm2, hm2e, hw14, hw15⟩ := hF
   refine wpOp_step (o := tao12) rfl (fun K hK => ?_)
   replace hK := hid hK
   simp only [tao12, taT, selS_t, selS_f]
   go_simp
   exact hK.out _ _ (taM dm rfl rfl ⟨hB, hcj, hfr, hkn, hfc, hca, hw6, hw7, hw8, hm1, hm1e, hw12, hm2, hm2e, hw14, hw15⟩)
 · obtain rfl : tao13 = o := Option.some.inj ho
   obtain rfl : b13 = false := h0
   have hn := wayP_all (o := tao13) hC h1 [(12, none), (8, some 12), (11, some 12), (10, some 11), (9, some 10), (7, some 8), (6, some 7), (5, some 6), (4, some 5), (2, some 4), (3, some 4)] [] nk rfl; repeat (obtain ⟨rfl, hn⟩ := hn)
   have hn := wayN_all hC (i := 13) rfl [(14, 13), (15, 14), (16, 13), (17, 13)] [] nk rfl; repeat (obtain ⟨rfl, hn⟩ := hn)
   obtain ⟨hB, hcj, hfr, hkn, hfc, hca, hw6, hw7, hw8, hm1, hm1e, hw12, hm2, hm2e, hw14, hw15⟩ := hF
   refine wpOp_step (o := tao13) rfl (fun K hK => ?_)
   replace hK := hid hK
   simp only [tao13, taT, selS_t, selS_f]
   go_simp
   exact hK.out _ _ (taM dm rfl rfl ⟨hB, hcj, hfr, hkn, hfc, hca, hw6, hw7, hw8, hm1, hm1e, hw12, hm2, hm2e, hw14, hw15⟩)
 · obtain rfl : tao14 = o := Option.some.inj ho
   obtain rfl : b14 = false := h0
   have hn := wayP_all (o := tao14) hC h1 [(13, none), (12, some 13), (8, some 12), (11, some 12), (10, some 11), (9, some 10), (7, some 8), (6, some 7), (5, some 6), (4, some 5), (2, some 4), (3, some 4)] [] nk rfl; repeat (obtain ⟨rfl, hn⟩ := hn)
   have hn := wayN_all hC (i := 14) rfl [(15, 14), (16, 14), (17, 14)] [] nk rfl; repeat (obtain ⟨rfl, hn⟩ := hn)
   obtain ⟨hB, hcj, hfr, hkn, hfc, hca, hw6, hw7, hw8, hm1, hm1e, hw12, hm2, hm2e, hw14, hw15⟩ := hF
   refine wpOp_step (o := tao14) rfl (fun K hK => ?_)
   replace hK := hid hK
   simp only [tao14, taT, selS_t, selS_f]
   go_simp
   exact hK.out _ _ (taM dm rfl rfl ⟨hB, hcj, hfr, hkn, hfc, hca, hw6, hw7, hw8, hm1, hm1e, hw12, hm2, hm2e, hw14, hw15⟩)
 · obtain rfl : tao15 = o := Option.some.inj ho
   obtain rfl : b15 = false := h0
   have hn := wayP_all (o := tao15) hC h1 [(14, none), (13, some 14), (12, some 13), (8, some 12), (11, some 12), (10, some 11), (9, some 10), (7, some 8), (6, some 7), (5, some 6), (4, some 5), (2, some 4), (3, some 4)] [] nk rfl; repeat (obtain ⟨rfl, hn⟩ := hn)
   have hn := wayN_all hC (i := 15) rfl [(16, 15), (17, 15)] [] nk rfl; repeat (obtain ⟨rfl, hn⟩ := hn)
   obtain ⟨hB, hcj, hfr, hkn, hfc, hca, hw6, hw7, hw8, hm1, hm1e, hw12, hm2, hm2e, hw14, hw15⟩ := hF
   refine wpOp_step (o := tao15) rfl (fun K hK => ?_)
   replace hK := hid hK
   simp only [tao15, taT, selS_t, selS_f]
   go_simp
   exact hK.out _ _ (taM dm rfl rfl ⟨hB, hcj, hfr, hkn, hfc, hca, hw6, hw7, hw8, hm1, hm1e, hw12, hm2, hm2e, hw14, hw15⟩)
 · obtain rfl : tao16 = o := Option.some.inj ho
   obtain rfl : b16 = false := h0
   have hn := wayP_all (o := tao16) hC h1 [(15, none), (14, none), (13, none), (12, none), (11, none), (10, none), (9, none), (8, none), (7, none), (6, none), (5, none), (4, none), (3, none), (2, none), (1, none), (0, none)] [] nk rfl; repeat (obtain ⟨rfl, hn⟩ := hn)
   have hn := wayN_all hC (i := 16) rfl [(17, 16)] [] nk rfl; repeat (obtain ⟨rfl, hn⟩ := hn)
   obtain ⟨hB, hcj, hfr, hkn, hfc, hca, hw6, hw7, hw8, hm1, hm1e, hw12, hm2, hm2e, hw14, hw15⟩ := hF
   refine wpOp_step (o := tao16) rfl (fun K hK => ?_)
   replace hK := hid hK
   simp only [tao16, taT, selS_t, selS_f]
   go_simp
   exact hK.out _ _ (taM dm rfl rfl ⟨hB, hcj, hfr, hkn, hfc, hca, hw6, hw7, hw8, hm1, hm1e, hw12, hm2, hm2e, hw14, hw15⟩)
 · obtain rfl : tao17 = o := Option.some.inj ho
   obtain rfl : b17 = false := h0
   have hn := wayP_all (o := tao17) hC h1 [(16, none), (15, none), (14, none), (13, none), (12, none), (11, none), (10, none), (9, none), (8, none), (7, none), (6, none), (5, none), (4, none), (3, none), (2, none), (1, none), (0, none)] [] nk rfl; repeat (obtain ⟨rfl, hn⟩ := hn)
   obtain ⟨hB, hcj, hfr, hkn, hfc, hca, hw6, hw7, hw8, hm1, hm1e, hw12, hm2, hm2e, hw14, hw15⟩ := hF
   have qk := hcj P.k (by omega)
   rw [if_neg (by simp)] at qk
   have fk := hfr rfl P.k (by omega)
   refine wpOp_step (o := tao17) rfl (fun K hK => ?_)
   replace hK := hid hK
   simp only [tao17, taT, selS_t]
   go_simp
   exact hK.out _ _ (taM dm rfl rfl ⟨hB.setCell (Nat.le_refl _) _, (fun j hj => by
   by_cases e : j = P.k
   · subst e; rw [World.cell?_setCell_same (h := qk), if_pos ⟨rfl, rfl⟩]
   · rw [World.cell?_setCell_other (h := by intro h; exact e (Addr.mk.inj h).2.1.symm), hcj j hj, if_neg (by simp), if_neg (fun h => e h.2)]), fun h => Bool.noConfusion h, hkn, hfc, hca, hw6, hw7, hw8, hm1, hm1e, hw12, hm2, hm2e, hw14, hw15⟩)
set_option maxRecDepth 20000 in
set_option maxHeartbeats 4000000 in
theorem ta_wp {Q : Exit → Act → World → Prop} {rid : Nat} (w0 : World) (gb n C k l1 c1 : Nat) (a1 : Option Addr) (c q q1 r r25 s u d : Nat) (fy : Nat → Int) {sa sc sd se sf sh si sj sk sm sn sq sr ss su sv sw sx sy sz ta tb tc td te tf tg th ti tj tk tl tm tn tp tr tt tu tv tw tx ty tz ua ub uc ud ue uf ug uh ui uj uk ul um un uo up uq ur us ut uu uv uw ux uy uz va vb vc vd ve vf vg vh vi vj vk vl vm vn vo vp vq vr vs vt vu vv vw vx vy vz xa xb xc xd xe xf xg xh xi xj xk xl xm xn xo xp xq xr xt xu xv xw xx xy xz ya : Value} (w : World) (hB : Below gb w0 w) (hcj : ∀ j, j < n → w.cell? ⟨gb, j, none⟩ = some (.int .u8 (if false = true ∧ j = k then (d : Int) else fy j))) (hfr : false = false → ∀ j, j < n → w.frozen? ⟨gb, j, none⟩ = false) (hkn : (k : Int) < (n : Int)) (hfc : fy k = (c : Int)) (hca : ∀ wx, Below gb w0 wx → Calls Tryz.prog 13 #[.slice a1 l1 c1, .int .i64 1] wx fun e w' => e = .returned (.int .i64 (r : Int)) ∧ w' = wx) (hw6 : IntKind.i64.wrap (c : Int) = (c : Int)) (hw7 : IntKind.i64.wrap ((c : Int) - 97) = (q : Int)) (hw8 : IntKind.i64.wrap ((q : Int) + 1) = (q1 : Int)) (hm1 : Int.tmod (r : Int) 25 = (r25 : Int)) (hm1e : (r : Int) % 25 = (r25 : Int)) (hw12 : IntKind.i64.wrap ((q1 : Int) + (r25 : Int)) = (s : Int)) (hm2 : Int.tmod (s : Int) 26 = (u : Int)) (hm2e : (s : Int) % 26 = (u : Int)) (hw14 : IntKind.i64.wrap (97 + (u : Int)) = (d : Int)) (hw15 : IntKind.u8.wrap (d : Int) = (d : Int))
 (fin : ∀ (dm : Nat) (w' : World), (Below gb w0 w') → (∀ j, j < n → w'.cell? ⟨gb, j, none⟩ = some (.int .u8 (if true = true ∧ j = k then (d : Int) else fy j))) → ((k : Int) < (n : Int)) → (fy k = (c : Int)) → (∀ wx, Below gb w0 wx → Calls Tryz.prog 13 #[.slice a1 l1 c1, .int .i64 1] wx fun e w' => e = .returned (.int .i64 (r : Int)) ∧ w' = wx) → (IntKind.i64.wrap (c : Int) = (c : Int)) → (IntKind.i64.wrap ((c : Int) - 97) = (q : Int)) → (IntKind.i64.wrap ((q : Int) + 1) = (q1 : Int)) → (Int.tmod (r : Int) 25 = (r25 : Int)) → ((r : Int) % 25 = (r25 : Int)) → (IntKind.i64.wrap ((q1 : Int) + (r25 : Int)) = (s : Int)) → (Int.tmod (s : Int) 26 = (u : Int)) → ((s : Int) % 26 = (u : Int)) → (IntKind.i64.wrap (97 + (u : Int)) = (d : Int)) → (IntKind.u8.wrap (d : Int) = (d : Int)) → Q .normal { tmps := #[sa, .slice a1 l1 c1, sc, sd, se, sf, sh, si, sj, sk, sm, sn, .slice (some ⟨gb, 0, none⟩) n C, .int .i64 (k : Int), sq, sr, ss, su, sv, sw, sx, sy, sz, ta, tb, tc, td, te, tf, tg, th, ti, tj, tk, tl, tm, tn, tp, tr, tt, tu, tv, tw, tx, ty, tz, ua, ub, uc, ud, ue, uf, ug, uh, ui, uj, uk, ul, um, un, uo, up, uq, ur, us, .slice (some ⟨gb, 0, none⟩) n C, .int .i64 (k : Int), .slice (some ⟨gb, 0, none⟩) n C, .int .i64 (k : Int), .pointer (some ⟨gb, k, none⟩), .int .u8 (c : Int), .int .i64 (c : Int), .int .i64 (q : Int), .int .i64 (q1 : Int), .slice a1 l1 c1, .int .i64 (r : Int), .int .i64 (r25 : Int), .int .i64 (s : Int), .int .i64 (u : Int), .int .i64 (d : Int), .int .u8 (d : Int), .pointer (some ⟨gb, k, none⟩), vk, vl, vm, vn, vo, vp, vq, vr, vs, vt, vu, vv, vw, vx, vy, vz, xa, xb, xc, xd, xe, xf, xg, xh, xi, xj, xk, xl, xm, xn, xo, xp, xq, xr, xt, xu, xv, xw, xx, xy, xz, ya], defers := [] } w') :
 (Code.region rid taO true).wp Tryz.prog Q { tmps := #[sa, .slice a1 l1 c1, sc, sd, se, sf, sh, si, sj, sk, sm, sn, .slice (some ⟨gb, 0, none⟩) n C, .int .i64 (k : Int), sq, sr, ss, su, sv, sw, sx, sy, sz, ta, tb, tc, td, te, tf, tg, th, ti, tj, tk, tl, tm, tn, tp, tr, tt, tu, tv, tw, tx, ty, tz, ua, ub, uc, ud, ue, uf, ug, uh, ui, uj, uk, ul, um, un, uo, up, uq, ur, us, ut, uu, uv, uw, ux, uy, uz, va, vb, vc, vd, ve, vf, vg, vh, vi, vj, vk, vl, vm, vn, vo, vp, vq, vr, vs, vt, vu, vv, vw, vx, vy, vz, xa, xb, xc, xd, xe, xf, xg, xh, xi, xj, xk, xl, xm, xn, xo, xp, xq, xr, xt, xu, xv, xw, xx, xy, xz, ya], defers := [] } w := by
 refine wp_region_inv (ops := taO) (taI ⟨w0, gb, n, C, k, l1, c1, a1, c, q, q1, r, r25, s, u, d, fy, sa, sc, sd, se, sf, sh, si, sj, sk, sm, sn, sq, sr, ss, su, sv, sw, sx, sy, sz, ta, tb, tc, td, te, tf, tg, th, ti, tj, tk, tl, tm, tn, tp, tr, tt, tu, tv, tw, tx, ty, tz, ua, ub, uc, ud, ue, uf, ug, uh, ui, uj, uk, ul, um, un, uo, up, uq, ur, us, ut, uu, uv, uw, ux, uy, uz, va, vb, vc, vd, ve, vf, vg, vh, vi, vj, vk, vl, vm, vn, vo, vp, vq, vr, vs, vt, vu, vv, vw, vx, vy, vz, xa, xb, xc, xd, xe, xf, xg, xh, xi, xj, xk, xl, xm, xn, xo, xp, xq, xr, xt, xu, xv, xw, xx, xy, xz, ya⟩) (by kernel_rfl) (by kernel_rfl) (fun l f v hI => ?_) (fun l f v hC hI i h0 o ho h1 => ta_step ⟨w0, gb, n, C, k, l1, c1, a1, c, q, q1, r, r25, s, u, d, fy, sa, sc, sd, se, sf, sh, si, sj, sk, sm, sn, sq, sr, ss, su, sv, sw, sx, sy, sz, ta, tb, tc, td, te, tf, tg, th, ti, tj, tk, tl, tm, tn, tp, tr, tt, tu, tv, tw, tx, ty, tz, ua, ub, uc, ud, ue, uf, ug, uh, ui, uj, uk, ul, um, un, uo, up, uq, ur, us, ut, uu, uv, uw, ux, uy, uz, va, vb, vc, vd, ve, vf, vg, vh, vi, vj, vk, vl, vm, vn, vo, vp, vq, vr, vs, vt, vu, vv, vw, vx, vy, vz, xa, xb, xc, xd, xe, xf, xg, xh, xi, xj, xk, xl, xm, xn, xo, xp, xq, xr, xt, xu, xv, xw, xx, xy, xz, ya⟩ l f v hC hI i h0 o ho h1) (fun l f v hI hall => ?_) ?_
 · obtain ⟨_, _, _, _, _, _, _, _, _, _, _, _, _, _, _, _, _, _, _, rfl, _⟩ := hI; rfl
 · obtain ⟨b0, b1, b2, b3, b4, b5, b6, b7, b8, b9, b10, b11, b12, b13, b14, b15, b16, b17, dm, rfl, rfl, hB, hcj, hfr, hkn, hfc, hca, hw6, hw7, hw8, hm1, hm1e, hw12, hm2, hm2e, hw14, hw15⟩ := hI
   have hn := allT hall [0, 1, 2, 3, 4, 5, 6, 7, 8, 9, 10, 11, 12, 13, 14, 15, 16, 17] rfl; repeat (obtain ⟨rfl, hn⟩ := hn)
   exact fin dm v hB hcj hkn hfc hca hw6 hw7 hw8 hm1 hm1e hw12 hm2 hm2e hw14 hw15
 · exact ⟨false, false, false, false, false, false, false, false, false, false, false, false, false, false, false, false, false, false, 0, rfl, rfl, hB.drew, hcj, hfr, hkn, hfc, hca, hw6, hw7, hw8, hm1, hm1e, hw12, hm2, hm2e, hw14, hw15⟩
end Go.Proofs.YtkcjigelenofhaaGreatDoor
namespace Go.Proofs.YtkcjigelenofhaaGreatDoor
open Go.RowKit
set_option linter.unusedVariables false
def tbo0 : Oper := ⟨some 96, .fieldAddr 25 (.tmp 10) 4, 0, "laws.go:814", #[], none⟩
def tbo1 : Oper := ⟨some 97, .load 9 (.tmp 96), 9, "laws.go:814", #[⟨0, .data⟩], none⟩
def tbo2 : Oper := ⟨some 98, .move (.tmp 1), 22, "laws.go:814", #[], none⟩
def tbo3 : Oper := ⟨some 99, .call { callee := .value (.func 13), args := #[.tmp 98, .const (.int .i64 2)], argTypes := #[22, 3] }, 2, "laws.go:814", #[⟨2, .data⟩], none⟩
def tbo4 : Oper := ⟨some 100, .move (.tmp 1), 22, "laws.go:814", #[], none⟩
def tbo5 : Oper := ⟨some 101, .call { callee := .value (.func 13), args := #[.tmp 100, .const (.int .i64 3)], argTypes := #[22, 3] }, 2, "laws.go:814", #[⟨4, .data⟩, ⟨3, .chain⟩], none⟩
def tbo6 : Oper := ⟨some 102, .call { callee := .value (.func 12), args := #[.tmp 97, .tmp 99, .tmp 101], argTypes := #[9, 2, 2] }, 9, "laws.go:814", #[⟨1, .data⟩, ⟨3, .data⟩, ⟨5, .data⟩, ⟨5, .chain⟩], none⟩
def tbo7 : Oper := ⟨some 103, .fieldAddr 25 (.tmp 15) 4, 0, "laws.go:814", #[⟨0, .phase⟩, ⟨1, .phase⟩, ⟨2, .phase⟩, ⟨3, .phase⟩, ⟨4, .phase⟩, ⟨5, .phase⟩, ⟨6, .phase⟩], none⟩
def tbo8 : Oper := ⟨none, .store 9 (.tmp 103) (.tmp 102), 0, "laws.go:814", #[⟨7, .data⟩, ⟨6, .data⟩, ⟨6, .chain⟩, ⟨0, .phase⟩, ⟨1, .phase⟩, ⟨2, .phase⟩, ⟨3, .phase⟩, ⟨4, .phase⟩, ⟨5, .phase⟩, ⟨6, .phase⟩], none⟩
def tbO : Array Oper := #[tbo0, tbo1, tbo2, tbo3, tbo4, tbo5, tbo6, tbo7, tbo8]
structure tbP where
 (w0 : World)
 (X10 X15 l1 c1 r2 r3 : Nat)
 (a1 : Option Addr)
 (mt pt bd : ByteArray)
 (aq : Option Addr)
 (nq cq : Nat)
 (ah : Option Addr)
 (nh ch : Nat)
 (sa sc sd se sf sh si sj sk sn so sp sq ss su sv sw sx sy sz ta tb tc td te tf tg th ti tj tk tl tm tn tp tr tt tu tv tw tx ty tz ua ub uc ud ue uf ug uh ui uj uk ul um un uo up uq ur us ut uu uv uw ux uy uz va vb vc vd ve vf vg vh vi vj vk vl vm vn vo vp vq vr vs vt vu vv vw vx vy vz xa xb xc xd xe xf xg xh xi xj xk xl xm xn xo xp xq xr xt xu xv xw xx xy xz ya : Value)
def tbT (P : tbP) (t8 : ByteArray) (b0 b1 b2 b3 b4 b5 b6 b7 b8 : Bool) : Array Value := #[P.sa, .slice P.a1 P.l1 P.c1, P.sc, P.sd, P.se, P.sf, P.sh, P.si, P.sj, P.sk, .pointer (some ⟨P.X10, 0, none⟩), P.sn, P.so, P.sp, P.sq, .pointer (some ⟨P.X15, 0, none⟩), P.ss, P.su, P.sv, P.sw, P.sx, P.sy, P.sz, P.ta, P.tb, P.tc, P.td, P.te, P.tf, P.tg, P.th, P.ti, P.tj, P.tk, P.tl, P.tm, P.tn, P.tp, P.tr, P.tt, P.tu, P.tv, P.tw, P.tx, P.ty, P.tz, P.ua, P.ub, P.uc, P.ud, P.ue, P.uf, P.ug, P.uh, P.ui, P.uj, P.uk, P.ul, P.um, P.un, P.uo, P.up, P.uq, P.ur, P.us, P.ut, P.uu, P.uv, P.uw, P.ux, P.uy, P.uz, P.va, P.vb, P.vc, P.vd, P.ve, P.vf, P.vg, P.vh, P.vi, P.vj, P.vk, P.vl, P.vm, P.vn, P.vo, P.vp, P.vq, P.vr, P.vs, P.vt, P.vu, P.vv, P.vw, P.vx, selS b0 (.pointer (some ⟨P.X10, 4, none⟩)) (P.vy), selS b1 (.string P.bd) (P.vz), selS b2 (.slice P.a1 P.l1 P.c1) (P.xa), selS b3 (.int .i64 (P.r2 : Int)) (P.xb), selS b4 (.slice P.a1 P.l1 P.c1) (P.xc), selS b5 (.int .i64 (P.r3 : Int)) (P.xd), selS b6 (.string t8) (P.xe), selS b7 (.pointer (some ⟨P.X15, 4, none⟩)) (P.xf), P.xg, P.xh, P.xi, P.xj, P.xk, P.xl, P.xm, P.xn, P.xo, P.xp, P.xq, P.xr, P.xt, P.xu, P.xv, P.xw, P.xx, P.xy, P.xz, P.ya]
def tbF (P : tbP) (t8 : ByteArray) (b0 b1 b2 b3 b4 b5 b6 b7 b8 : Bool) (w : World) : Prop := (Below P.X15 P.w0 w) ∧ (P.X15 < w.heap.size) ∧ (RowAt w P.X10 25 #[.string P.mt, .string P.pt, .slice P.aq P.nq P.cq, .slice P.ah P.nh P.ch, .string P.bd]) ∧ (RowAt w P.X15 25 (cond b8 #[.string P.mt, .string P.pt, .slice P.aq P.nq P.cq, .slice P.ah P.nh P.ch, .string t8] #[.string P.mt, .string P.pt, .slice P.aq P.nq P.cq, .slice P.ah P.nh P.ch, .string P.bd])) ∧ (P.X10 < P.X15) ∧ (∀ wx, Below P.X15 P.w0 wx → Calls Tryz.prog 13 #[.slice P.a1 P.l1 P.c1, .int .i64 2] wx fun e w' => e = .returned (.int .i64 (P.r2 : Int)) ∧ w' = wx) ∧ (∀ wx, Below P.X15 P.w0 wx → Calls Tryz.prog 13 #[.slice P.a1 P.l1 P.c1, .int .i64 3] wx fun e w' => e = .returned (.int .i64 (P.r3 : Int)) ∧ w' = wx) ∧ (∀ wx, Below P.X15 P.w0 wx → Calls Tryz.prog 12 #[.string P.bd, .int .i64 (P.r2 : Int), .int .i64 (P.r3 : Int)] wx fun e w' => (∃ (k : Nat) (d : UInt8), ∃ h : k < P.bd.size, d ≠ P.bd[k] ∧ e = .returned (.string ⟨(turned P.bd k d).toArray⟩)) ∧ Below wx.heap.size wx w') ∧ (b6 = true → ∃ (k : Nat) (d : UInt8), ∃ h : k < P.bd.size, d ≠ P.bd[k] ∧ t8 = ⟨(turned P.bd k d).toArray⟩)
def tbI (P : tbP) (l : Array Bool) (f : Act) (w : World) : Prop :=
 ∃ (b0 b1 b2 b3 b4 b5 b6 b7 b8 : Bool) (t8 : ByteArray), l = #[b0, b1, b2, b3, b4, b5, b6, b7, b8] ∧ f = { tmps := tbT P t8 b0 b1 b2 b3 b4 b5 b6 b7 b8, defers := [] } ∧ tbF P t8 b0 b1 b2 b3 b4 b5 b6 b7 b8 w
theorem tbM {P : tbP} {b0 b1 b2 b3 b4 b5 b6 b7 b8 : Bool} (t8 : ByteArray) {l : Array Bool} {f : Act} {w : World} (hl : l = #[b0, b1, b2, b3, b4, b5, b6, b7, b8]) (hf : f = { tmps := tbT P t8 b0 b1 b2 b3 b4 b5 b6 b7 b8, defers := [] }) (h : tbF P t8 b0 b1 b2 b3 b4 b5 b6 b7 b8 w) : tbI P l f w := ⟨b0, b1, b2, b3, b4, b5, b6, b7, b8, t8, hl, hf, h⟩
set_option maxRecDepth 20000 in
set_option maxHeartbeats 20000000 in
theorem tb_step {Q : Exit → Act → World → Prop} (P : tbP) (l : Array Bool) (f : Act) (w : World) (hC : Closed tbO l) (hI : tbI P l f w) (i : Nat) (h0 : l.getD i true = false) (o : Oper) (ho : tbO[i]? = some o) (h1 : ∀ e ∈ o.after, Region.binds .any e = true → l.getD e.on false = true) : wpOp Tryz.prog tbO Q i (tbI P (l.setIfInBounds i true)) f w := by
 obtain ⟨b0, b1, b2, b3, b4, b5, b6, b7, b8, t8, rfl, rfl, hF⟩ := hI
 have hi : i < 9 := by
  rcases Nat.lt_or_ge i 9 with h | h
  · exact h
  · rw [show tbO[i]? = none from Array.getElem?_eq_none h] at ho; cases ho
 rcases (by omega : i = 0 ∨ i = 1 ∨ i = 2 ∨ i = 3 ∨ i = 4 ∨ i = 5 ∨ i = 6 ∨ i = 7 ∨ i = 8) with rfl | rfl | rfl | rfl | rfl | rfl | rfl | rfl | rfl
 · obtain rfl : tbo0 = o := Option.some.inj ho
   obtain rfl : b0 = false := h0
   have hn := wayN_all hC (i := 0) rfl [(1, 0), (6, 1), (7, 0), (8, 0)] [] nk rfl; repeat (obtain ⟨rfl, hn⟩ := hn)
   obtain ⟨hB, hxw, hx10, hx15, hxl, hc2, hc3, hkt, ht8⟩ := hF
   refine wpOp_step (o := tbo0) rfl (fun K hK => ?_)
   replace hK := hid hK
   simp only [tbo0, tbT, selS_f]
   go_simp
   exact hK.out _ _ (tbM t8 rfl rfl ⟨hB, hxw, hx10, hx15, hxl, hc2, hc3, hkt, fun h => Bool.noConfusion h⟩)
 · obtain rfl : tbo1 = o := Option.some.inj ho
   obtain rfl : b1 = false := h0
   have hn := wayP_all (o := tbo1) hC h1 [(0, none)] [] nk rfl; repeat (obtain ⟨rfl, hn⟩ := hn)
   have hn := wayN_all hC (i := 1) rfl [(6, 1), (7, 1), (8, 1)] [] nk rfl; repeat (obtain ⟨rfl, hn⟩ := hn)
   obtain ⟨hB, hxw, hx10, hx15, hxl, hc2, hc3, hkt, ht8⟩ := hF
   have q4 := hx10.cell 4
   refine wpOp_step (o := tbo1) rfl (fun K hK => ?_)
   replace hK := hid hK
   simp only [tbo1, tbT, selS_t, selS_f]
   go_simp
   exact hK.out _ _ (tbM t8 rfl rfl ⟨hB, hxw, hx10, hx15, hxl, hc2, hc3, hkt, fun h => Bool.noConfusion h⟩)
 · obtain rfl : tbo2 = o := Option.some.inj ho
   obtain rfl : b2 = false := h0
   have hn := wayN_all hC (i := 2) rfl [(3, 2), (5, 3), (6, 3), (7, 2), (8, 2)] [] nk rfl; repeat (obtain ⟨rfl, hn⟩ := hn)
   obtain ⟨hB, hxw, hx10, hx15, hxl, hc2, hc3, hkt, ht8⟩ := hF
   refine wpOp_step (o := tbo2) rfl (fun K hK => ?_)
   replace hK := hid hK
   simp only [tbo2, tbT, selS_f]
   go_simp
   exact hK.out _ _ (tbM t8 rfl rfl ⟨hB, hxw, hx10, hx15, hxl, hc2, hc3, hkt, fun h => Bool.noConfusion h⟩)
 · obtain rfl : tbo3 = o := Option.some.inj ho
   obtain rfl : b3 = false := h0
   have hn := wayP_all (o := tbo3) hC h1 [(2, none)] [] nk rfl; repeat (obtain ⟨rfl, hn⟩ := hn)
   have hn := wayN_all hC (i := 3) rfl [(5, 3), (6, 3), (7, 3), (8, 3)] [] nk rfl; repeat (obtain ⟨rfl, hn⟩ := hn)
   obtain ⟨hB, hxw, hx10, hx15, hxl, hc2, hc3, hkt, ht8⟩ := hF
   refine wpOp_step (o := tbo3) rfl (fun K hK => ?_)
   replace hK := hid hK
   simp only [tbo3, tbT, selS_t, selS_f]
   go_simp
   refine (hc2 _ hB).mono ?_
   rintro e w2 ⟨rfl, rfl⟩
   dsimp only
   exact hK.out _ _ (tbM t8 rfl rfl ⟨hB, hxw, hx10, hx15, hxl, hc2, hc3, hkt, fun h => Bool.noConfusion h⟩)
 · obtain rfl : tbo4 = o := Option.some.inj ho
   obtain rfl : b4 = false := h0
   have hn := wayN_all hC (i := 4) rfl [(5, 4), (6, 5), (7, 4), (8, 4)] [] nk rfl; repeat (obtain ⟨rfl, hn⟩ := hn)
   obtain ⟨hB, hxw, hx10, hx15, hxl, hc2, hc3, hkt, ht8⟩ := hF
   refine wpOp_step (o := tbo4) rfl (fun K hK => ?_)
   replace hK := hid hK
   simp only [tbo4, tbT, selS_f]
   go_simp
   exact hK.out _ _ (tbM t8 rfl rfl ⟨hB, hxw, hx10, hx15, hxl, hc2, hc3, hkt, fun h => Bool.noConfusion h⟩)
 · obtain rfl : tbo5 = o := Option.some.inj ho
   obtain rfl : b5 = false := h0
   have hn := wayP_all (o := tbo5) hC h1 [(4, none), (3, none), (2, some 3)] [] nk rfl; repeat (obtain ⟨rfl, hn⟩ := hn)
   have hn := wayN_all hC (i := 5) rfl [(6, 5), (7, 5), (8, 5)] [] nk rfl; repeat (obtain ⟨rfl, hn⟩ := hn)
   obtain ⟨hB, hxw, hx10, hx15, hxl, hc2, hc3, hkt, ht8⟩ := hF
   refine wpOp_step (o := tbo5) rfl (fun K hK => ?_)
   replace hK := hid hK
   simp only [tbo5, tbT, selS_t, selS_f]
   go_simp
   refine (hc3 _ hB).mono ?_
   rintro e w2 ⟨rfl, rfl⟩
   dsimp only
   exact hK.out _ _ (tbM t8 rfl rfl ⟨hB, hxw, hx10, hx15, hxl, hc2, hc3, hkt, fun h => Bool.noConfusion h⟩)
 · obtain rfl : tbo6 = o := Option.some.inj ho
   obtain rfl : b6 = false := h0
   have hn := wayP_all (o := tbo6) hC h1 [(5, none), (3, none), (1, none), (4, some 5), (2, some 3), (0, some 1)] [] nk rfl; repeat (obtain ⟨rfl, hn⟩ := hn)
   have hn := wayN_all hC (i := 6) rfl [(7, 6), (8, 6)] [] nk rfl; repeat (obtain ⟨rfl, hn⟩ := hn)
   obtain ⟨hB, hxw, hx10, hx15, hxl, hc2, hc3, hkt, ht8⟩ := hF
   refine wpOp_step (o := tbo6) rfl (fun K hK => ?_)
   replace hK := hid hK
   simp only [tbo6, tbT, selS_t, selS_f]
   go_simp
   refine (hkt _ hB).mono ?_
   rintro e w2 ⟨⟨k9, d9, h9, hne9, rfl⟩, hb2⟩
   dsimp only
   exact hK.out _ _ (tbM (⟨(turned P.bd k9 d9).toArray⟩) rfl rfl ⟨hB.trans (hb2.mono (Nat.le_of_lt hxw)), Nat.lt_of_lt_of_le hxw hb2.size, RowAt.nxS hb2 hx10, RowAt.nxS hb2 hx15, hxl, hc2, hc3, hkt, fun _ => ⟨k9, d9, h9, hne9, rfl⟩⟩)
 · obtain rfl : tbo7 = o := Option.some.inj ho
   obtain rfl : b7 = false := h0
   have hn := wayP_all (o := tbo7) hC h1 [(6, none), (5, none), (4, none), (3, none), (2, none), (1, none), (0, none)] [] nk rfl; repeat (obtain ⟨rfl, hn⟩ := hn)
   have hn := wayN_all hC (i := 7) rfl [(8, 7)] [] nk rfl; repeat (obtain ⟨rfl, hn⟩ := hn)
   obtain ⟨hB, hxw, hx10, hx15, hxl, hc2, hc3, hkt, ht8⟩ := hF
   refine wpOp_step (o := tbo7) rfl (fun K hK => ?_)
   replace hK := hid hK
   simp only [tbo7, tbT, selS_t, selS_f]
   go_simp
   exact hK.out _ _ (tbM t8 rfl rfl ⟨hB, hxw, hx10, hx15, hxl, hc2, hc3, hkt, ht8⟩)
 · obtain rfl : tbo8 = o := Option.some.inj ho
   obtain rfl : b8 = false := h0
   have hn := wayP_all (o := tbo8) hC h1 [(7, none), (6, none), (5, none), (4, none), (3, none), (2, none), (1, none), (0, none)] [] nk rfl; repeat (obtain ⟨rfl, hn⟩ := hn)
   obtain ⟨hB, hxw, hx10, hx15, hxl, hc2, hc3, hkt, ht8⟩ := hF
   have hz : RowAt w P.X15 25 #[.string P.mt, .string P.pt, .slice P.aq P.nq P.cq, .slice P.ah P.nh P.ch, .string P.bd] := hx15
   have q4 := hz.cell 4
   have f4 := hz.free 4
   refine wpOp_step (o := tbo8) rfl (fun K hK => ?_)
   replace hK := hid hK
   simp only [tbo8, tbT, selS_t]
   go_simp
   exact hK.out _ _ (tbM t8 rfl rfl ⟨hB.setCell (Nat.le_refl _) _, by simpa [World.setCell] using hxw, hx10.other ⟨P.X15, 4, none⟩ _ (by simp; omega), hz.set 4 _, hxl, hc2, hc3, hkt, ht8⟩)
set_option maxRecDepth 20000 in
set_option maxHeartbeats 4000000 in
theorem tb_wp {Q : Exit → Act → World → Prop} {rid : Nat} (w0 : World) (X10 X15 l1 c1 r2 r3 : Nat) (a1 : Option Addr) (mt pt bd : ByteArray) (aq : Option Addr) (nq cq : Nat) (ah : Option Addr) (nh ch : Nat) {sa sc sd se sf sh si sj sk sn so sp sq ss su sv sw sx sy sz ta tb tc td te tf tg th ti tj tk tl tm tn tp tr tt tu tv tw tx ty tz ua ub uc ud ue uf ug uh ui uj uk ul um un uo up uq ur us ut uu uv uw ux uy uz va vb vc vd ve vf vg vh vi vj vk vl vm vn vo vp vq vr vs vt vu vv vw vx vy vz xa xb xc xd xe xf xg xh xi xj xk xl xm xn xo xp xq xr xt xu xv xw xx xy xz ya : Value} (w : World) (hB : Below X15 w0 w) (hxw : X15 < w.heap.size) (hx10 : RowAt w X10 25 #[.string mt, .string pt, .slice aq nq cq, .slice ah nh ch, .string bd]) (hx15 : RowAt w X15 25 #[.string mt, .string pt, .slice aq nq cq, .slice ah nh ch, .string bd]) (hxl : X10 < X15) (hc2 : ∀ wx, Below X15 w0 wx → Calls Tryz.prog 13 #[.slice a1 l1 c1, .int .i64 2] wx fun e w' => e = .returned (.int .i64 (r2 : Int)) ∧ w' = wx) (hc3 : ∀ wx, Below X15 w0 wx → Calls Tryz.prog 13 #[.slice a1 l1 c1, .int .i64 3] wx fun e w' => e = .returned (.int .i64 (r3 : Int)) ∧ w' = wx) (hkt : ∀ wx, Below X15 w0 wx → Calls Tryz.prog 12 #[.string bd, .int .i64 (r2 : Int), .int .i64 (r3 : Int)] wx fun e w' => (∃ (k : Nat) (d : UInt8), ∃ h : k < bd.size, d ≠ bd[k] ∧ e = .returned (.string ⟨(turned bd k d).toArray⟩)) ∧ Below wx.heap.size wx w')
 (fin : ∀ (t8 : ByteArray) (w' : World), (Below X15 w0 w') → (X15 < w'.heap.size) → (RowAt w' X10 25 #[.string mt, .string pt, .slice aq nq cq, .slice ah nh ch, .string bd]) → (RowAt w' X15 25 #[.string mt, .string pt, .slice aq nq cq, .slice ah nh ch, .string t8]) → (X10 < X15) → (∀ wx, Below X15 w0 wx → Calls Tryz.prog 13 #[.slice a1 l1 c1, .int .i64 2] wx fun e w' => e = .returned (.int .i64 (r2 : Int)) ∧ w' = wx) → (∀ wx, Below X15 w0 wx → Calls Tryz.prog 13 #[.slice a1 l1 c1, .int .i64 3] wx fun e w' => e = .returned (.int .i64 (r3 : Int)) ∧ w' = wx) → (∀ wx, Below X15 w0 wx → Calls Tryz.prog 12 #[.string bd, .int .i64 (r2 : Int), .int .i64 (r3 : Int)] wx fun e w' => (∃ (k : Nat) (d : UInt8), ∃ h : k < bd.size, d ≠ bd[k] ∧ e = .returned (.string ⟨(turned bd k d).toArray⟩)) ∧ Below wx.heap.size wx w') → (∃ (k : Nat) (d : UInt8), ∃ h : k < bd.size, d ≠ bd[k] ∧ t8 = ⟨(turned bd k d).toArray⟩) → Q .normal { tmps := #[sa, .slice a1 l1 c1, sc, sd, se, sf, sh, si, sj, sk, .pointer (some ⟨X10, 0, none⟩), sn, so, sp, sq, .pointer (some ⟨X15, 0, none⟩), ss, su, sv, sw, sx, sy, sz, ta, tb, tc, td, te, tf, tg, th, ti, tj, tk, tl, tm, tn, tp, tr, tt, tu, tv, tw, tx, ty, tz, ua, ub, uc, ud, ue, uf, ug, uh, ui, uj, uk, ul, um, un, uo, up, uq, ur, us, ut, uu, uv, uw, ux, uy, uz, va, vb, vc, vd, ve, vf, vg, vh, vi, vj, vk, vl, vm, vn, vo, vp, vq, vr, vs, vt, vu, vv, vw, vx, .pointer (some ⟨X10, 4, none⟩), .string bd, .slice a1 l1 c1, .int .i64 (r2 : Int), .slice a1 l1 c1, .int .i64 (r3 : Int), .string t8, .pointer (some ⟨X15, 4, none⟩), xg, xh, xi, xj, xk, xl, xm, xn, xo, xp, xq, xr, xt, xu, xv, xw, xx, xy, xz, ya], defers := [] } w') :
 (Code.region rid tbO true).wp Tryz.prog Q { tmps := #[sa, .slice a1 l1 c1, sc, sd, se, sf, sh, si, sj, sk, .pointer (some ⟨X10, 0, none⟩), sn, so, sp, sq, .pointer (some ⟨X15, 0, none⟩), ss, su, sv, sw, sx, sy, sz, ta, tb, tc, td, te, tf, tg, th, ti, tj, tk, tl, tm, tn, tp, tr, tt, tu, tv, tw, tx, ty, tz, ua, ub, uc, ud, ue, uf, ug, uh, ui, uj, uk, ul, um, un, uo, up, uq, ur, us, ut, uu, uv, uw, ux, uy, uz, va, vb, vc, vd, ve, vf, vg, vh, vi, vj, vk, vl, vm, vn, vo, vp, vq, vr, vs, vt, vu, vv, vw, vx, vy, vz, xa, xb, xc, xd, xe, xf, xg, xh, xi, xj, xk, xl, xm, xn, xo, xp, xq, xr, xt, xu, xv, xw, xx, xy, xz, ya], defers := [] } w := by
 refine wp_region_inv (ops := tbO) (tbI ⟨w0, X10, X15, l1, c1, r2, r3, a1, mt, pt, bd, aq, nq, cq, ah, nh, ch, sa, sc, sd, se, sf, sh, si, sj, sk, sn, so, sp, sq, ss, su, sv, sw, sx, sy, sz, ta, tb, tc, td, te, tf, tg, th, ti, tj, tk, tl, tm, tn, tp, tr, tt, tu, tv, tw, tx, ty, tz, ua, ub, uc, ud, ue, uf, ug, uh, ui, uj, uk, ul, um, un, uo, up, uq, ur, us, ut, uu, uv, uw, ux, uy, uz, va, vb, vc, vd, ve, vf, vg, vh, vi, vj, vk, vl, vm, vn, vo, vp, vq, vr, vs, vt, vu, vv, vw, vx, vy, vz, xa, xb, xc, xd, xe, xf, xg, xh, xi, xj, xk, xl, xm, xn, xo, xp, xq, xr, xt, xu, xv, xw, xx, xy, xz, ya⟩) (by kernel_rfl) (by kernel_rfl) (fun l f v hI => ?_) (fun l f v hC hI i h0 o ho h1 => tb_step ⟨w0, X10, X15, l1, c1, r2, r3, a1, mt, pt, bd, aq, nq, cq, ah, nh, ch, sa, sc, sd, se, sf, sh, si, sj, sk, sn, so, sp, sq, ss, su, sv, sw, sx, sy, sz, ta, tb, tc, td, te, tf, tg, th, ti, tj, tk, tl, tm, tn, tp, tr, tt, tu, tv, tw, tx, ty, tz, ua, ub, uc, ud, ue, uf, ug, uh, ui, uj, uk, ul, um, un, uo, up, uq, ur, us, ut, uu, uv, uw, ux, uy, uz, va, vb, vc, vd, ve, vf, vg, vh, vi, vj, vk, vl, vm, vn, vo, vp, vq, vr, vs, vt, vu, vv, vw, vx, vy, vz, xa, xb, xc, xd, xe, xf, xg, xh, xi, xj, xk, xl, xm, xn, xo, xp, xq, xr, xt, xu, xv, xw, xx, xy, xz, ya⟩ l f v hC hI i h0 o ho h1) (fun l f v hI hall => ?_) ?_
 · obtain ⟨_, _, _, _, _, _, _, _, _, _, rfl, _⟩ := hI; rfl
 · obtain ⟨b0, b1, b2, b3, b4, b5, b6, b7, b8, t8, rfl, rfl, hB, hxw, hx10, hx15, hxl, hc2, hc3, hkt, ht8⟩ := hI
   have hn := allT hall [0, 1, 2, 3, 4, 5, 6, 7, 8] rfl; repeat (obtain ⟨rfl, hn⟩ := hn)
   exact fin t8 v hB hxw hx10 hx15 hxl hc2 hc3 hkt (ht8 rfl)
 · exact ⟨false, false, false, false, false, false, false, false, false, ⟨#[]⟩, rfl, rfl, hB.drew, hxw, hx10.drew, hx15.drew, hxl, hc2, hc3, hkt, fun h => Bool.noConfusion h⟩
end Go.Proofs.YtkcjigelenofhaaGreatDoor
