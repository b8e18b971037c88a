import Derived.Test.YtmhkelfmciepaaaGrO2
import Derived.BigQuiet
namespace Go.Proofs.Ytmhkelfmciepaaa
open Go.RowKit
set_option linter.unusedVariables false
/-! A proposal's append (by gengr3.py). -/
def gpo0 : Oper := ⟨some 63, .move (.tmp 0), 29, "l15_group.go:135", #[], none⟩
def gpo1 : Oper := ⟨some 64, .move (.tmp 5), 2, "l15_group.go:135", #[], none⟩
def gpo2 : Oper := ⟨some 65, .buildSlice 26 0 #[], 26, "l15_group.go:135", #[], none⟩
def gpo3 : Oper := ⟨some 66, .move (.tmp 0), 29, "l15_group.go:135", #[], none⟩
def gpo4 : Oper := ⟨some 67, .move (.tmp 5), 2, "l15_group.go:135", #[], none⟩
def gpo5 : Oper := ⟨some 68, .indexAddr 29 (.tmp 66) (.tmp 67), 0, "l15_group.go:135", #[⟨3, .data⟩, ⟨4, .data⟩], none⟩
def gpo6 : Oper := ⟨some 69, .fieldAddr 36 (.tmp 68) 4, 0, "l15_group.go:135", #[⟨5, .data⟩], none⟩
def gpo7 : Oper := ⟨some 70, .load 26 (.tmp 69), 26, "l15_group.go:135", #[⟨6, .data⟩], none⟩
def gpo8 : Oper := ⟨some 71, .call { callee := .builtin Builtin.append, args := #[.tmp 65, .tmp 70], argTypes := #[26, 26] }, 26, "l15_group.go:135", #[⟨2, .data⟩, ⟨7, .data⟩], none⟩
def gpo9 : Oper := ⟨some 72, .move (.tmp 0), 29, "l15_group.go:135", #[], none⟩
def gpo10 : Oper := ⟨some 73, .move (.tmp 5), 2, "l15_group.go:135", #[], none⟩
def gpo11 : Oper := ⟨some 74, .indexAddr 29 (.tmp 72) (.tmp 73), 0, "l15_group.go:135", #[⟨9, .data⟩, ⟨10, .data⟩], none⟩
def gpo12 : Oper := ⟨some 75, .fieldAddr 36 (.tmp 74) 0, 0, "l15_group.go:135", #[⟨11, .data⟩], none⟩
def gpo13 : Oper := ⟨some 76, .load 2 (.tmp 75), 2, "l15_group.go:135", #[⟨12, .data⟩], none⟩
def gpo14 : Oper := ⟨some 77, .fieldAddr 42 (.tmp 3) 4, 0, "l15_group.go:135", #[], none⟩
def gpo15 : Oper := ⟨some 78, .load 9 (.tmp 77), 9, "l15_group.go:135", #[⟨14, .data⟩], none⟩
def gpo16 : Oper := ⟨some 79, .build 46 #[(0, .tmp 76), (1, .tmp 78)], 46, "l15_group.go:135", #[⟨13, .data⟩, ⟨15, .data⟩], none⟩
def gpo17 : Oper := ⟨some 80, .buildSlice 26 1 #[(0, .tmp 79)], 26, "l15_group.go:135", #[⟨16, .data⟩], none⟩
def gpo18 : Oper := ⟨some 81, .call { callee := .builtin Builtin.append, args := #[.tmp 71, .tmp 80], argTypes := #[26, 26] }, 26, "l15_group.go:135", #[⟨8, .data⟩, ⟨17, .data⟩, ⟨8, .chain⟩], none⟩
def gpo19 : Oper := ⟨some 82, .indexAddr 29 (.tmp 63) (.tmp 64), 0, "l15_group.go:135", #[⟨0, .data⟩, ⟨1, .data⟩, ⟨0, .phase⟩, ⟨1, .phase⟩, ⟨2, .phase⟩, ⟨3, .phase⟩, ⟨4, .phase⟩, ⟨5, .phase⟩, ⟨6, .phase⟩, ⟨7, .phase⟩, ⟨8, .phase⟩, ⟨9, .phase⟩, ⟨10, .phase⟩, ⟨11, .phase⟩, ⟨12, .phase⟩, ⟨13, .phase⟩, ⟨14, .phase⟩, ⟨15, .phase⟩, ⟨16, .phase⟩, ⟨17, .phase⟩, ⟨18, .phase⟩], none⟩
def gpo20 : Oper := ⟨some 83, .fieldAddr 36 (.tmp 82) 4, 0, "l15_group.go:135", #[⟨19, .data⟩, ⟨0, .phase⟩, ⟨1, .phase⟩, ⟨2, .phase⟩, ⟨3, .phase⟩, ⟨4, .phase⟩, ⟨5, .phase⟩, ⟨6, .phase⟩, ⟨7, .phase⟩, ⟨8, .phase⟩, ⟨9, .phase⟩, ⟨10, .phase⟩, ⟨11, .phase⟩, ⟨12, .phase⟩, ⟨13, .phase⟩, ⟨14, .phase⟩, ⟨15, .phase⟩, ⟨16, .phase⟩, ⟨17, .phase⟩, ⟨18, .phase⟩], none⟩
def gpo21 : Oper := ⟨none, .store 26 (.tmp 83) (.tmp 81), 0, "l15_group.go:135", #[⟨20, .data⟩, ⟨18, .data⟩, ⟨18, .chain⟩, ⟨0, .phase⟩, ⟨1, .phase⟩, ⟨2, .phase⟩, ⟨3, .phase⟩, ⟨4, .phase⟩, ⟨5, .phase⟩, ⟨6, .phase⟩, ⟨7, .phase⟩, ⟨8, .phase⟩, ⟨9, .phase⟩, ⟨10, .phase⟩, ⟨11, .phase⟩, ⟨12, .phase⟩, ⟨13, .phase⟩, ⟨14, .phase⟩, ⟨15, .phase⟩, ⟨16, .phase⟩, ⟨17, .phase⟩, ⟨18, .phase⟩], none⟩
def gpO : Array Oper := #[gpo0, gpo1, gpo2, gpo3, gpo4, gpo5, gpo6, gpo7, gpo8, gpo9, gpo10, gpo11, gpo12, gpo13, gpo14, gpo15, gpo16, gpo17, gpo18, gpo19, gpo20, gpo21]
structure gpP where
  (w0 : World)
  (b N k X3 : Nat)
  (cs : Array Value)
  (tm : Int)
  (tx : ByteArray)
  (aL : Option Addr)
  (cL : Nat)
  (L : List Ge)
  (sb sc se sh si sj sk sm sn so sp sq sr ss su sv sw sx sy sz ta tb tc td te tf tg th ti tj tk tl tn tp tr tt tu tv tw ty tz ua ub uc ud ue uf ug uh ui uj uk ul um un uo up uq ur us ut uu uv uw ux uy uz va vb vc vd ve vf vg vh vi vj vk vl vm vn vo vp vq vr vs vt vu vv vw vx vy vz xa xb xc xd xe xf : Value)
def gpT (P : gpP) (X2 : Nat) (v8 : Value) (X17 : Nat) (v18 : Value) (b0 b1 b2 b3 b4 b5 b6 b7 b8 b9 b10 b11 b12 b13 b14 b15 b16 b17 b18 b19 b20 b21 : Bool) : Array Value := #[.slice (some ⟨P.b, 0, none⟩) P.N P.N, P.sb, P.sc, .pointer (some ⟨P.X3, 0, none⟩), P.se, .int .i64 (P.k : Int), P.sh, P.si, P.sj, P.sk, P.sm, P.sn, P.so, P.sp, P.sq, P.sr, P.ss, P.su, P.sv, P.sw, P.sx, P.sy, P.sz, P.ta, P.tb, P.tc, P.td, P.te, P.tf, P.tg, P.th, P.ti, P.tj, P.tk, P.tl, P.tn, P.tp, P.tr, P.tt, P.tu, P.tv, P.tw, P.ty, P.tz, P.ua, P.ub, P.uc, P.ud, P.ue, P.uf, P.ug, P.uh, P.ui, P.uj, P.uk, P.ul, P.um, P.un, P.uo, P.up, P.uq, P.ur, P.us, selS b0 (.slice (some ⟨P.b, 0, none⟩) P.N P.N) (P.ut), selS b1 (.int .i64 (P.k : Int)) (P.uu), selS b2 (.slice (some ⟨X2, 0, none⟩) 0 0) (P.uv), selS b3 (.slice (some ⟨P.b, 0, none⟩) P.N P.N) (P.uw), selS b4 (.int .i64 (P.k : Int)) (P.ux), selS b5 (.pointer (some ⟨P.b, P.k * 6, none⟩)) (P.uy), selS b6 (.pointer (some ⟨P.b, P.k * 6 + 4, none⟩)) (P.uz), selS b7 (.slice P.aL P.L.length P.cL) (P.va), selS b8 (v8) (P.vb), selS b9 (.slice (some ⟨P.b, 0, none⟩) P.N P.N) (P.vc), selS b10 (.int .i64 (P.k : Int)) (P.vd), selS b11 (.pointer (some ⟨P.b, P.k * 6, none⟩)) (P.ve), selS b12 (.pointer (some ⟨P.b, P.k * 6, none⟩)) (P.vf), selS b13 (.int .i64 P.tm) (P.vg), selS b14 (.pointer (some ⟨P.X3, 4, none⟩)) (P.vh), selS b15 (.string P.tx) (P.vi), selS b16 (.agg #[.int .i64 P.tm, .string P.tx]) (P.vj), selS b17 (.slice (some ⟨X17, 0, none⟩) 1 1) (P.vk), selS b18 (v18) (P.vl), selS b19 (.pointer (some ⟨P.b, P.k * 6, none⟩)) (P.vm), selS b20 (.pointer (some ⟨P.b, P.k * 6 + 4, none⟩)) (P.vn), P.vo, P.vp, P.vq, P.vr, P.vs, P.vt, P.vu, P.vv, P.vw, P.vx, P.vy, P.vz, P.xa, P.xb, P.xc, P.xd, P.xe, P.xf]
def gpF (P : gpP) (X2 : Nat) (v8 : Value) (X17 : Nat) (v18 : Value) (b0 b1 b2 b3 b4 b5 b6 b7 b8 b9 b10 b11 b12 b13 b14 b15 b16 b17 b18 b19 b20 b21 : Bool) (w : World) : Prop := (b21 = false → Below P.w0.heap.size P.w0 w) ∧ (RowAt P.w0 P.b 36 P.cs ∧ P.X3 < P.w0.heap.size) ∧ (P.w0.cell? ⟨P.b, P.k * 6 + 4, none⟩ = some (.slice P.aL P.L.length P.cL)) ∧ (P.w0.cell? ⟨P.b, P.k * 6, none⟩ = some (.int .i64 P.tm)) ∧ (P.w0.cell? ⟨P.X3, 4, none⟩ = some (.string P.tx)) ∧ (P.k < P.N) ∧ (LogR P.w0 P.aL P.cL P.L) ∧ (P.L.length ≤ 500) ∧ (b2 = true → b8 = false → OwnGe w P.w0.heap.size (.slice (some ⟨X2, 0, none⟩) 0 0) []) ∧ (b8 = true → b18 = false → OwnGe w P.w0.heap.size v8 P.L) ∧ (b17 = true → b18 = false → RowAt w X17 46 #[.int .i64 P.tm, .string P.tx]) ∧ (b18 = true → b21 = false → OwnGe w P.w0.heap.size v18 (P.L ++ [(⟨P.tm, P.tx⟩ : Ge)])) ∧ (b21 = true → ∃ V, Below P.w0.heap.size P.w0 V ∧ OwnGe V P.w0.heap.size v18 (P.L ++ [(⟨P.tm, P.tx⟩ : Ge)]) ∧ w = V.setCell ⟨P.b, P.k * 6 + 4, none⟩ v18)
def gpI (P : gpP) (l : Array Bool) (f : Act) (w : World) : Prop :=
  ∃ (b0 b1 b2 b3 b4 b5 b6 b7 b8 b9 b10 b11 b12 b13 b14 b15 b16 b17 b18 b19 b20 b21 : Bool) (X2 : Nat) (v8 : Value) (X17 : Nat) (v18 : Value), l = #[b0, b1, b2, b3, b4, b5, b6, b7, b8, b9, b10, b11, b12, b13, b14, b15, b16, b17, b18, b19, b20, b21] ∧ f = { tmps := gpT P X2 v8 X17 v18 b0 b1 b2 b3 b4 b5 b6 b7 b8 b9 b10 b11 b12 b13 b14 b15 b16 b17 b18 b19 b20 b21, defers := [] } ∧ gpF P X2 v8 X17 v18 b0 b1 b2 b3 b4 b5 b6 b7 b8 b9 b10 b11 b12 b13 b14 b15 b16 b17 b18 b19 b20 b21 w
theorem gpM {P : gpP} {b0 b1 b2 b3 b4 b5 b6 b7 b8 b9 b10 b11 b12 b13 b14 b15 b16 b17 b18 b19 b20 b21 : Bool} (X2 : Nat) (v8 : Value) (X17 : Nat) (v18 : Value) {l : Array Bool} {f : Act} {w : World} (hl : l = #[b0, b1, b2, b3, b4, b5, b6, b7, b8, b9, b10, b11, b12, b13, b14, b15, b16, b17, b18, b19, b20, b21]) (hf : f = { tmps := gpT P X2 v8 X17 v18 b0 b1 b2 b3 b4 b5 b6 b7 b8 b9 b10 b11 b12 b13 b14 b15 b16 b17 b18 b19 b20 b21, defers := [] }) (h : gpF P X2 v8 X17 v18 b0 b1 b2 b3 b4 b5 b6 b7 b8 b9 b10 b11 b12 b13 b14 b15 b16 b17 b18 b19 b20 b21 w) : gpI P l f w := ⟨b0, b1, b2, b3, b4, b5, b6, b7, b8, b9, b10, b11, b12, b13, b14, b15, b16, b17, b18, b19, b20, b21, X2, v8, X17, v18, hl, hf, h⟩
set_option maxRecDepth 20000 in
set_option maxHeartbeats 20000000 in
theorem gp_step {Q : Exit → Act → World → Prop} (P : gpP) (l : Array Bool) (f : Act) (w : World) (hC : Closed gpO l) (hI : gpI P l f w) (i : Nat) (h0 : l.getD i true = false) (o : Oper) (ho : gpO[i]? = some o) (h1 : ∀ e ∈ o.after, Region.binds .any e = true → l.getD e.on false = true) : wpOp Try.prog gpO Q i (gpI P (l.setIfInBounds i true)) f w := by
  obtain ⟨b0, b1, b2, b3, b4, b5, b6, b7, b8, b9, b10, b11, b12, b13, b14, b15, b16, b17, b18, b19, b20, b21, X2, v8, X17, v18, rfl, rfl, hF⟩ := hI
  have hi : i < 22 := by
    rcases Nat.lt_or_ge i 22 with h | h
    · exact h
    · rw [show gpO[i]? = none from Array.getElem?_eq_none h] at ho; cases ho
  rcases (by omega : i = 0 ∨ i = 1 ∨ i = 2 ∨ i = 3 ∨ i = 4 ∨ i = 5 ∨ i = 6 ∨ i = 7 ∨ i = 8 ∨ i = 9 ∨ i = 10 ∨ i = 11 ∨ i = 12 ∨ i = 13 ∨ i = 14 ∨ i = 15 ∨ i = 16 ∨ i = 17 ∨ i = 18 ∨ i = 19 ∨ i = 20 ∨ i = 21) with rfl | rfl | rfl | rfl | rfl | rfl | rfl | rfl | rfl | rfl | rfl | rfl | rfl | rfl | rfl | rfl | rfl | rfl | rfl | rfl | rfl | rfl
  · obtain rfl : gpo0 = o := Option.some.inj ho
    obtain rfl : b0 = false := h0
    have hn := wayN_all hC (i := 0) rfl [(19, 0), (20, 0), (21, 0)] [] nk rfl; repeat (obtain ⟨rfl, hn⟩ := hn)
    obtain ⟨hB, hrb, hc4, hc0, hc3, hkN, hlg, hLn, ho2, ho8, hx17, ho18, hE9⟩ := hF
    refine wpOp_step (o := gpo0) rfl (fun K hK => ?_)
    replace hK := hid hK
    simp only [gpo0, gpT, selS_f]
    go_simp
    exact hK.out _ _ (gpM X2 v8 X17 v18 rfl rfl ⟨hB, hrb, hc4, hc0, hc3, hkN, hlg, hLn, ho2, ho8, hx17, ho18, hE9⟩)
  · obtain rfl : gpo1 = o := Option.some.inj ho
    obtain rfl : b1 = false := h0
    have hn := wayN_all hC (i := 1) rfl [(19, 1), (20, 1), (21, 1)] [] nk rfl; repeat (obtain ⟨rfl, hn⟩ := hn)
    obtain ⟨hB, hrb, hc4, hc0, hc3, hkN, hlg, hLn, ho2, ho8, hx17, ho18, hE9⟩ := hF
    refine wpOp_step (o := gpo1) rfl (fun K hK => ?_)
    replace hK := hid hK
    simp only [gpo1, gpT, selS_f]
    go_simp
    exact hK.out _ _ (gpM X2 v8 X17 v18 rfl rfl ⟨hB, hrb, hc4, hc0, hc3, hkN, hlg, hLn, ho2, ho8, hx17, ho18, hE9⟩)
  · obtain rfl : gpo2 = o := Option.some.inj ho
    obtain rfl : b2 = false := h0
    have hn := wayN_all hC (i := 2) rfl [(8, 2), (18, 8), (19, 2), (20, 2), (21, 2)] [] nk rfl; repeat (obtain ⟨rfl, hn⟩ := hn)
    obtain ⟨hB, hrb, hc4, hc0, hc3, hkN, hlg, hLn, ho2, ho8, hx17, ho18, hE9⟩ := hF
    refine wpOp_step (o := gpo2) rfl (fun K hK => ?_)
    replace hK := hid hK
    simp only [gpo2, gpT, selS_f]
    go_simp
    exact hK.out _ _ (gpM w.heap.size v8 X17 v18 rfl rfl ⟨fun h => (hB h).alloc (hB h).size _, hrb, hc4, hc0, hc3, hkN, hlg, hLn, fun _ _ => World.ownsRow_made w #[] 0 (hB rfl).size (by decide) rfl, fun h => Bool.noConfusion h, fun h h2 => (hx17 h h2).alloc _, fun h => Bool.noConfusion h, fun h => Bool.noConfusion h⟩)
  · obtain rfl : gpo3 = o := Option.some.inj ho
    obtain rfl : b3 = false := h0
    have hn := wayN_all hC (i := 3) rfl [(5, 3), (6, 5), (7, 6), (8, 7), (18, 8), (19, 3), (20, 3), (21, 3)] [] nk rfl; repeat (obtain ⟨rfl, hn⟩ := hn)
    obtain ⟨hB, hrb, hc4, hc0, hc3, hkN, hlg, hLn, ho2, ho8, hx17, ho18, hE9⟩ := hF
    refine wpOp_step (o := gpo3) rfl (fun K hK => ?_)
    replace hK := hid hK
    simp only [gpo3, gpT, selS_f]
    go_simp
    exact hK.out _ _ (gpM X2 v8 X17 v18 rfl rfl ⟨hB, hrb, hc4, hc0, hc3, hkN, hlg, hLn, ho2, ho8, hx17, ho18, hE9⟩)
  · obtain rfl : gpo4 = o := Option.some.inj ho
    obtain rfl : b4 = false := h0
    have hn := wayN_all hC (i := 4) rfl [(5, 4), (6, 5), (7, 6), (8, 7), (18, 8), (19, 4), (20, 4), (21, 4)] [] nk rfl; repeat (obtain ⟨rfl, hn⟩ := hn)
    obtain ⟨hB, hrb, hc4, hc0, hc3, hkN, hlg, hLn, ho2, ho8, hx17, ho18, hE9⟩ := hF
    refine wpOp_step (o := gpo4) rfl (fun K hK => ?_)
    replace hK := hid hK
    simp only [gpo4, gpT, selS_f]
    go_simp
    exact hK.out _ _ (gpM X2 v8 X17 v18 rfl rfl ⟨hB, hrb, hc4, hc0, hc3, hkN, hlg, hLn, ho2, ho8, hx17, ho18, hE9⟩)
  · obtain rfl : gpo5 = o := Option.some.inj ho
    obtain rfl : b5 = false := h0
    have hn := wayP_all (o := gpo5) hC h1 [(4, none), (3, none)] [] nk rfl; repeat (obtain ⟨rfl, hn⟩ := hn)
    have hn := wayN_all hC (i := 5) rfl [(6, 5), (7, 6), (8, 7), (18, 8), (19, 5), (20, 5), (21, 5)] [] nk rfl; repeat (obtain ⟨rfl, hn⟩ := hn)
    obtain ⟨hB, hrb, hc4, hc0, hc3, hkN, hlg, hLn, ho2, ho8, hx17, ho18, hE9⟩ := hF
    have q0 : (0 : Int) ≤ (P.k : Int) := by omega
    have q1 : (P.k : Int) < (P.N : Int) := by omega
    refine wpOp_step (o := gpo5) rfl (fun K hK => ?_)
    replace hK := hid hK
    simp only [gpo5, gpT, selS_t, selS_f]
    go_simp
    exact hK.out _ _ (gpM X2 v8 X17 v18 rfl rfl ⟨hB, hrb, hc4, hc0, hc3, hkN, hlg, hLn, ho2, ho8, hx17, ho18, hE9⟩)
  · obtain rfl : gpo6 = o := Option.some.inj ho
    obtain rfl : b6 = false := h0
    have hn := wayP_all (o := gpo6) hC h1 [(5, none), (3, some 5), (4, some 5)] [] nk rfl; repeat (obtain ⟨rfl, hn⟩ := hn)
    have hn := wayN_all hC (i := 6) rfl [(7, 6), (8, 7), (18, 8), (19, 6), (20, 6), (21, 6)] [] nk rfl; repeat (obtain ⟨rfl, hn⟩ := hn)
    obtain ⟨hB, hrb, hc4, hc0, hc3, hkN, hlg, hLn, ho2, ho8, hx17, ho18, hE9⟩ := hF
    refine wpOp_step (o := gpo6) rfl (fun K hK => ?_)
    replace hK := hid hK
    simp only [gpo6, gpT, selS_t, selS_f]
    go_simp
    exact hK.out _ _ (gpM X2 v8 X17 v18 rfl rfl ⟨hB, hrb, hc4, hc0, hc3, hkN, hlg, hLn, ho2, ho8, hx17, ho18, hE9⟩)
  · obtain rfl : gpo7 = o := Option.some.inj ho
    obtain rfl : b7 = false := h0
    have hn := wayP_all (o := gpo7) hC h1 [(6, none), (5, some 6), (3, some 5), (4, some 5)] [] nk rfl; repeat (obtain ⟨rfl, hn⟩ := hn)
    have hn := wayN_all hC (i := 7) rfl [(8, 7), (18, 8), (19, 7), (20, 7), (21, 7)] [] nk rfl; repeat (obtain ⟨rfl, hn⟩ := hn)
    obtain ⟨hB, hrb, hc4, hc0, hc3, hkN, hlg, hLn, ho2, ho8, hx17, ho18, hE9⟩ := hF
    have q := ((hB rfl).cell (p := ⟨P.b, P.k * 6 + 4, none⟩) hrb.1.lt).trans hc4
    refine wpOp_step (o := gpo7) rfl (fun K hK => ?_)
    replace hK := hid hK
    simp only [gpo7, gpT, selS_t, selS_f]
    go_simp
    exact hK.out _ _ (gpM X2 v8 X17 v18 rfl rfl ⟨hB, hrb, hc4, hc0, hc3, hkN, hlg, hLn, ho2, ho8, hx17, ho18, hE9⟩)
  · obtain rfl : gpo8 = o := Option.some.inj ho
    obtain rfl : b8 = false := h0
    have hn := wayP_all (o := gpo8) hC h1 [(7, none), (2, none), (6, some 7), (5, some 6), (3, some 5), (4, some 5)] [] nk rfl; repeat (obtain ⟨rfl, hn⟩ := hn)
    have hn := wayN_all hC (i := 8) rfl [(18, 8), (19, 8), (20, 8), (21, 8)] [] nk rfl; repeat (obtain ⟨rfl, hn⟩ := hn)
    obtain ⟨hB, hrb, hc4, hc0, hc3, hkN, hlg, hLn, ho2, ho8, hx17, ho18, hE9⟩ := hF
    refine wpOp_step (o := gpo8) rfl (fun K hK => ?_)
    replace hK := hid hK
    have hO := ho2 rfl rfl
    refine step_append_log P.w0.heap.size _ (by rfl) _ _ (by rfl) _ [] P.L (by rfl) hO (hB rfl).size P.aL P.cL (by rfl) (hlg.below (hB rfl)) (by simp; omega) ?_
    intro v3 w3 hO3 hg3
    exact hK.out _ _ (gpM X2 v3 X17 v18 rfl rfl ⟨fun _ => (hB rfl).grown hg3 (hB rfl).size (fun g hg => (World.ownsRow.lt hO _ hg).1), hrb, hc4, hc0, hc3, hkN, hlg, hLn, fun _ h => Bool.noConfusion h, fun _ _ => hO3, fun h h2 => (hg3.block _ (hx17 h h2).lt (OwnGe.ne (e := ⟨P.tm, P.tx⟩) hO (hx17 h h2) ⟨_, rfl⟩)).trans (hx17 h h2), fun h => Bool.noConfusion h, fun h => Bool.noConfusion h⟩)
  · obtain rfl : gpo9 = o := Option.some.inj ho
    obtain rfl : b9 = false := h0
    have hn := wayN_all hC (i := 9) rfl [(11, 9), (12, 11), (13, 12), (16, 13), (17, 16), (18, 17), (19, 9), (20, 9), (21, 9)] [] nk rfl; repeat (obtain ⟨rfl, hn⟩ := hn)
    obtain ⟨hB, hrb, hc4, hc0, hc3, hkN, hlg, hLn, ho2, ho8, hx17, ho18, hE9⟩ := hF
    refine wpOp_step (o := gpo9) rfl (fun K hK => ?_)
    replace hK := hid hK
    simp only [gpo9, gpT, selS_f]
    go_simp
    exact hK.out _ _ (gpM X2 v8 X17 v18 rfl rfl ⟨hB, hrb, hc4, hc0, hc3, hkN, hlg, hLn, ho2, ho8, hx17, ho18, hE9⟩)
  · obtain rfl : gpo10 = o := Option.some.inj ho
    obtain rfl : b10 = false := h0
    have hn := wayN_all hC (i := 10) rfl [(11, 10), (12, 11), (13, 12), (16, 13), (17, 16), (18, 17), (19, 10), (20, 10), (21, 10)] [] nk rfl; repeat (obtain ⟨rfl, hn⟩ := hn)
    obtain ⟨hB, hrb, hc4, hc0, hc3, hkN, hlg, hLn, ho2, ho8, hx17, ho18, hE9⟩ := hF
    refine wpOp_step (o := gpo10) rfl (fun K hK => ?_)
    replace hK := hid hK
    simp only [gpo10, gpT, selS_f]
    go_simp
    exact hK.out _ _ (gpM X2 v8 X17 v18 rfl rfl ⟨hB, hrb, hc4, hc0, hc3, hkN, hlg, hLn, ho2, ho8, hx17, ho18, hE9⟩)
  · obtain rfl : gpo11 = o := Option.some.inj ho
    obtain rfl : b11 = false := h0
    have hn := wayP_all (o := gpo11) hC h1 [(10, none), (9, none)] [] nk rfl; repeat (obtain ⟨rfl, hn⟩ := hn)
    have hn := wayN_all hC (i := 11) rfl [(12, 11), (13, 12), (16, 13), (17, 16), (18, 17), (19, 11), (20, 11), (21, 11)] [] nk rfl; repeat (obtain ⟨rfl, hn⟩ := hn)
    obtain ⟨hB, hrb, hc4, hc0, hc3, hkN, hlg, hLn, ho2, ho8, hx17, ho18, hE9⟩ := hF
    have q0 : (0 : Int) ≤ (P.k : Int) := by omega
    have q1 : (P.k : Int) < (P.N : Int) := by omega
    refine wpOp_step (o := gpo11) rfl (fun K hK => ?_)
    replace hK := hid hK
    simp only [gpo11, gpT, selS_t, selS_f]
    go_simp
    exact hK.out _ _ (gpM X2 v8 X17 v18 rfl rfl ⟨hB, hrb, hc4, hc0, hc3, hkN, hlg, hLn, ho2, ho8, hx17, ho18, hE9⟩)
  · obtain rfl : gpo12 = o := Option.some.inj ho
    obtain rfl : b12 = false := h0
    have hn := wayP_all (o := gpo12) hC h1 [(11, none), (9, some 11), (10, some 11)] [] nk rfl; repeat (obtain ⟨rfl, hn⟩ := hn)
    have hn := wayN_all hC (i := 12) rfl [(13, 12), (16, 13), (17, 16), (18, 17), (19, 12), (20, 12), (21, 12)] [] nk rfl; repeat (obtain ⟨rfl, hn⟩ := hn)
    obtain ⟨hB, hrb, hc4, hc0, hc3, hkN, hlg, hLn, ho2, ho8, hx17, ho18, hE9⟩ := hF
    refine wpOp_step (o := gpo12) rfl (fun K hK => ?_)
    replace hK := hid hK
    simp only [gpo12, gpT, selS_t, selS_f]
    go_simp
    exact hK.out _ _ (gpM X2 v8 X17 v18 rfl rfl ⟨hB, hrb, hc4, hc0, hc3, hkN, hlg, hLn, ho2, ho8, hx17, ho18, hE9⟩)
  · obtain rfl : gpo13 = o := Option.some.inj ho
    obtain rfl : b13 = false := h0
    have hn := wayP_all (o := gpo13) hC h1 [(12, none), (11, some 12), (9, some 11), (10, some 11)] [] nk rfl; repeat (obtain ⟨rfl, hn⟩ := hn)
    have hn := wayN_all hC (i := 13) rfl [(16, 13), (17, 16), (18, 17), (19, 13), (20, 13), (21, 13)] [] nk rfl; repeat (obtain ⟨rfl, hn⟩ := hn)
    obtain ⟨hB, hrb, hc4, hc0, hc3, hkN, hlg, hLn, ho2, ho8, hx17, ho18, hE9⟩ := hF
    have q := ((hB rfl).cell (p := ⟨P.b, P.k * 6, none⟩) hrb.1.lt).trans hc0
    refine wpOp_step (o := gpo13) rfl (fun K hK => ?_)
    replace hK := hid hK
    simp only [gpo13, gpT, selS_t, selS_f]
    go_simp
    exact hK.out _ _ (gpM X2 v8 X17 v18 rfl rfl ⟨hB, hrb, hc4, hc0, hc3, hkN, hlg, hLn, ho2, ho8, hx17, ho18, hE9⟩)
  · obtain rfl : gpo14 = o := Option.some.inj ho
    obtain rfl : b14 = false := h0
    have hn := wayN_all hC (i := 14) rfl [(15, 14), (16, 15), (17, 16), (18, 17), (19, 14), (20, 14), (21, 14)] [] nk rfl; repeat (obtain ⟨rfl, hn⟩ := hn)
    obtain ⟨hB, hrb, hc4, hc0, hc3, hkN, hlg, hLn, ho2, ho8, hx17, ho18, hE9⟩ := hF
    refine wpOp_step (o := gpo14) rfl (fun K hK => ?_)
    replace hK := hid hK
    simp only [gpo14, gpT, selS_f]
    go_simp
    exact hK.out _ _ (gpM X2 v8 X17 v18 rfl rfl ⟨hB, hrb, hc4, hc0, hc3, hkN, hlg, hLn, ho2, ho8, hx17, ho18, hE9⟩)
  · obtain rfl : gpo15 = o := Option.some.inj ho
    obtain rfl : b15 = false := h0
    have hn := wayP_all (o := gpo15) hC h1 [(14, none)] [] nk rfl; repeat (obtain ⟨rfl, hn⟩ := hn)
    have hn := wayN_all hC (i := 15) rfl [(16, 15), (17, 16), (18, 17), (19, 15), (20, 15), (21, 15)] [] nk rfl; repeat (obtain ⟨rfl, hn⟩ := hn)
    obtain ⟨hB, hrb, hc4, hc0, hc3, hkN, hlg, hLn, ho2, ho8, hx17, ho18, hE9⟩ := hF
    have q := ((hB rfl).cell (p := ⟨P.X3, 4, none⟩) hrb.2).trans hc3
    refine wpOp_step (o := gpo15) rfl (fun K hK => ?_)
    replace hK := hid hK
    simp only [gpo15, gpT, selS_t, selS_f]
    go_simp
    exact hK.out _ _ (gpM X2 v8 X17 v18 rfl rfl ⟨hB, hrb, hc4, hc0, hc3, hkN, hlg, hLn, ho2, ho8, hx17, ho18, hE9⟩)
  · obtain rfl : gpo16 = o := Option.some.inj ho
    obtain rfl : b16 = false := h0
    have hn := wayP_all (o := gpo16) hC h1 [(15, none), (13, none), (14, some 15), (12, some 13), (11, some 12), (9, some 11), (10, some 11)] [] nk rfl; repeat (obtain ⟨rfl, hn⟩ := hn)
    have hn := wayN_all hC (i := 16) rfl [(17, 16), (18, 17), (19, 16), (20, 16), (21, 16)] [] nk rfl; repeat (obtain ⟨rfl, hn⟩ := hn)
    obtain ⟨hB, hrb, hc4, hc0, hc3, hkN, hlg, hLn, ho2, ho8, hx17, ho18, hE9⟩ := hF
    refine wpOp_step (o := gpo16) rfl (fun K hK => ?_)
    replace hK := hid hK
    simp only [gpo16, gpT, selS_t, selS_f]
    go_simp
    exact hK.out _ _ (gpM X2 v8 X17 v18 rfl rfl ⟨hB, hrb, hc4, hc0, hc3, hkN, hlg, hLn, ho2, ho8, hx17, ho18, hE9⟩)
  · obtain rfl : gpo17 = o := Option.some.inj ho
    obtain rfl : b17 = false := h0
    have hn := wayP_all (o := gpo17) hC h1 [(16, none), (13, some 16), (15, some 16), (14, some 15), (12, some 13), (11, some 12), (9, some 11), (10, some 11)] [] nk rfl; repeat (obtain ⟨rfl, hn⟩ := hn)
    have hn := wayN_all hC (i := 17) rfl [(18, 17), (19, 17), (20, 17), (21, 17)] [] nk rfl; repeat (obtain ⟨rfl, hn⟩ := hn)
    obtain ⟨hB, hrb, hc4, hc0, hc3, hkN, hlg, hLn, ho2, ho8, hx17, ho18, hE9⟩ := hF
    refine wpOp_step (o := gpo17) rfl (fun K hK => ?_)
    replace hK := hid hK
    simp only [gpo17, gpT, selS_t, selS_f]
    go_simp
    exact hK.out _ _ (gpM X2 v8 w.heap.size v18 rfl rfl ⟨fun h => (hB h).alloc (hB h).size _, hrb, hc4, hc0, hc3, hkN, hlg, hLn, fun h h2 => (ho2 h h2).alloc _, fun h h2 => (ho8 h h2).alloc _, fun _ _ => RowAt.new w _ _, fun h => Bool.noConfusion h, fun h => Bool.noConfusion h⟩)
  · obtain rfl : gpo18 = o := Option.some.inj ho
    obtain rfl : b18 = false := h0
    have hn := wayP_all (o := gpo18) hC h1 [(17, none), (8, none), (16, some 17), (13, some 16), (15, some 16), (14, some 15), (12, some 13), (11, some 12), (9, some 11), (10, some 11), (2, some 8), (7, some 8), (6, some 7), (5, some 6), (3, some 5), (4, some 5)] [] nk rfl; repeat (obtain ⟨rfl, hn⟩ := hn)
    have hn := wayN_all hC (i := 18) rfl [(19, 18), (20, 18), (21, 18)] [] nk rfl; repeat (obtain ⟨rfl, hn⟩ := hn)
    obtain ⟨hB, hrb, hc4, hc0, hc3, hkN, hlg, hLn, ho2, ho8, hx17, ho18, hE9⟩ := hF
    refine wpOp_step (o := gpo18) rfl (fun K hK => ?_)
    replace hK := hid hK
    have hO := ho8 rfl rfl
    refine step_append_log P.w0.heap.size _ (by rfl) _ _ (by rfl) _ P.L [(⟨P.tm, P.tx⟩ : Ge)] (by rfl) hO (hB rfl).size (some ⟨X17, 0, none⟩) 1 (by rfl) (LogR.box (hx17 rfl rfl)) (by simp; omega) ?_
    intro v3 w3 hO3 hg3
    exact hK.out _ _ (gpM X2 v8 X17 v3 rfl rfl ⟨fun _ => (hB rfl).grown hg3 (hB rfl).size (fun g hg => (World.ownsRow.lt hO _ hg).1), hrb, hc4, hc0, hc3, hkN, hlg, hLn, fun _ h => Bool.noConfusion h, fun _ h => Bool.noConfusion h, fun _ h => Bool.noConfusion h, fun _ _ => hO3, fun h => Bool.noConfusion h⟩)
  · obtain rfl : gpo19 = o := Option.some.inj ho
    obtain rfl : b19 = false := h0
    have hn := wayP_all (o := gpo19) hC h1 [(18, none), (17, none), (16, none), (15, none), (14, none), (13, none), (12, none), (11, none), (10, none), (9, none), (8, none), (7, none), (6, none), (5, none), (4, none), (3, none), (2, none), (1, none), (0, none)] [] nk rfl; repeat (obtain ⟨rfl, hn⟩ := hn)
    have hn := wayN_all hC (i := 19) rfl [(20, 19), (21, 20)] [] nk rfl; repeat (obtain ⟨rfl, hn⟩ := hn)
    obtain ⟨hB, hrb, hc4, hc0, hc3, hkN, hlg, hLn, ho2, ho8, hx17, ho18, hE9⟩ := hF
    have q0 : (0 : Int) ≤ (P.k : Int) := by omega
    have q1 : (P.k : Int) < (P.N : Int) := by omega
    refine wpOp_step (o := gpo19) rfl (fun K hK => ?_)
    replace hK := hid hK
    simp only [gpo19, gpT, selS_t, selS_f]
    go_simp
    exact hK.out _ _ (gpM X2 v8 X17 v18 rfl rfl ⟨hB, hrb, hc4, hc0, hc3, hkN, hlg, hLn, ho2, ho8, hx17, ho18, hE9⟩)
  · obtain rfl : gpo20 = o := Option.some.inj ho
    obtain rfl : b20 = false := h0
    have hn := wayP_all (o := gpo20) hC h1 [(19, none), (18, none), (17, none), (16, none), (15, none), (14, none), (13, none), (12, none), (11, none), (10, none), (9, none), (8, none), (7, none), (6, none), (5, none), (4, none), (3, none), (2, none), (1, none), (0, none)] [] nk rfl; repeat (obtain ⟨rfl, hn⟩ := hn)
    have hn := wayN_all hC (i := 20) rfl [(21, 20)] [] nk rfl; repeat (obtain ⟨rfl, hn⟩ := hn)
    obtain ⟨hB, hrb, hc4, hc0, hc3, hkN, hlg, hLn, ho2, ho8, hx17, ho18, hE9⟩ := hF
    refine wpOp_step (o := gpo20) rfl (fun K hK => ?_)
    replace hK := hid hK
    simp only [gpo20, gpT, selS_t, selS_f]
    go_simp
    exact hK.out _ _ (gpM X2 v8 X17 v18 rfl rfl ⟨hB, hrb, hc4, hc0, hc3, hkN, hlg, hLn, ho2, ho8, hx17, ho18, hE9⟩)
  · obtain rfl : gpo21 = o := Option.some.inj ho
    obtain rfl : b21 = false := h0
    have hn := wayP_all (o := gpo21) hC h1 [(20, none), (18, none), (17, none), (16, none), (15, none), (14, none), (13, none), (12, none), (11, none), (10, none), (9, none), (8, none), (7, none), (6, none), (5, none), (4, none), (3, none), (2, none), (1, none), (0, none), (19, some 20)] [] nk rfl; repeat (obtain ⟨rfl, hn⟩ := hn)
    obtain ⟨hB, hrb, hc4, hc0, hc3, hkN, hlg, hLn, ho2, ho8, hx17, ho18, hE9⟩ := hF
    have hR : RowAt w P.b 36 P.cs := hrb.1.below (hB rfl) hrb.1.lt
    have q := ((hB rfl).cell (p := ⟨P.b, P.k * 6 + 4, none⟩) hrb.1.lt).trans hc4
    have f := hR.free (P.k * 6 + 4)
    obtain ⟨a9, c9, hv8, _⟩ := OwnGe.logR (ho18 rfl rfl)
    have hv9 : v18 = .slice a9 (P.L.length + 1) c9 := by rw [hv8, List.length_append]; rfl
    clear hv8
    subst hv9
    have hO9 := ho18 rfl rfl
    refine wpOp_step (o := gpo21) rfl (fun K hK => ?_)
    replace hK := hid hK
    simp only [gpo21, gpT, selS_t]
    go_simp
    exact hK.out _ _ (gpM X2 v8 X17 ((.slice a9 (P.L.length + 1) c9)) rfl rfl ⟨fun h => Bool.noConfusion h, hrb, hc4, hc0, hc3, hkN, hlg, hLn, fun _ h => Bool.noConfusion h, fun _ h => Bool.noConfusion h, fun _ h => Bool.noConfusion h, fun _ h => Bool.noConfusion h, fun _ => ⟨w, hB rfl, hO9, rfl⟩⟩)
set_option maxRecDepth 20000 in
set_option maxHeartbeats 4000000 in
theorem gp_wp {Q : Exit → Act → World → Prop} {rid : Nat} (w0 : World) (b N k X3 : Nat) (cs : Array Value) (tm : Int) (tx : ByteArray) (aL : Option Addr) (cL : Nat) (L : List Ge) {sb sc se sh si sj sk sm sn so sp sq sr ss su sv sw sx sy sz ta tb tc td te tf tg th ti tj tk tl tn tp tr tt tu tv tw ty tz ua ub uc ud ue uf ug uh ui uj uk ul um un uo up uq ur us ut uu uv uw ux uy uz va vb vc vd ve vf vg vh vi vj vk vl vm vn vo vp vq vr vs vt vu vv vw vx vy vz xa xb xc xd xe xf : Value} (w : World) (hB : Below w0.heap.size w0 w) (hrb : RowAt w0 b 36 cs ∧ X3 < w0.heap.size) (hc4 : w0.cell? ⟨b, k * 6 + 4, none⟩ = some (.slice aL L.length cL)) (hc0 : w0.cell? ⟨b, k * 6, none⟩ = some (.int .i64 tm)) (hc3 : w0.cell? ⟨X3, 4, none⟩ = some (.string tx)) (hkN : k < N) (hlg : LogR w0 aL cL L) (hLn : L.length ≤ 500)
    (fin : ∀ (X2 : Nat) (v8 : Value) (X17 : Nat) (v18 : Value) (w' : World), (RowAt w0 b 36 cs ∧ X3 < w0.heap.size) → (w0.cell? ⟨b, k * 6 + 4, none⟩ = some (.slice aL L.length cL)) → (w0.cell? ⟨b, k * 6, none⟩ = some (.int .i64 tm)) → (w0.cell? ⟨X3, 4, none⟩ = some (.string tx)) → (k < N) → (LogR w0 aL cL L) → (L.length ≤ 500) → (∃ V, Below w0.heap.size w0 V ∧ OwnGe V w0.heap.size v18 (L ++ [(⟨tm, tx⟩ : Ge)]) ∧ w' = V.setCell ⟨b, k * 6 + 4, none⟩ v18) → Q .normal { tmps := #[.slice (some ⟨b, 0, none⟩) N N, sb, sc, .pointer (some ⟨X3, 0, none⟩), se, .int .i64 (k : Int), sh, si, sj, sk, sm, sn, so, sp, sq, sr, ss, su, sv, sw, sx, sy, sz, ta, tb, tc, td, te, tf, tg, th, ti, tj, tk, tl, tn, tp, tr, tt, tu, tv, tw, ty, tz, ua, ub, uc, ud, ue, uf, ug, uh, ui, uj, uk, ul, um, un, uo, up, uq, ur, us, .slice (some ⟨b, 0, none⟩) N N, .int .i64 (k : Int), .slice (some ⟨X2, 0, none⟩) 0 0, .slice (some ⟨b, 0, none⟩) N N, .int .i64 (k : Int), .pointer (some ⟨b, k * 6, none⟩), .pointer (some ⟨b, k * 6 + 4, none⟩), .slice aL L.length cL, v8, .slice (some ⟨b, 0, none⟩) N N, .int .i64 (k : Int), .pointer (some ⟨b, k * 6, none⟩), .pointer (some ⟨b, k * 6, none⟩), .int .i64 tm, .pointer (some ⟨X3, 4, none⟩), .string tx, .agg #[.int .i64 tm, .string tx], .slice (some ⟨X17, 0, none⟩) 1 1, v18, .pointer (some ⟨b, k * 6, none⟩), .pointer (some ⟨b, k * 6 + 4, none⟩), vo, vp, vq, vr, vs, vt, vu, vv, vw, vx, vy, vz, xa, xb, xc, xd, xe, xf], defers := [] } w') :
    (Code.region rid gpO true).wp Try.prog Q { tmps := #[.slice (some ⟨b, 0, none⟩) N N, sb, sc, .pointer (some ⟨X3, 0, none⟩), se, .int .i64 (k : Int), sh, si, sj, sk, sm, sn, so, sp, sq, sr, ss, su, sv, sw, sx, sy, sz, ta, tb, tc, td, te, tf, tg, th, ti, tj, tk, tl, tn, tp, tr, tt, tu, tv, tw, ty, tz, ua, ub, uc, ud, ue, uf, ug, uh, ui, uj, uk, ul, um, un, uo, up, uq, ur, us, ut, uu, uv, uw, ux, uy, uz, va, vb, vc, vd, ve, vf, vg, vh, vi, vj, vk, vl, vm, vn, vo, vp, vq, vr, vs, vt, vu, vv, vw, vx, vy, vz, xa, xb, xc, xd, xe, xf], defers := [] } w := by
  refine wp_region_inv (ops := gpO) (gpI ⟨w0, b, N, k, X3, cs, tm, tx, aL, cL, L, sb, sc, se, sh, si, sj, sk, sm, sn, so, sp, sq, sr, ss, su, sv, sw, sx, sy, sz, ta, tb, tc, td, te, tf, tg, th, ti, tj, tk, tl, tn, tp, tr, tt, tu, tv, tw, ty, tz, ua, ub, uc, ud, ue, uf, ug, uh, ui, uj, uk, ul, um, un, uo, up, uq, ur, us, ut, uu, uv, uw, ux, uy, uz, va, vb, vc, vd, ve, vf, vg, vh, vi, vj, vk, vl, vm, vn, vo, vp, vq, vr, vs, vt, vu, vv, vw, vx, vy, vz, xa, xb, xc, xd, xe, xf⟩) (by kernel_rfl) (by kernel_rfl) (fun l f v hI => ?_) (fun l f v hC hI i h0 o ho h1 => gp_step ⟨w0, b, N, k, X3, cs, tm, tx, aL, cL, L, sb, sc, se, sh, si, sj, sk, sm, sn, so, sp, sq, sr, ss, su, sv, sw, sx, sy, sz, ta, tb, tc, td, te, tf, tg, th, ti, tj, tk, tl, tn, tp, tr, tt, tu, tv, tw, ty, tz, ua, ub, uc, ud, ue, uf, ug, uh, ui, uj, uk, ul, um, un, uo, up, uq, ur, us, ut, uu, uv, uw, ux, uy, uz, va, vb, vc, vd, ve, vf, vg, vh, vi, vj, vk, vl, vm, vn, vo, vp, vq, vr, vs, vt, vu, vv, vw, vx, vy, vz, xa, xb, xc, xd, xe, xf⟩ l f v hC hI i h0 o ho h1) (fun l f v hI hall => ?_) ?_
  · obtain ⟨_, _, _, _, _, _, _, _, _, _, _, _, _, _, _, _, _, _, _, _, _, _, _, _, _, _, rfl, _⟩ := hI; rfl
  · obtain ⟨b0, b1, b2, b3, b4, b5, b6, b7, b8, b9, b10, b11, b12, b13, b14, b15, b16, b17, b18, b19, b20, b21, X2, v8, X17, v18, rfl, rfl, hB, hrb, hc4, hc0, hc3, hkN, hlg, hLn, ho2, ho8, hx17, ho18, hE9⟩ := hI
    have hn := allT hall [0, 1, 2, 3, 4, 5, 6, 7, 8, 9, 10, 11, 12, 13, 14, 15, 16, 17, 18, 19, 20, 21] rfl; repeat (obtain ⟨rfl, hn⟩ := hn)
    exact fin X2 v8 X17 v18 v hrb hc4 hc0 hc3 hkN hlg hLn (hE9 rfl)
  · exact ⟨false, false, false, false, false, false, false, false, false, false, false, false, false, false, false, false, false, false, false, false, false, false, 0, (.bool false), 0, (.bool false), rfl, rfl, fun _ => hB.drew, hrb, hc4, hc0, hc3, hkN, hlg, hLn, fun h => Bool.noConfusion h, fun h => Bool.noConfusion h, fun h => Bool.noConfusion h, fun h => Bool.noConfusion h, fun h => Bool.noConfusion h⟩
end Go.Proofs.Ytmhkelfmciepaaa
