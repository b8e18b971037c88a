import Derived.Test.YtkcjigelenofhaaGreatDoorG14
import Derived.Test.YtkcjigelenofhaaGreatDoorG8
namespace Go.Proofs.YtkcjigelenofhaaGreatDoor
open Go.RowKit
set_option linter.unusedVariables false
def rs1o0 : Oper := ⟨some 5, .move (.tmp 0), 23, "l10_request.go:411", #[], none⟩
def rs1o1 : Oper := ⟨some 6, .indexAddr 23 (.tmp 5) (.const (.int .i64 0)), 0, "l10_request.go:411", #[⟨0, .data⟩], none⟩
def rs1o2 : Oper := ⟨some 7, .fieldAddr 66 (.tmp 6) 1, 0, "l10_request.go:411", #[⟨1, .data⟩], none⟩
def rs1o3 : Oper := ⟨some 8, .load 9 (.tmp 7), 9, "l10_request.go:411", #[⟨2, .data⟩], none⟩
def rs1o4 : Oper := ⟨some 9, .move (.tmp 0), 23, "l10_request.go:411", #[], none⟩
def rs1o5 : Oper := ⟨some 10, .indexAddr 23 (.tmp 9) (.const (.int .i64 1)), 0, "l10_request.go:411", #[⟨4, .data⟩], none⟩
def rs1o6 : Oper := ⟨some 11, .fieldAddr 66 (.tmp 10) 1, 0, "l10_request.go:411", #[⟨5, .data⟩], none⟩
def rs1o7 : Oper := ⟨some 12, .load 9 (.tmp 11), 9, "l10_request.go:411", #[⟨6, .data⟩], none⟩
def rs1o8 : Oper := ⟨some 13, .call { callee := .value (.func 93), args := #[.tmp 12], argTypes := #[9] }, 2, "l10_request.go:413", #[⟨7, .data⟩], none⟩
def rs1o9 : Oper := ⟨some 14, .move (.tmp 0), 23, "l10_request.go:411", #[], none⟩
def rs1o10 : Oper := ⟨some 15, .indexAddr 23 (.tmp 14) (.const (.int .i64 2)), 0, "l10_request.go:411", #[⟨9, .data⟩], none⟩
def rs1o11 : Oper := ⟨some 16, .fieldAddr 66 (.tmp 15) 1, 0, "l10_request.go:411", #[⟨10, .data⟩], none⟩
def rs1o12 : Oper := ⟨some 17, .load 9 (.tmp 16), 9, "l10_request.go:411", #[⟨11, .data⟩], none⟩
def rs1o13 : Oper := ⟨some 18, .call { callee := .value (.func 93), args := #[.tmp 17], argTypes := #[9] }, 2, "l10_request.go:414", #[⟨12, .data⟩, ⟨8, .chain⟩], none⟩
def rs1o14 : Oper := ⟨some 19, .build 72 #[(0, .tmp 8), (1, .tmp 13), (2, .tmp 18)], 72, "l10_request.go:411", #[⟨3, .data⟩, ⟨8, .data⟩, ⟨13, .data⟩], none⟩
def rs1o15 : Oper := ⟨some 3, .alloc 72, 0, "l10_request.go:411", #[], none⟩
def rs1o16 : Oper := ⟨none, .store 72 (.tmp 3) (.tmp 19), 0, "l10_request.go:411", #[⟨15, .data⟩, ⟨14, .data⟩, ⟨13, .chain⟩, ⟨0, .phase⟩, ⟨1, .phase⟩, ⟨2, .phase⟩, ⟨3, .phase⟩, ⟨4, .phase⟩, ⟨5, .phase⟩, ⟨6, .phase⟩, ⟨7, .phase⟩, ⟨8, .phase⟩, ⟨9, .phase⟩, ⟨10, .phase⟩, ⟨11, .phase⟩, ⟨12, .phase⟩, ⟨13, .phase⟩, ⟨14, .phase⟩, ⟨15, .phase⟩], none⟩
def rs1O : Array Oper := #[rs1o0, rs1o1, rs1o2, rs1o3, rs1o4, rs1o5, rs1o6, rs1o7, rs1o8, rs1o9, rs1o10, rs1o11, rs1o12, rs1o13, rs1o14, rs1o15, rs1o16]
structure rs1P where
 (w0 : World)
 (qb qo cap : Nat)
 (V0 V1 V2 : ByteArray)
 (sb sc sd se sf sh si sj sk sm sn so sp sq sr ss su sv sw sx sy sz ta tb tc td te tf tg : Value)
def rs1T (P : rs1P) (z1 : Int) (z2 : Int) (XA : Nat) (b0 b1 b2 b3 b4 b5 b6 b7 b8 b9 b10 b11 b12 b13 b14 b15 b16 : Bool) : Array Value := #[.slice (some ⟨P.qb, P.qo, none⟩) 5 P.cap, P.sb, P.sc, selS b15 (.pointer (some ⟨XA, 0, none⟩)) (P.sd), P.se, selS b0 (.slice (some ⟨P.qb, P.qo, none⟩) 5 P.cap) (P.sf), selS b1 (.pointer (some ⟨P.qb, P.qo, none⟩)) (P.sh), selS b2 (.pointer (some ⟨P.qb, P.qo + 1, none⟩)) (P.si), selS b3 (.string P.V0) (P.sj), selS b4 (.slice (some ⟨P.qb, P.qo, none⟩) 5 P.cap) (P.sk), selS b5 (.pointer (some ⟨P.qb, P.qo + 2, none⟩)) (P.sm), selS b6 (.pointer (some ⟨P.qb, P.qo + 3, none⟩)) (P.sn), selS b7 (.string P.V1) (P.so), selS b8 (.int .i64 z1) (P.sp), selS b9 (.slice (some ⟨P.qb, P.qo, none⟩) 5 P.cap) (P.sq), selS b10 (.pointer (some ⟨P.qb, P.qo + 4, none⟩)) (P.sr), selS b11 (.pointer (some ⟨P.qb, P.qo + 5, none⟩)) (P.ss), selS b12 (.string P.V2) (P.su), selS b13 (.int .i64 z2) (P.sv), selS b14 (.agg #[.string P.V0, .int .i64 z1, .int .i64 z2, .slice none 0 0]) (P.sw), P.sx, P.sy, P.sz, P.ta, P.tb, P.tc, P.td, P.te, P.tf, P.tg]
def rs1F (P : rs1P) (z1 : Int) (z2 : Int) (XA : Nat) (b0 b1 b2 b3 b4 b5 b6 b7 b8 b9 b10 b11 b12 b13 b14 b15 b16 : Bool) (w : World) : Prop := (Below P.w0.heap.size P.w0 w) ∧ (∀ wx, Below P.w0.heap.size P.w0 wx → wx.cell? ⟨P.qb, P.qo + 1, none⟩ = some (.string P.V0) ∧ wx.cell? ⟨P.qb, P.qo + 3, none⟩ = some (.string P.V1) ∧ wx.cell? ⟨P.qb, P.qo + 5, none⟩ = some (.string P.V2)) ∧ (∀ wx, Below P.w0.heap.size P.w0 wx → Calls Tryz.prog 93 #[.string P.V1] wx fun e w' => (∃ z : Int, e = .returned (.int .i64 z) ∧ decO2 P.V1.data.toList z) ∧ Below wx.heap.size wx w') ∧ (∀ wx, Below P.w0.heap.size P.w0 wx → Calls Tryz.prog 93 #[.string P.V2] wx fun e w' => (∃ z : Int, e = .returned (.int .i64 z) ∧ decO2 P.V2.data.toList z) ∧ Below wx.heap.size wx w') ∧ (b8 = true → decO2 P.V1.data.toList z1) ∧ (b13 = true → decO2 P.V2.data.toList z2) ∧ (b15 = true → RowAt w XA 72 (cond b16 #[.string P.V0, .int .i64 z1, .int .i64 z2, .slice none 0 0] #[.string ⟨#[]⟩, .int .i64 0, .int .i64 0, .slice none 0 0]) ∧ P.w0.heap.size ≤ XA)
def rs1I (P : rs1P) (l : Array Bool) (f : Act) (w : World) : Prop :=
 ∃ (b0 b1 b2 b3 b4 b5 b6 b7 b8 b9 b10 b11 b12 b13 b14 b15 b16 : Bool) (z1 : Int) (z2 : Int) (XA : Nat), l = #[b0, b1, b2, b3, b4, b5, b6, b7, b8, b9, b10, b11, b12, b13, b14, b15, b16] ∧ f = { tmps := rs1T P z1 z2 XA b0 b1 b2 b3 b4 b5 b6 b7 b8 b9 b10 b11 b12 b13 b14 b15 b16, defers := [] } ∧ rs1F P z1 z2 XA b0 b1 b2 b3 b4 b5 b6 b7 b8 b9 b10 b11 b12 b13 b14 b15 b16 w
theorem rs1M {P : rs1P} {b0 b1 b2 b3 b4 b5 b6 b7 b8 b9 b10 b11 b12 b13 b14 b15 b16 : Bool} (z1 : Int) (z2 : Int) (XA : Nat) {l : Array Bool} {f : Act} {w : World} (hl : l = #[b0, b1, b2, b3, b4, b5, b6, b7, b8, b9, b10, b11, b12, b13, b14, b15, b16]) (hf : f = { tmps := rs1T P z1 z2 XA b0 b1 b2 b3 b4 b5 b6 b7 b8 b9 b10 b11 b12 b13 b14 b15 b16, defers := [] }) (h : rs1F P z1 z2 XA b0 b1 b2 b3 b4 b5 b6 b7 b8 b9 b10 b11 b12 b13 b14 b15 b16 w) : rs1I P l f w := ⟨b0, b1, b2, b3, b4, b5, b6, b7, b8, b9, b10, b11, b12, b13, b14, b15, b16, z1, z2, XA, hl, hf, h⟩
set_option maxRecDepth 20000 in
set_option maxHeartbeats 20000000 in
theorem rs1_step {Q : Exit → Act → World → Prop} (P : rs1P) (l : Array Bool) (f : Act) (w : World) (hC : Closed rs1O l) (hI : rs1I P l f w) (i : Nat) (h0 : l.getD i true = false) (o : Oper) (ho : rs1O[i]? = some o) (h1 : ∀ e ∈ o.after, Region.binds .any e = true → l.getD e.on false = true) : wpOp Tryz.prog rs1O Q i (rs1I P (l.setIfInBounds i true)) f w := by
 obtain ⟨b0, b1, b2, b3, b4, b5, b6, b7, b8, b9, b10, b11, b12, b13, b14, b15, b16, z1, z2, XA, rfl, rfl, hF⟩ := hI
 have hi : i < 17 := by
  rcases Nat.lt_or_ge i 17 with h | h
  · exact h
  · rw [show rs1O[i]? = none from Array.getElem?_eq_none h] at ho; cases ho
 rcases (by omega : i = 0 ∨ i = 1 ∨ i = 2 ∨ i = 3 ∨ i = 4 ∨ i = 5 ∨ i = 6 ∨ i = 7 ∨ i = 8 ∨ i = 9 ∨ i = 10 ∨ i = 11 ∨ i = 12 ∨ i = 13 ∨ i = 14 ∨ i = 15 ∨ i = 16) with rfl | rfl | rfl | rfl | rfl | rfl | rfl | rfl | rfl | rfl | rfl | rfl | rfl | rfl | rfl | rfl | rfl
 · obtain rfl : rs1o0 = o := Option.some.inj ho
   obtain rfl : b0 = false := h0
   have hn := wayN_all hC (i := 0) rfl [(1, 0), (2, 1), (3, 2), (14, 3), (16, 0)] [] nk rfl; repeat (obtain ⟨rfl, hn⟩ := hn)
   obtain ⟨hB, hcv, hr1, hr2, hd1, hd2, hXA⟩ := hF
   refine wpOp_step (o := rs1o0) rfl (fun K hK => ?_)
   replace hK := hid hK
   simp only [rs1o0, rs1T, selS_f]
   go_simp
   exact hK.out _ _ (rs1M z1 z2 XA rfl rfl ⟨hB, hcv, hr1, hr2, hd1, hd2, hXA⟩)
 · obtain rfl : rs1o1 = o := Option.some.inj ho
   obtain rfl : b1 = false := h0
   have hn := wayP_all (o := rs1o1) hC h1 [(0, none)] [] nk rfl; repeat (obtain ⟨rfl, hn⟩ := hn)
   have hn := wayN_all hC (i := 1) rfl [(2, 1), (3, 2), (14, 3), (16, 1)] [] nk rfl; repeat (obtain ⟨rfl, hn⟩ := hn)
   obtain ⟨hB, hcv, hr1, hr2, hd1, hd2, hXA⟩ := hF
   refine wpOp_step (o := rs1o1) rfl (fun K hK => ?_)
   replace hK := hid hK
   simp only [rs1o1, rs1T, selS_t, selS_f]
   go_simp
   exact hK.out _ _ (rs1M z1 z2 XA rfl rfl ⟨hB, hcv, hr1, hr2, hd1, hd2, hXA⟩)
 · obtain rfl : rs1o2 = o := Option.some.inj ho
   obtain rfl : b2 = false := h0
   have hn := wayP_all (o := rs1o2) hC h1 [(1, none), (0, some 1)] [] nk rfl; repeat (obtain ⟨rfl, hn⟩ := hn)
   have hn := wayN_all hC (i := 2) rfl [(3, 2), (14, 3), (16, 2)] [] nk rfl; repeat (obtain ⟨rfl, hn⟩ := hn)
   obtain ⟨hB, hcv, hr1, hr2, hd1, hd2, hXA⟩ := hF
   refine wpOp_step (o := rs1o2) rfl (fun K hK => ?_)
   replace hK := hid hK
   simp only [rs1o2, rs1T, selS_t, selS_f]
   go_simp
   exact hK.out _ _ (rs1M z1 z2 XA rfl rfl ⟨hB, hcv, hr1, hr2, hd1, hd2, hXA⟩)
 · obtain rfl : rs1o3 = o := Option.some.inj ho
   obtain rfl : b3 = false := h0
   have hn := wayP_all (o := rs1o3) hC h1 [(2, none), (1, some 2), (0, some 1)] [] nk rfl; repeat (obtain ⟨rfl, hn⟩ := hn)
   have hn := wayN_all hC (i := 3) rfl [(14, 3), (16, 3)] [] nk rfl; repeat (obtain ⟨rfl, hn⟩ := hn)
   obtain ⟨hB, hcv, hr1, hr2, hd1, hd2, hXA⟩ := hF
   obtain ⟨q0, q1, q2⟩ := hcv w hB
   refine wpOp_step (o := rs1o3) rfl (fun K hK => ?_)
   replace hK := hid hK
   simp only [rs1o3, rs1T, selS_t, selS_f]
   go_simp
   exact hK.out _ _ (rs1M z1 z2 XA rfl rfl ⟨hB, hcv, hr1, hr2, hd1, hd2, hXA⟩)
 · obtain rfl : rs1o4 = o := Option.some.inj ho
   obtain rfl : b4 = false := h0
   have hn := wayN_all hC (i := 4) rfl [(5, 4), (6, 5), (7, 6), (8, 7), (13, 8), (14, 8), (16, 4)] [] nk rfl; repeat (obtain ⟨rfl, hn⟩ := hn)
   obtain ⟨hB, hcv, hr1, hr2, hd1, hd2, hXA⟩ := hF
   refine wpOp_step (o := rs1o4) rfl (fun K hK => ?_)
   replace hK := hid hK
   simp only [rs1o4, rs1T, selS_f]
   go_simp
   exact hK.out _ _ (rs1M z1 z2 XA rfl rfl ⟨hB, hcv, hr1, hr2, fun h => Bool.noConfusion h, fun h => Bool.noConfusion h, hXA⟩)
 · obtain rfl : rs1o5 = o := Option.some.inj ho
   obtain rfl : b5 = false := h0
   have hn := wayP_all (o := rs1o5) hC h1 [(4, none)] [] nk rfl; repeat (obtain ⟨rfl, hn⟩ := hn)
   have hn := wayN_all hC (i := 5) rfl [(6, 5), (7, 6), (8, 7), (13, 8), (14, 8), (16, 5)] [] nk rfl; repeat (obtain ⟨rfl, hn⟩ := hn)
   obtain ⟨hB, hcv, hr1, hr2, hd1, hd2, hXA⟩ := hF
   refine wpOp_step (o := rs1o5) rfl (fun K hK => ?_)
   replace hK := hid hK
   simp only [rs1o5, rs1T, selS_t, selS_f]
   go_simp
   exact hK.out _ _ (rs1M z1 z2 XA rfl rfl ⟨hB, hcv, hr1, hr2, fun h => Bool.noConfusion h, fun h => Bool.noConfusion h, hXA⟩)
 · obtain rfl : rs1o6 = o := Option.some.inj ho
   obtain rfl : b6 = false := h0
   have hn := wayP_all (o := rs1o6) hC h1 [(5, none), (4, some 5)] [] nk rfl; repeat (obtain ⟨rfl, hn⟩ := hn)
   have hn := wayN_all hC (i := 6) rfl [(7, 6), (8, 7), (13, 8), (14, 8), (16, 6)] [] nk rfl; repeat (obtain ⟨rfl, hn⟩ := hn)
   obtain ⟨hB, hcv, hr1, hr2, hd1, hd2, hXA⟩ := hF
   refine wpOp_step (o := rs1o6) rfl (fun K hK => ?_)
   replace hK := hid hK
   simp only [rs1o6, rs1T, selS_t, selS_f]
   go_simp
   exact hK.out _ _ (rs1M z1 z2 XA rfl rfl ⟨hB, hcv, hr1, hr2, fun h => Bool.noConfusion h, fun h => Bool.noConfusion h, hXA⟩)
 · obtain rfl : rs1o7 = o := Option.some.inj ho
   obtain rfl : b7 = false := h0
   have hn := wayP_all (o := rs1o7) hC h1 [(6, none), (5, some 6), (4, some 5)] [] nk rfl; repeat (obtain ⟨rfl, hn⟩ := hn)
   have hn := wayN_all hC (i := 7) rfl [(8, 7), (13, 8), (14, 8), (16, 7)] [] nk rfl; repeat (obtain ⟨rfl, hn⟩ := hn)
   obtain ⟨hB, hcv, hr1, hr2, hd1, hd2, hXA⟩ := hF
   obtain ⟨q0, q1, q2⟩ := hcv w hB
   refine wpOp_step (o := rs1o7) rfl (fun K hK => ?_)
   replace hK := hid hK
   simp only [rs1o7, rs1T, selS_t, selS_f]
   go_simp
   exact hK.out _ _ (rs1M z1 z2 XA rfl rfl ⟨hB, hcv, hr1, hr2, fun h => Bool.noConfusion h, fun h => Bool.noConfusion h, hXA⟩)
 · obtain rfl : rs1o8 = o := Option.some.inj ho
   obtain rfl : b8 = false := h0
   have hn := wayP_all (o := rs1o8) hC h1 [(7, none), (6, some 7), (5, some 6), (4, some 5)] [] nk rfl; repeat (obtain ⟨rfl, hn⟩ := hn)
   have hn := wayN_all hC (i := 8) rfl [(13, 8), (14, 8), (16, 8)] [] nk rfl; repeat (obtain ⟨rfl, hn⟩ := hn)
   obtain ⟨hB, hcv, hr1, hr2, hd1, hd2, hXA⟩ := hF
   refine wpOp_step (o := rs1o8) rfl (fun K hK => ?_)
   replace hK := hid hK
   simp only [rs1o8, rs1T, selS_t, selS_f]
   go_simp
   refine (hr1 _ hB).mono ?_
   rintro e w2 ⟨⟨z9, rfl, hz9⟩, hb2⟩
   dsimp only
   exact hK.out _ _ (rs1M z9 z2 XA rfl rfl ⟨hB.trans (hb2.mono hB.size), hcv, hr1, hr2, fun _ => hz9, fun h => Bool.noConfusion h, fun h => ⟨RowAt.nxS hb2 (hXA h).1, (hXA h).2⟩⟩)
 · obtain rfl : rs1o9 = o := Option.some.inj ho
   obtain rfl : b9 = false := h0
   have hn := wayN_all hC (i := 9) rfl [(10, 9), (11, 10), (12, 11), (13, 12), (14, 13), (16, 9)] [] nk rfl; repeat (obtain ⟨rfl, hn⟩ := hn)
   obtain ⟨hB, hcv, hr1, hr2, hd1, hd2, hXA⟩ := hF
   refine wpOp_step (o := rs1o9) rfl (fun K hK => ?_)
   replace hK := hid hK
   simp only [rs1o9, rs1T, selS_f]
   go_simp
   exact hK.out _ _ (rs1M z1 z2 XA rfl rfl ⟨hB, hcv, hr1, hr2, hd1, fun h => Bool.noConfusion h, hXA⟩)
 · obtain rfl : rs1o10 = o := Option.some.inj ho
   obtain rfl : b10 = false := h0
   have hn := wayP_all (o := rs1o10) hC h1 [(9, none)] [] nk rfl; repeat (obtain ⟨rfl, hn⟩ := hn)
   have hn := wayN_all hC (i := 10) rfl [(11, 10), (12, 11), (13, 12), (14, 13), (16, 10)] [] nk rfl; repeat (obtain ⟨rfl, hn⟩ := hn)
   obtain ⟨hB, hcv, hr1, hr2, hd1, hd2, hXA⟩ := hF
   refine wpOp_step (o := rs1o10) rfl (fun K hK => ?_)
   replace hK := hid hK
   simp only [rs1o10, rs1T, selS_t, selS_f]
   go_simp
   exact hK.out _ _ (rs1M z1 z2 XA rfl rfl ⟨hB, hcv, hr1, hr2, hd1, fun h => Bool.noConfusion h, hXA⟩)
 · obtain rfl : rs1o11 = o := Option.some.inj ho
   obtain rfl : b11 = false := h0
   have hn := wayP_all (o := rs1o11) hC h1 [(10, none), (9, some 10)] [] nk rfl; repeat (obtain ⟨rfl, hn⟩ := hn)
   have hn := wayN_all hC (i := 11) rfl [(12, 11), (13, 12), (14, 13), (16, 11)] [] nk rfl; repeat (obtain ⟨rfl, hn⟩ := hn)
   obtain ⟨hB, hcv, hr1, hr2, hd1, hd2, hXA⟩ := hF
   refine wpOp_step (o := rs1o11) rfl (fun K hK => ?_)
   replace hK := hid hK
   simp only [rs1o11, rs1T, selS_t, selS_f]
   go_simp
   exact hK.out _ _ (rs1M z1 z2 XA rfl rfl ⟨hB, hcv, hr1, hr2, hd1, fun h => Bool.noConfusion h, hXA⟩)
 · obtain rfl : rs1o12 = o := Option.some.inj ho
   obtain rfl : b12 = false := h0
   have hn := wayP_all (o := rs1o12) hC h1 [(11, none), (10, some 11), (9, some 10)] [] nk rfl; repeat (obtain ⟨rfl, hn⟩ := hn)
   have hn := wayN_all hC (i := 12) rfl [(13, 12), (14, 13), (16, 12)] [] nk rfl; repeat (obtain ⟨rfl, hn⟩ := hn)
   obtain ⟨hB, hcv, hr1, hr2, hd1, hd2, hXA⟩ := hF
   obtain ⟨q0, q1, q2⟩ := hcv w hB
   refine wpOp_step (o := rs1o12) rfl (fun K hK => ?_)
   replace hK := hid hK
   simp only [rs1o12, rs1T, selS_t, selS_f]
   go_simp
   exact hK.out _ _ (rs1M z1 z2 XA rfl rfl ⟨hB, hcv, hr1, hr2, hd1, fun h => Bool.noConfusion h, hXA⟩)
 · obtain rfl : rs1o13 = o := Option.some.inj ho
   obtain rfl : b13 = false := h0
   have hn := wayP_all (o := rs1o13) hC h1 [(12, none), (8, none), (11, some 12), (10, some 11), (9, some 10), (7, some 8), (6, some 7), (5, some 6), (4, some 5)] [] nk rfl; repeat (obtain ⟨rfl, hn⟩ := hn)
   have hn := wayN_all hC (i := 13) rfl [(14, 13), (16, 13)] [] nk rfl; repeat (obtain ⟨rfl, hn⟩ := hn)
   obtain ⟨hB, hcv, hr1, hr2, hd1, hd2, hXA⟩ := hF
   refine wpOp_step (o := rs1o13) rfl (fun K hK => ?_)
   replace hK := hid hK
   simp only [rs1o13, rs1T, selS_t, selS_f]
   go_simp
   refine (hr2 _ hB).mono ?_
   rintro e w2 ⟨⟨z9, rfl, hz9⟩, hb2⟩
   dsimp only
   exact hK.out _ _ (rs1M z1 z9 XA rfl rfl ⟨hB.trans (hb2.mono hB.size), hcv, hr1, hr2, hd1, fun _ => hz9, fun h => ⟨RowAt.nxS hb2 (hXA h).1, (hXA h).2⟩⟩)
 · obtain rfl : rs1o14 = o := Option.some.inj ho
   obtain rfl : b14 = false := h0
   have hn := wayP_all (o := rs1o14) hC h1 [(13, none), (8, none), (3, none), (12, some 13), (11, some 12), (10, some 11), (9, some 10), (7, some 8), (6, some 7), (5, some 6), (4, some 5), (2, some 3), (1, some 2), (0, some 1)] [] nk rfl; repeat (obtain ⟨rfl, hn⟩ := hn)
   have hn := wayN_all hC (i := 14) rfl [(16, 14)] [] nk rfl; repeat (obtain ⟨rfl, hn⟩ := hn)
   obtain ⟨hB, hcv, hr1, hr2, hd1, hd2, hXA⟩ := hF
   refine wpOp_step (o := rs1o14) rfl (fun K hK => ?_)
   replace hK := hid hK
   simp only [rs1o14, rs1T, selS_t, selS_f]
   go_simp
   exact hK.out _ _ (rs1M z1 z2 XA rfl rfl ⟨hB, hcv, hr1, hr2, hd1, hd2, hXA⟩)
 · obtain rfl : rs1o15 = o := Option.some.inj ho
   obtain rfl : b15 = false := h0
   have hn := wayN_all hC (i := 15) rfl [(16, 15)] [] nk rfl; repeat (obtain ⟨rfl, hn⟩ := hn)
   obtain ⟨hB, hcv, hr1, hr2, hd1, hd2, hXA⟩ := hF
   refine wpOp_step (o := rs1o15) rfl (fun K hK => ?_)
   replace hK := hid hK
   simp only [rs1o15, rs1T, selS_f]
   go_simp
   exact hK.out _ _ (rs1M z1 z2 w.heap.size rfl rfl ⟨hB.alloc hB.size _, hcv, hr1, hr2, hd1, hd2, fun _ => ⟨RowAt.new w _ _, hB.size⟩⟩)
 · obtain rfl : rs1o16 = o := Option.some.inj ho
   obtain rfl : b16 = false := h0
   have hn := wayP_all (o := rs1o16) hC h1 [(15, none), (14, none), (13, none), (12, none), (11, none), (10, none), (9, none), (8, none), (7, none), (6, none), (5, none), (4, none), (3, none), (2, none), (1, none), (0, none)] [] nk rfl; repeat (obtain ⟨rfl, hn⟩ := hn)
   obtain ⟨hB, hcv, hr1, hr2, hd1, hd2, hXA⟩ := hF
   have hz : RowAt w XA 72 #[.string ⟨#[]⟩, .int .i64 0, .int .i64 0, .slice none 0 0] := (hXA rfl).1
   have q0 := hz.cell 0
   have q1 := hz.cell 1
   have q2 := hz.cell 2
   have q3 := hz.cell 3
   have f0 := hz.free 0
   have f1 := hz.free 1
   have f2 := hz.free 2
   have f3 := hz.free 3
   have hx := (hXA rfl).2
   refine wpOp_step (o := rs1o16) rfl (fun K hK => ?_)
   replace hK := hid hK
   simp only [rs1o16, rs1T, selS_t]
   go_simp
   exact hK.out _ _ (rs1M z1 z2 XA rfl rfl ⟨((((hB.setCell (by simp; omega) _).setCell (by simp; omega) _).setCell (by simp; omega) _).setCell (by simp; omega) _), hcv, hr1, hr2, hd1, hd2, fun _ => ⟨((((hz.set 0 _).set 1 _).set 2 _).set 3 _), hx⟩⟩)
set_option maxRecDepth 20000 in
set_option maxHeartbeats 4000000 in
theorem rs1_wp {Q : Exit → Act → World → Prop} {rid : Nat} (w0 : World) (qb qo cap : Nat) (V0 V1 V2 : ByteArray) {sb sc sd se sf sh si sj sk sm sn so sp sq sr ss su sv sw sx sy sz ta tb tc td te tf tg : Value} (w : World) (hB : Below w0.heap.size w0 w) (hcv : ∀ wx, Below w0.heap.size w0 wx → wx.cell? ⟨qb, qo + 1, none⟩ = some (.string V0) ∧ wx.cell? ⟨qb, qo + 3, none⟩ = some (.string V1) ∧ wx.cell? ⟨qb, qo + 5, none⟩ = some (.string V2)) (hr1 : ∀ wx, Below w0.heap.size w0 wx → Calls Tryz.prog 93 #[.string V1] wx fun e w' => (∃ z : Int, e = .returned (.int .i64 z) ∧ decO2 V1.data.toList z) ∧ Below wx.heap.size wx w') (hr2 : ∀ wx, Below w0.heap.size w0 wx → Calls Tryz.prog 93 #[.string V2] wx fun e w' => (∃ z : Int, e = .returned (.int .i64 z) ∧ decO2 V2.data.toList z) ∧ Below wx.heap.size wx w')
 (fin : ∀ (z1 : Int) (z2 : Int) (XA : Nat) (w' : World), (Below w0.heap.size w0 w') → (∀ wx, Below w0.heap.size w0 wx → wx.cell? ⟨qb, qo + 1, none⟩ = some (.string V0) ∧ wx.cell? ⟨qb, qo + 3, none⟩ = some (.string V1) ∧ wx.cell? ⟨qb, qo + 5, none⟩ = some (.string V2)) → (∀ wx, Below w0.heap.size w0 wx → Calls Tryz.prog 93 #[.string V1] wx fun e w' => (∃ z : Int, e = .returned (.int .i64 z) ∧ decO2 V1.data.toList z) ∧ Below wx.heap.size wx w') → (∀ wx, Below w0.heap.size w0 wx → Calls Tryz.prog 93 #[.string V2] wx fun e w' => (∃ z : Int, e = .returned (.int .i64 z) ∧ decO2 V2.data.toList z) ∧ Below wx.heap.size wx w') → (decO2 V1.data.toList z1) → (decO2 V2.data.toList z2) → (RowAt w' XA 72 #[.string V0, .int .i64 z1, .int .i64 z2, .slice none 0 0] ∧ w0.heap.size ≤ XA) → Q .normal { tmps := #[.slice (some ⟨qb, qo, none⟩) 5 cap, sb, sc, .pointer (some ⟨XA, 0, none⟩), se, .slice (some ⟨qb, qo, none⟩) 5 cap, .pointer (some ⟨qb, qo, none⟩), .pointer (some ⟨qb, qo + 1, none⟩), .string V0, .slice (some ⟨qb, qo, none⟩) 5 cap, .pointer (some ⟨qb, qo + 2, none⟩), .pointer (some ⟨qb, qo + 3, none⟩), .string V1, .int .i64 z1, .slice (some ⟨qb, qo, none⟩) 5 cap, .pointer (some ⟨qb, qo + 4, none⟩), .pointer (some ⟨qb, qo + 5, none⟩), .string V2, .int .i64 z2, .agg #[.string V0, .int .i64 z1, .int .i64 z2, .slice none 0 0], sx, sy, sz, ta, tb, tc, td, te, tf, tg], defers := [] } w') :
 (Code.region rid rs1O true).wp Tryz.prog Q { tmps := #[.slice (some ⟨qb, qo, none⟩) 5 cap, sb, sc, sd, se, sf, sh, si, sj, sk, sm, sn, so, sp, sq, sr, ss, su, sv, sw, sx, sy, sz, ta, tb, tc, td, te, tf, tg], defers := [] } w := by
 refine wp_region_inv (ops := rs1O) (rs1I ⟨w0, qb, qo, cap, V0, V1, V2, sb, sc, sd, se, sf, sh, si, sj, sk, sm, sn, so, sp, sq, sr, ss, su, sv, sw, sx, sy, sz, ta, tb, tc, td, te, tf, tg⟩) (by kernel_rfl) (by kernel_rfl) (fun l f v hI => ?_) (fun l f v hC hI i h0 o ho h1 => rs1_step ⟨w0, qb, qo, cap, V0, V1, V2, sb, sc, sd, se, sf, sh, si, sj, sk, sm, sn, so, sp, sq, sr, ss, su, sv, sw, sx, sy, sz, ta, tb, tc, td, te, tf, tg⟩ l f v hC hI i h0 o ho h1) (fun l f v hI hall => ?_) ?_
 · obtain ⟨_, _, _, _, _, _, _, _, _, _, _, _, _, _, _, _, _, _, _, _, rfl, _⟩ := hI; rfl
 · obtain ⟨b0, b1, b2, b3, b4, b5, b6, b7, b8, b9, b10, b11, b12, b13, b14, b15, b16, z1, z2, XA, rfl, rfl, hB, hcv, hr1, hr2, hd1, hd2, hXA⟩ := hI
   have hn := allT hall [0, 1, 2, 3, 4, 5, 6, 7, 8, 9, 10, 11, 12, 13, 14, 15, 16] rfl; repeat (obtain ⟨rfl, hn⟩ := hn)
   exact fin z1 z2 XA v hB hcv hr1 hr2 (hd1 rfl) (hd2 rfl) (hXA rfl)
 · exact ⟨false, false, false, false, false, false, false, false, false, false, false, false, false, false, false, false, false, 0, 0, 0, rfl, rfl, hB.drew, hcv, hr1, hr2, fun h => Bool.noConfusion h, fun h => Bool.noConfusion h, fun h => Bool.noConfusion h⟩
end Go.Proofs.YtkcjigelenofhaaGreatDoor
