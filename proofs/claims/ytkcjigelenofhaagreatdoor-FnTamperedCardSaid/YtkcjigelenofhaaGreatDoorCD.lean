import Derived.Test.YtkcjigelenofhaaGreatDoorCT
namespace Go.Proofs.YtkcjigelenofhaaGreatDoor
open Go.RowKit
set_option linter.unusedVariables false
def cs8o0 : Oper := ⟨some 42, .load 25 (.tmp 7), 25, "l10_request.go:607", #[], none⟩
def cs8o1 : Oper := ⟨some 43, .move (.tmp 1), 33, "l10_request.go:607", #[], none⟩
def cs8o2 : Oper := ⟨some 44, .move (.tmp 11), 3, "l10_request.go:607", #[], none⟩
def cs8o3 : Oper := ⟨some 45, .indexAddr 33 (.tmp 43) (.tmp 44), 0, "l10_request.go:607", #[⟨1, .data⟩, ⟨2, .data⟩], none⟩
def cs8o4 : Oper := ⟨some 46, .fieldAddr 27 (.tmp 45) 1, 0, "l10_request.go:607", #[⟨3, .data⟩], none⟩
def cs8o5 : Oper := ⟨some 47, .load 9 (.tmp 46), 9, "l10_request.go:607", #[⟨4, .data⟩], none⟩
def cs8o6 : Oper := ⟨some 48, .fieldAddr 72 (.tmp 8) 3, 0, "l10_request.go:607", #[], none⟩
def cs8o7 : Oper := ⟨some 49, .load 28 (.tmp 48), 28, "l10_request.go:607", #[⟨6, .data⟩], none⟩
def cs8o8 : Oper := ⟨some 50, .call { callee := .value (.func 44), args := #[.tmp 42, .tmp 47, .tmp 49], argTypes := #[25, 9, 28] }, 2, "l10_request.go:607", #[⟨0, .data⟩, ⟨5, .data⟩, ⟨7, .data⟩], none⟩
def cs8o9 : Oper := ⟨some 51, .move (.tmp 9), 2, "l10_request.go:607", #[], none⟩
def cs8o10 : Oper := ⟨some 52, .binOp .neq 2 (.tmp 50) (.tmp 51) 2, 4, "l10_request.go:607", #[⟨8, .data⟩, ⟨9, .data⟩], none⟩
def cs8o11 : Oper := ⟨some 34, .assign (.tmp 52), 4, "l10_request.go:607", #[⟨10, .data⟩, ⟨8, .chain⟩], none⟩
def cs8O : Array Oper := #[cs8o0, cs8o1, cs8o2, cs8o3, cs8o4, cs8o5, cs8o6, cs8o7, cs8o8, cs8o9, cs8o10, cs8o11]
structure cs8P where
 (w0 : World)
 (X7 X8 kb ko n kc ki : Nat)
 (mt pt bd V0 sec : ByteArray)
 (aq : Option Addr)
 (nq cq : Nat)
 (a2 : Option Addr)
 (n2 c2 : Nat)
 (z1 z2 z4 SV : Int)
 (sA : Option Addr)
 (mc : Nat)
 (L : List ByteArray)
 (DB : Bool)
 (sa sc sd se sf sh sm so sp sq sr ss su sv sw sx sy sz ta tb tc td te tf tg th ti tj tk tl tm tn tp tr ts tt tu tv tw tx ty tz ua ub uc ud ue uf ug uh ui uj uk ul um un uo up uq ur us ut uu uv uw ux : Value)
def cs8T (P : cs8P) (dm : Nat) (b0 b1 b2 b3 b4 b5 b6 b7 b8 b9 b10 b11 : Bool) : Array Value := #[P.sa, .slice (some ⟨P.kb, P.ko, none⟩) P.n P.kc, P.sc, P.sd, P.se, P.sf, P.sh, .pointer (some ⟨P.X7, 0, none⟩), .pointer (some ⟨P.X8, 0, none⟩), .int .i64 P.z4, P.sm, .int .i64 (P.ki : Int), P.so, P.sp, P.sq, P.sr, P.ss, P.su, P.sv, P.sw, P.sx, P.sy, P.sz, P.ta, P.tb, P.tc, P.td, P.te, P.tf, P.tg, P.th, P.ti, P.tj, P.tk, selS b11 (.bool P.DB) (P.tl), P.tm, P.tn, P.tp, P.tr, P.ts, P.tt, P.tu, selS b0 (.agg #[.string P.mt, .string P.pt, .slice P.aq P.nq P.cq, .slice P.a2 P.n2 P.c2, .string P.bd]) (P.tv), selS b1 (.slice (some ⟨P.kb, P.ko, none⟩) P.n P.kc) (P.tw), selS b2 (.int .i64 (P.ki : Int)) (P.tx), selS b3 (.pointer (some ⟨P.kb, P.ko + P.ki * 2, none⟩)) (P.ty), selS b4 (.pointer (some ⟨P.kb, P.ko + P.ki * 2 + 1, none⟩)) (P.tz), selS b5 (.string P.sec) (P.ua), selS b6 (.pointer (some ⟨P.X8, 3, none⟩)) (P.ub), selS b7 (.slice P.sA P.L.length P.mc) (P.uc), selS b8 (.int .i64 P.SV) (P.ud), selS b9 (.int .i64 P.z4) (P.ue), selS b10 (.bool P.DB) (P.uf), P.ug, P.uh, P.ui, P.uj, P.uk, P.ul, P.um, P.un, P.uo, P.up, P.uq, P.ur, P.us, P.ut, P.uu, P.uv, P.uw, P.ux]
def cs8F (P : cs8P) (dm : Nat) (b0 b1 b2 b3 b4 b5 b6 b7 b8 b9 b10 b11 : Bool) (w : World) : Prop := (Below P.w0.heap.size P.w0 w) ∧ (RowAt w P.X7 25 #[.string P.mt, .string P.pt, .slice P.aq P.nq P.cq, .slice P.a2 P.n2 P.c2, .string P.bd]) ∧ (RowAt w P.X8 72 #[.string P.V0, .int .i64 P.z1, .int .i64 P.z2, .slice P.sA P.L.length P.mc]) ∧ (SgAt w P.sA P.mc P.L) ∧ (∀ wx, Below P.w0.heap.size P.w0 wx → wx.cell? ⟨P.kb, P.ko + P.ki * 2 + 1, none⟩ = some (.string P.sec)) ∧ ((0 : Int) ≤ (P.ki : Int)) ∧ ((P.ki : Int) < (P.n : Int)) ∧ (∀ wx, Below P.w0.heap.size P.w0 wx → SgAt wx P.sA P.mc P.L → Calls Tryz.prog 44 #[.agg #[.string P.mt, .string P.pt, .slice P.aq P.nq P.cq, .slice P.a2 P.n2 P.c2, .string P.bd], .string P.sec, .slice P.sA P.L.length P.mc] wx fun e w' => e = .returned (.int .i64 P.SV) ∧ Below wx.heap.size wx w') ∧ ((P.SV != P.z4) = P.DB)
def cs8I (P : cs8P) (l : Array Bool) (f : Act) (w : World) : Prop :=
 ∃ (b0 b1 b2 b3 b4 b5 b6 b7 b8 b9 b10 b11 : Bool) (dm : Nat), l = #[b0, b1, b2, b3, b4, b5, b6, b7, b8, b9, b10, b11] ∧ f = { tmps := cs8T P dm b0 b1 b2 b3 b4 b5 b6 b7 b8 b9 b10 b11, defers := [] } ∧ cs8F P dm b0 b1 b2 b3 b4 b5 b6 b7 b8 b9 b10 b11 w
theorem cs8M {P : cs8P} {b0 b1 b2 b3 b4 b5 b6 b7 b8 b9 b10 b11 : Bool} (dm : Nat) {l : Array Bool} {f : Act} {w : World} (hl : l = #[b0, b1, b2, b3, b4, b5, b6, b7, b8, b9, b10, b11]) (hf : f = { tmps := cs8T P dm b0 b1 b2 b3 b4 b5 b6 b7 b8 b9 b10 b11, defers := [] }) (h : cs8F P dm b0 b1 b2 b3 b4 b5 b6 b7 b8 b9 b10 b11 w) : cs8I P l f w := ⟨b0, b1, b2, b3, b4, b5, b6, b7, b8, b9, b10, b11, dm, hl, hf, h⟩
set_option maxRecDepth 20000 in
set_option maxHeartbeats 20000000 in
theorem cs8_step {Q : Exit → Act → World → Prop} (P : cs8P) (l : Array Bool) (f : Act) (w : World) (hC : Closed cs8O l) (hI : cs8I P l f w) (i : Nat) (h0 : l.getD i true = false) (o : Oper) (ho : cs8O[i]? = some o) (h1 : ∀ e ∈ o.after, Region.binds .any e = true → l.getD e.on false = true) : wpOp Tryz.prog cs8O Q i (cs8I P (l.setIfInBounds i true)) f w := by
 obtain ⟨b0, b1, b2, b3, b4, b5, b6, b7, b8, b9, b10, b11, dm, rfl, rfl, hF⟩ := hI
 have hi : i < 12 := by
  rcases Nat.lt_or_ge i 12 with h | h
  · exact h
  · rw [show cs8O[i]? = none from Array.getElem?_eq_none h] at ho; cases ho
 rcases (by omega : i = 0 ∨ i = 1 ∨ i = 2 ∨ i = 3 ∨ i = 4 ∨ i = 5 ∨ i = 6 ∨ i = 7 ∨ i = 8 ∨ i = 9 ∨ i = 10 ∨ i = 11) with rfl | rfl | rfl | rfl | rfl | rfl | rfl | rfl | rfl | rfl | rfl | rfl
 · obtain rfl : cs8o0 = o := Option.some.inj ho
   obtain rfl : b0 = false := h0
   have hn := wayN_all hC (i := 0) rfl [(8, 0), (10, 8), (11, 8)] [] nk rfl; repeat (obtain ⟨rfl, hn⟩ := hn)
   obtain ⟨hB, hx7, hx8, hsg, hkc, hi0, hi1, hks, hdd⟩ := hF
   have q0 := hx7.cell 0
   have q1 := hx7.cell 1
   have q2 := hx7.cell 2
   have q3 := hx7.cell 3
   have q4 := hx7.cell 4
   refine wpOp_step (o := cs8o0) rfl (fun K hK => ?_)
   replace hK := hid hK
   simp only [cs8o0, cs8T, selS_f]
   go_simp
   exact hK.out _ _ (cs8M dm rfl rfl ⟨hB, hx7, hx8, hsg, hkc, hi0, hi1, hks, hdd⟩)
 · obtain rfl : cs8o1 = o := Option.some.inj ho
   obtain rfl : b1 = false := h0
   have hn := wayN_all hC (i := 1) rfl [(3, 1), (4, 3), (5, 4), (8, 5), (10, 8), (11, 8)] [] nk rfl; repeat (obtain ⟨rfl, hn⟩ := hn)
   obtain ⟨hB, hx7, hx8, hsg, hkc, hi0, hi1, hks, hdd⟩ := hF
   refine wpOp_step (o := cs8o1) rfl (fun K hK => ?_)
   replace hK := hid hK
   simp only [cs8o1, cs8T, selS_f]
   go_simp
   exact hK.out _ _ (cs8M dm rfl rfl ⟨hB, hx7, hx8, hsg, hkc, hi0, hi1, hks, hdd⟩)
 · obtain rfl : cs8o2 = o := Option.some.inj ho
   obtain rfl : b2 = false := h0
   have hn := wayN_all hC (i := 2) rfl [(3, 2), (4, 3), (5, 4), (8, 5), (10, 8), (11, 8)] [] nk rfl; repeat (obtain ⟨rfl, hn⟩ := hn)
   obtain ⟨hB, hx7, hx8, hsg, hkc, hi0, hi1, hks, hdd⟩ := hF
   refine wpOp_step (o := cs8o2) rfl (fun K hK => ?_)
   replace hK := hid hK
   simp only [cs8o2, cs8T, selS_f]
   go_simp
   exact hK.out _ _ (cs8M dm rfl rfl ⟨hB, hx7, hx8, hsg, hkc, hi0, hi1, hks, hdd⟩)
 · obtain rfl : cs8o3 = o := Option.some.inj ho
   obtain rfl : b3 = false := h0
   have hn := wayP_all (o := cs8o3) hC h1 [(2, none), (1, none)] [] nk rfl; repeat (obtain ⟨rfl, hn⟩ := hn)
   have hn := wayN_all hC (i := 3) rfl [(4, 3), (5, 4), (8, 5), (10, 8), (11, 8)] [] nk rfl; repeat (obtain ⟨rfl, hn⟩ := hn)
   obtain ⟨hB, hx7, hx8, hsg, hkc, hi0, hi1, hks, hdd⟩ := hF
   refine wpOp_step (o := cs8o3) rfl (fun K hK => ?_)
   replace hK := hid hK
   simp only [cs8o3, cs8T, selS_t, selS_f]
   go_simp
   exact hK.out _ _ (cs8M dm rfl rfl ⟨hB, hx7, hx8, hsg, hkc, hi0, hi1, hks, hdd⟩)
 · obtain rfl : cs8o4 = o := Option.some.inj ho
   obtain rfl : b4 = false := h0
   have hn := wayP_all (o := cs8o4) hC h1 [(3, none), (1, some 3), (2, some 3)] [] nk rfl; repeat (obtain ⟨rfl, hn⟩ := hn)
   have hn := wayN_all hC (i := 4) rfl [(5, 4), (8, 5), (10, 8), (11, 8)] [] nk rfl; repeat (obtain ⟨rfl, hn⟩ := hn)
   obtain ⟨hB, hx7, hx8, hsg, hkc, hi0, hi1, hks, hdd⟩ := hF
   refine wpOp_step (o := cs8o4) rfl (fun K hK => ?_)
   replace hK := hid hK
   simp only [cs8o4, cs8T, selS_t, selS_f]
   go_simp
   exact hK.out _ _ (cs8M dm rfl rfl ⟨hB, hx7, hx8, hsg, hkc, hi0, hi1, hks, hdd⟩)
 · obtain rfl : cs8o5 = o := Option.some.inj ho
   obtain rfl : b5 = false := h0
   have hn := wayP_all (o := cs8o5) hC h1 [(4, none), (3, some 4), (1, some 3), (2, some 3)] [] nk rfl; repeat (obtain ⟨rfl, hn⟩ := hn)
   have hn := wayN_all hC (i := 5) rfl [(8, 5), (10, 8), (11, 8)] [] nk rfl; repeat (obtain ⟨rfl, hn⟩ := hn)
   obtain ⟨hB, hx7, hx8, hsg, hkc, hi0, hi1, hks, hdd⟩ := hF
   have q1 := hkc w hB
   refine wpOp_step (o := cs8o5) rfl (fun K hK => ?_)
   replace hK := hid hK
   simp only [cs8o5, cs8T, selS_t, selS_f]
   go_simp
   exact hK.out _ _ (cs8M dm rfl rfl ⟨hB, hx7, hx8, hsg, hkc, hi0, hi1, hks, hdd⟩)
 · obtain rfl : cs8o6 = o := Option.some.inj ho
   obtain rfl : b6 = false := h0
   have hn := wayN_all hC (i := 6) rfl [(7, 6), (8, 7), (10, 8), (11, 8)] [] nk rfl; repeat (obtain ⟨rfl, hn⟩ := hn)
   obtain ⟨hB, hx7, hx8, hsg, hkc, hi0, hi1, hks, hdd⟩ := hF
   refine wpOp_step (o := cs8o6) rfl (fun K hK => ?_)
   replace hK := hid hK
   simp only [cs8o6, cs8T, selS_f]
   go_simp
   exact hK.out _ _ (cs8M dm rfl rfl ⟨hB, hx7, hx8, hsg, hkc, hi0, hi1, hks, hdd⟩)
 · obtain rfl : cs8o7 = o := Option.some.inj ho
   obtain rfl : b7 = false := h0
   have hn := wayP_all (o := cs8o7) hC h1 [(6, none)] [] nk rfl; repeat (obtain ⟨rfl, hn⟩ := hn)
   have hn := wayN_all hC (i := 7) rfl [(8, 7), (10, 8), (11, 8)] [] nk rfl; repeat (obtain ⟨rfl, hn⟩ := hn)
   obtain ⟨hB, hx7, hx8, hsg, hkc, hi0, hi1, hks, hdd⟩ := hF
   have q3 := hx8.cell 3
   refine wpOp_step (o := cs8o7) rfl (fun K hK => ?_)
   replace hK := hid hK
   simp only [cs8o7, cs8T, selS_t, selS_f]
   go_simp
   exact hK.out _ _ (cs8M dm rfl rfl ⟨hB, hx7, hx8, hsg, hkc, hi0, hi1, hks, hdd⟩)
 · obtain rfl : cs8o8 = o := Option.some.inj ho
   obtain rfl : b8 = false := h0
   have hn := wayP_all (o := cs8o8) hC h1 [(7, none), (5, none), (0, none), (6, some 7), (4, some 5), (3, some 4), (1, some 3), (2, some 3)] [] nk rfl; repeat (obtain ⟨rfl, hn⟩ := hn)
   have hn := wayN_all hC (i := 8) rfl [(10, 8), (11, 8)] [] nk rfl; repeat (obtain ⟨rfl, hn⟩ := hn)
   obtain ⟨hB, hx7, hx8, hsg, hkc, hi0, hi1, hks, hdd⟩ := hF
   refine wpOp_step (o := cs8o8) rfl (fun K hK => ?_)
   replace hK := hid hK
   simp only [cs8o8, cs8T, selS_t, selS_f]
   go_simp
   refine (hks _ hB hsg).mono ?_
   rintro e w2 ⟨rfl, hb2⟩
   dsimp only
   exact hK.out _ _ (cs8M dm rfl rfl ⟨hB.trans (hb2.mono hB.size), RowAt.nxS hb2 hx7, RowAt.nxS hb2 hx8, hsg.below hb2, hkc, hi0, hi1, hks, hdd⟩)
 · obtain rfl : cs8o9 = o := Option.some.inj ho
   obtain rfl : b9 = false := h0
   have hn := wayN_all hC (i := 9) rfl [(10, 9), (11, 10)] [] nk rfl; repeat (obtain ⟨rfl, hn⟩ := hn)
   obtain ⟨hB, hx7, hx8, hsg, hkc, hi0, hi1, hks, hdd⟩ := hF
   refine wpOp_step (o := cs8o9) rfl (fun K hK => ?_)
   replace hK := hid hK
   simp only [cs8o9, cs8T, selS_f]
   go_simp
   exact hK.out _ _ (cs8M dm rfl rfl ⟨hB, hx7, hx8, hsg, hkc, hi0, hi1, hks, hdd⟩)
 · obtain rfl : cs8o10 = o := Option.some.inj ho
   obtain rfl : b10 = false := h0
   have hn := wayP_all (o := cs8o10) hC h1 [(9, none), (8, none), (0, some 8), (5, some 8), (7, some 8), (6, some 7), (4, some 5), (3, some 4), (1, some 3), (2, some 3)] [] nk rfl; repeat (obtain ⟨rfl, hn⟩ := hn)
   have hn := wayN_all hC (i := 10) rfl [(11, 10)] [] nk rfl; repeat (obtain ⟨rfl, hn⟩ := hn)
   obtain ⟨hB, hx7, hx8, hsg, hkc, hi0, hi1, hks, hdd⟩ := hF
   refine wpOp_step (o := cs8o10) rfl (fun K hK => ?_)
   replace hK := hid hK
   simp only [cs8o10, cs8T, selS_t, selS_f]
   go_simp
   exact hK.out _ _ (cs8M dm rfl rfl ⟨hB, hx7, hx8, hsg, hkc, hi0, hi1, hks, hdd⟩)
 · obtain rfl : cs8o11 = o := Option.some.inj ho
   obtain rfl : b11 = false := h0
   have hn := wayP_all (o := cs8o11) hC h1 [(10, none), (8, none), (9, some 10), (0, some 8), (5, some 8), (7, some 8), (6, some 7), (4, some 5), (3, some 4), (1, some 3), (2, some 3)] [] nk rfl; repeat (obtain ⟨rfl, hn⟩ := hn)
   obtain ⟨hB, hx7, hx8, hsg, hkc, hi0, hi1, hks, hdd⟩ := hF
   refine wpOp_step (o := cs8o11) rfl (fun K hK => ?_)
   replace hK := hid hK
   simp only [cs8o11, cs8T, selS_t, selS_f]
   go_simp
   exact hK.out _ _ (cs8M dm rfl rfl ⟨hB, hx7, hx8, hsg, hkc, hi0, hi1, hks, hdd⟩)
set_option maxRecDepth 20000 in
set_option maxHeartbeats 4000000 in
theorem cs8_wp {Q : Exit → Act → World → Prop} {rid : Nat} (w0 : World) (X7 X8 kb ko n kc ki : Nat) (mt pt bd V0 sec : ByteArray) (aq : Option Addr) (nq cq : Nat) (a2 : Option Addr) (n2 c2 : Nat) (z1 z2 z4 SV : Int) (sA : Option Addr) (mc : Nat) (L : List ByteArray) (DB : Bool) {sa sc sd se sf sh sm so sp sq sr ss su sv sw sx sy sz ta tb tc td te tf tg th ti tj tk tl tm tn tp tr ts tt tu tv tw tx ty tz ua ub uc ud ue uf ug uh ui uj uk ul um un uo up uq ur us ut uu uv uw ux : Value} (w : World) (hB : Below w0.heap.size w0 w) (hx7 : RowAt w X7 25 #[.string mt, .string pt, .slice aq nq cq, .slice a2 n2 c2, .string bd]) (hx8 : RowAt w X8 72 #[.string V0, .int .i64 z1, .int .i64 z2, .slice sA L.length mc]) (hsg : SgAt w sA mc L) (hkc : ∀ wx, Below w0.heap.size w0 wx → wx.cell? ⟨kb, ko + ki * 2 + 1, none⟩ = some (.string sec)) (hi0 : (0 : Int) ≤ (ki : Int)) (hi1 : (ki : Int) < (n : Int)) (hks : ∀ wx, Below w0.heap.size w0 wx → SgAt wx sA mc L → Calls Tryz.prog 44 #[.agg #[.string mt, .string pt, .slice aq nq cq, .slice a2 n2 c2, .string bd], .string sec, .slice sA L.length mc] wx fun e w' => e = .returned (.int .i64 SV) ∧ Below wx.heap.size wx w') (hdd : (SV != z4) = DB)
 (fin : ∀ (dm : Nat) (w' : World), (Below w0.heap.size w0 w') → (RowAt w' X7 25 #[.string mt, .string pt, .slice aq nq cq, .slice a2 n2 c2, .string bd]) → (RowAt w' X8 72 #[.string V0, .int .i64 z1, .int .i64 z2, .slice sA L.length mc]) → (SgAt w' sA mc L) → (∀ wx, Below w0.heap.size w0 wx → wx.cell? ⟨kb, ko + ki * 2 + 1, none⟩ = some (.string sec)) → ((0 : Int) ≤ (ki : Int)) → ((ki : Int) < (n : Int)) → (∀ wx, Below w0.heap.size w0 wx → SgAt wx sA mc L → Calls Tryz.prog 44 #[.agg #[.string mt, .string pt, .slice aq nq cq, .slice a2 n2 c2, .string bd], .string sec, .slice sA L.length mc] wx fun e w' => e = .returned (.int .i64 SV) ∧ Below wx.heap.size wx w') → ((SV != z4) = DB) → Q .normal { tmps := #[sa, .slice (some ⟨kb, ko, none⟩) n kc, sc, sd, se, sf, sh, .pointer (some ⟨X7, 0, none⟩), .pointer (some ⟨X8, 0, none⟩), .int .i64 z4, sm, .int .i64 (ki : Int), so, sp, sq, sr, ss, su, sv, sw, sx, sy, sz, ta, tb, tc, td, te, tf, tg, th, ti, tj, tk, .bool DB, tm, tn, tp, tr, ts, tt, tu, .agg #[.string mt, .string pt, .slice aq nq cq, .slice a2 n2 c2, .string bd], .slice (some ⟨kb, ko, none⟩) n kc, .int .i64 (ki : Int), .pointer (some ⟨kb, ko + ki * 2, none⟩), .pointer (some ⟨kb, ko + ki * 2 + 1, none⟩), .string sec, .pointer (some ⟨X8, 3, none⟩), .slice sA L.length mc, .int .i64 SV, .int .i64 z4, .bool DB, ug, uh, ui, uj, uk, ul, um, un, uo, up, uq, ur, us, ut, uu, uv, uw, ux], defers := [] } w') :
 (Code.region rid cs8O true).wp Tryz.prog Q { tmps := #[sa, .slice (some ⟨kb, ko, none⟩) n kc, sc, sd, se, sf, sh, .pointer (some ⟨X7, 0, none⟩), .pointer (some ⟨X8, 0, none⟩), .int .i64 z4, sm, .int .i64 (ki : Int), so, sp, sq, sr, ss, su, sv, sw, sx, sy, sz, ta, tb, tc, td, te, tf, tg, th, ti, tj, tk, tl, tm, tn, tp, tr, ts, tt, tu, tv, tw, tx, ty, tz, ua, ub, uc, ud, ue, uf, ug, uh, ui, uj, uk, ul, um, un, uo, up, uq, ur, us, ut, uu, uv, uw, ux], defers := [] } w := by
 refine wp_region_inv (ops := cs8O) (cs8I ⟨w0, X7, X8, kb, ko, n, kc, ki, mt, pt, bd, V0, sec, aq, nq, cq, a2, n2, c2, z1, z2, z4, SV, sA, mc, L, DB, sa, sc, sd, se, sf, sh, sm, so, sp, sq, sr, ss, su, sv, sw, sx, sy, sz, ta, tb, tc, td, te, tf, tg, th, ti, tj, tk, tl, tm, tn, tp, tr, ts, tt, tu, tv, tw, tx, ty, tz, ua, ub, uc, ud, ue, uf, ug, uh, ui, uj, uk, ul, um, un, uo, up, uq, ur, us, ut, uu, uv, uw, ux⟩) (by kernel_rfl) (by kernel_rfl) (fun l f v hI => ?_) (fun l f v hC hI i h0 o ho h1 => cs8_step ⟨w0, X7, X8, kb, ko, n, kc, ki, mt, pt, bd, V0, sec, aq, nq, cq, a2, n2, c2, z1, z2, z4, SV, sA, mc, L, DB, sa, sc, sd, se, sf, sh, sm, so, sp, sq, sr, ss, su, sv, sw, sx, sy, sz, ta, tb, tc, td, te, tf, tg, th, ti, tj, tk, tl, tm, tn, tp, tr, ts, tt, tu, tv, tw, tx, ty, tz, ua, ub, uc, ud, ue, uf, ug, uh, ui, uj, uk, ul, um, un, uo, up, uq, ur, us, ut, uu, uv, uw, ux⟩ l f v hC hI i h0 o ho h1) (fun l f v hI hall => ?_) ?_
 · obtain ⟨_, _, _, _, _, _, _, _, _, _, _, _, _, rfl, _⟩ := hI; rfl
 · obtain ⟨b0, b1, b2, b3, b4, b5, b6, b7, b8, b9, b10, b11, dm, rfl, rfl, hB, hx7, hx8, hsg, hkc, hi0, hi1, hks, hdd⟩ := hI
   have hn := allT hall [0, 1, 2, 3, 4, 5, 6, 7, 8, 9, 10, 11] rfl; repeat (obtain ⟨rfl, hn⟩ := hn)
   exact fin dm v hB hx7 hx8 hsg hkc hi0 hi1 hks hdd
 · exact ⟨false, false, false, false, false, false, false, false, false, false, false, false, 0, rfl, rfl, hB.drew, hx7.drew, hx8.drew, hsg.below ((Below.refl _ _).drew), hkc, hi0, hi1, hks, hdd⟩
end Go.Proofs.YtkcjigelenofhaaGreatDoor
namespace Go.Proofs.YtkcjigelenofhaaGreatDoor
open Go.RowKit
theorem rqB_bare {r : Rq} {B : Nat} (h : RqB r B) : RqB (ckB r) B := ⟨h.mt, h.pt, ⟨by have := h.qs.1; show r.qs.n - 1 ≤ B; omega, fun i hi => h.qs.2 i (by have : i < r.qs.n - 1 := hi; omega)⟩, h.hs, h.bd⟩
theorem rqIn_bare {w : World} {r : Rq} (h : RqIn w r) : RqIn w (ckB r) := by
 refine ⟨⟨by have := h.qs.1; show r.qs.n - 1 ≤ r.qs.cap; omega, ?_⟩, h.hs⟩
 rcases h.qs.2 with q | ⟨b, off, e, hb, hc⟩
 · exact .inl (by show r.qs.n - 1 = 0; omega)
 · exact .inr ⟨b, off, e, hb, fun k hk => hc k (by have : k < r.qs.n - 1 := hk; omega)⟩
theorem sgV_S {r : Rq} (h : rqP r) (sec : ByteArray) (ts : Nat → ByteArray) (m : Nat) : sgV r sec ts m = sgS r sec ts m := by unfold sgV; rw [pb_t h]; rfl
end Go.Proofs.YtkcjigelenofhaaGreatDoor
