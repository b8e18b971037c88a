import Derived.Test.YtepdodifgkejjaaGreatDoorICkW
namespace Go.Proofs.YtepdodifgkejjaaGreatDoor
open Go.RowKit
set_option linter.unusedVariables false
/-! CheckSigned's region 8 (by genckc.py). -/
def cs8o0 : Oper := ⟨some 42, .load 25 (.tmp 7), 25, "l10_request.go:607", #[], none⟩
def cs8o1 : Oper := ⟨some 43, .move (.tmp 1), 33, "l10_request.go:607", #[], none⟩
def cs8o2 : Oper := ⟨some 44, .move (.tmp 11), 3, "l10_request.go:607", #[], none⟩
def cs8o3 : Oper := ⟨some 45, .indexAddr 33 (.tmp 43) (.tmp 44), 0, "l10_request.go:607", #[⟨1, .data⟩, ⟨2, .data⟩], none⟩
def cs8o4 : Oper := ⟨some 46, .fieldAddr 27 (.tmp 45) 1, 0, "l10_request.go:607", #[⟨3, .data⟩], none⟩
def cs8o5 : Oper := ⟨some 47, .load 9 (.tmp 46), 9, "l10_request.go:607", #[⟨4, .data⟩], none⟩
def cs8o6 : Oper := ⟨some 48, .fieldAddr 72 (.tmp 8) 3, 0, "l10_request.go:607", #[], none⟩
def cs8o7 : Oper := ⟨some 49, .load 28 (.tmp 48), 28, "l10_request.go:607", #[⟨6, .data⟩], none⟩
def cs8o8 : Oper := ⟨some 50, .call { callee := .value (.func 44), args := #[.tmp 42, .tmp 47, .tmp 49], argTypes := #[25, 9, 28] }, 2, "l10_request.go:607", #[⟨0, .data⟩, ⟨5, .data⟩, ⟨7, .data⟩], none⟩
def cs8o9 : Oper := ⟨some 51, .move (.tmp 9), 2, "l10_request.go:607", #[], none⟩
def cs8o10 : Oper := ⟨some 52, .binOp .neq 2 (.tmp 50) (.tmp 51) 2, 4, "l10_request.go:607", #[⟨8, .data⟩, ⟨9, .data⟩], none⟩
def cs8o11 : Oper := ⟨some 34, .assign (.tmp 52), 4, "l10_request.go:607", #[⟨10, .data⟩, ⟨8, .chain⟩], none⟩
def cs8O : Array Oper := #[cs8o0, cs8o1, cs8o2, cs8o3, cs8o4, cs8o5, cs8o6, cs8o7, cs8o8, cs8o9, cs8o10, cs8o11]
structure cs8P where
  (w0 : World)
  (X7 X8 kb ko n kc ki : Nat)
  (mt pt bd V0 sec : ByteArray)
  (aq : Option Addr)
  (nq cq : Nat)
  (a2 : Option Addr)
  (n2 c2 : Nat)
  (z1 z2 z4 SV : Int)
  (sA : Option Addr)
  (mc : Nat)
  (L : List ByteArray)
  (DB : Bool)
  (sa sc sd se sf sh sm so sp sq sr ss su sv sw sx sy sz ta tb tc td te tf tg th ti tj tk tl tm tn tp tr ts tt tu tv tw tx ty tz ua ub uc ud ue uf ug uh ui uj uk ul um un uo up uq ur us ut uu uv uw ux : Value)
def cs8T (P : cs8P) (dm : Nat) (b0 b1 b2 b3 b4 b5 b6 b7 b8 b9 b10 b11 : Bool) : Array Value := #[P.sa, .slice (some ⟨P.kb, P.ko, none⟩) P.n P.kc, P.sc, P.sd, P.se, P.sf, P.sh, .pointer (some ⟨P.X7, 0, none⟩), .pointer (some ⟨P.X8, 0, none⟩), .int .i64 P.z4, P.sm, .int .i64 (P.ki : Int), P.so, P.sp, P.sq, P.sr, P.ss, P.su, P.sv, P.sw, P.sx, P.sy, P.sz, P.ta, P.tb, P.tc, P.td, P.te, P.tf, P.tg, P.th, P.ti, P.tj, P.tk, selS b11 (.bool P.DB) (P.tl), P.tm, P.tn, P.tp, P.tr, P.ts, P.tt, P.tu, selS b0 (.agg #[.string P.mt, .string P.pt, .slice P.aq P.nq P.cq, .slice P.a2 P.n2 P.c2, .string P.bd]) (P.tv), selS b1 (.slice (some ⟨P.kb, P.ko, none⟩) P.n P.kc) (P.tw), selS b2 (.int .i64 (P.ki : Int)) (P.tx), selS b3 (.pointer (some ⟨P.kb, P.ko + P.ki * 2, none⟩)) (P.ty), selS b4 (.pointer (some ⟨P.kb, P.ko + P.ki * 2 + 1, none⟩)) (P.tz), selS b5 (.string P.sec) (P.ua), selS b6 (.pointer (some ⟨P.X8, 3, none⟩)) (P.ub), selS b7 (.slice P.sA P.L.length P.mc) (P.uc), selS b8 (.int .i64 P.SV) (P.ud), selS b9 (.int .i64 P.z4) (P.ue), selS b10 (.bool P.DB) (P.uf), P.ug, P.uh, P.ui, P.uj, P.uk, P.ul, P.um, P.un, P.uo, P.up, P.uq, P.ur, P.us, P.ut, P.uu, P.uv, P.uw, P.ux]
def cs8F (P : cs8P) (dm : Nat) (b0 b1 b2 b3 b4 b5 b6 b7 b8 b9 b10 b11 : Bool) (w : World) : Prop := (Below P.w0.heap.size P.w0 w) ∧ (RowAt w P.X7 25 #[.string P.mt, .string P.pt, .slice P.aq P.nq P.cq, .slice P.a2 P.n2 P.c2, .string P.bd]) ∧ (RowAt w P.X8 72 #[.string P.V0, .int .i64 P.z1, .int .i64 P.z2, .slice P.sA P.L.length P.mc]) ∧ (SgAt w P.sA P.mc P.L) ∧ (∀ wx, Below P.w0.heap.size P.w0 wx → wx.cell? ⟨P.kb, P.ko + P.ki * 2 + 1, none⟩ = some (.string P.sec)) ∧ ((0 : Int) ≤ (P.ki : Int)) ∧ ((P.ki : Int) < (P.n : Int)) ∧ (∀ wx, Below P.w0.heap.size P.w0 wx → SgAt wx P.sA P.mc P.L → Calls Tryz.prog 44 #[.agg #[.string P.mt, .string P.pt, .slice P.aq P.nq P.cq, .slice P.a2 P.n2 P.c2, .string P.bd], .string P.sec, .slice P.sA P.L.length P.mc] wx fun e w' => e = .returned (.int .i64 P.SV) ∧ Below wx.heap.size wx w') ∧ ((P.SV != P.z4) = P.DB)
def cs8I (P : cs8P) (l : Array Bool) (f : Act) (w : World) : Prop :=
  ∃ (b0 b1 b2 b3 b4 b5 b6 b7 b8 b9 b10 b11 : Bool) (dm : Nat), l = #[b0, b1, b2, b3, b4, b5, b6, b7, b8, b9, b10, b11] ∧ f = { tmps := cs8T P dm b0 b1 b2 b3 b4 b5 b6 b7 b8 b9 b10 b11, defers := [] } ∧ cs8F P dm b0 b1 b2 b3 b4 b5 b6 b7 b8 b9 b10 b11 w
theorem cs8M {P : cs8P} {b0 b1 b2 b3 b4 b5 b6 b7 b8 b9 b10 b11 : Bool} (dm : Nat) {l : Array Bool} {f : Act} {w : World} (hl : l = #[b0, b1, b2, b3, b4, b5, b6, b7, b8, b9, b10, b11]) (hf : f = { tmps := cs8T P dm b0 b1 b2 b3 b4 b5 b6 b7 b8 b9 b10 b11, defers := [] }) (h : cs8F P dm b0 b1 b2 b3 b4 b5 b6 b7 b8 b9 b10 b11 w) : cs8I P l f w := ⟨b0, b1, b2, b3, b4, b5, b6, b7, b8, b9, b10, b11, dm, hl, hf, h⟩
set_option maxRecDepth 20000 in
set_option maxHeartbeats 20000000 in
theorem cs8_step {Q : Exit → Act → World → Prop} (P : cs8P) (l : Array Bool) (f : Act) (w : World) (hC : Closed cs8O l) (hI : cs8I P l f w) (i : Nat) (h0 : l.getD i true = false) (o : Oper) (ho : cs8O[i]? = some o) (h1 : ∀ e ∈ o.after, Region.binds .any e = true → l.getD e.on false = true) : wpOp Tryz.prog cs8O Q i (cs8I P (l.setIfInBounds i true)) f w := by
  obtain ⟨b0, b1, b2, b3, b4, b5, b6, b7, b8, b9, b10, b11, dm, rfl, rfl, hF⟩ := hI
  have hi : i < 12 := by
    rcases Nat.lt_or_ge i 12 with h | h
    · exact h
    · rw [show cs8O[i]? = none from Array.getElem?_eq_none h] at ho; cases ho
  rcases (by omega : i = 0 ∨ i = 1 ∨ i = 2 ∨ i = 3 ∨ i = 4 ∨ i = 5 ∨ i = 6 ∨ i = 7 ∨ i = 8 ∨ i = 9 ∨ i = 10 ∨ i = 11) with rfl | rfl | rfl | rfl | rfl | rfl | rfl | rfl | rfl | rfl | rfl | rfl
  · obtain rfl : cs8o0 = o := Option.some.inj ho
    obtain rfl : b0 = false := h0
    have hn := wayN_all hC (i := 0) rfl [(8, 0), (10, 8), (11, 8)] [] nk rfl; repeat (obtain ⟨rfl, hn⟩ := hn)
    obtain ⟨hB, hx7, hx8, hsg, hkc, hi0, hi1, hks, hdd⟩ := hF
    have q0 := hx7.cell 0
    have q1 := hx7.cell 1
    have q2 := hx7.cell 2
    have q3 := hx7.cell 3
    have q4 := hx7.cell 4
    refine wpOp_step (o := cs8o0) rfl (fun K hK => ?_)
    replace hK := hid hK
    simp only [cs8o0, cs8T, selS_f]
    go_simp
    exact hK.out _ _ (cs8M dm rfl rfl ⟨hB, hx7, hx8, hsg, hkc, hi0, hi1, hks, hdd⟩)
  · obtain rfl : cs8o1 = o := Option.some.inj ho
    obtain rfl : b1 = false := h0
    have hn := wayN_all hC (i := 1) rfl [(3, 1), (4, 3), (5, 4), (8, 5), (10, 8), (11, 8)] [] nk rfl; repeat (obtain ⟨rfl, hn⟩ := hn)
    obtain ⟨hB, hx7, hx8, hsg, hkc, hi0, hi1, hks, hdd⟩ := hF
    refine wpOp_step (o := cs8o1) rfl (fun K hK => ?_)
    replace hK := hid hK
    simp only [cs8o1, cs8T, selS_f]
    go_simp
    exact hK.out _ _ (cs8M dm rfl rfl ⟨hB, hx7, hx8, hsg, hkc, hi0, hi1, hks, hdd⟩)
  · obtain rfl : cs8o2 = o := Option.some.inj ho
    obtain rfl : b2 = false := h0
    have hn := wayN_all hC (i := 2) rfl [(3, 2), (4, 3), (5, 4), (8, 5), (10, 8), (11, 8)] [] nk rfl; repeat (obtain ⟨rfl, hn⟩ := hn)
    obtain ⟨hB, hx7, hx8, hsg, hkc, hi0, hi1, hks, hdd⟩ := hF
    refine wpOp_step (o := cs8o2) rfl (fun K hK => ?_)
    replace hK := hid hK
    simp only [cs8o2, cs8T, selS_f]
    go_simp
    exact hK.out _ _ (cs8M dm rfl rfl ⟨hB, hx7, hx8, hsg, hkc, hi0, hi1, hks, hdd⟩)
  · obtain rfl : cs8o3 = o := Option.some.inj ho
    obtain rfl : b3 = false := h0
    have hn := wayP_all (o := cs8o3) hC h1 [(2, none), (1, none)] [] nk rfl; repeat (obtain ⟨rfl, hn⟩ := hn)
    have hn := wayN_all hC (i := 3) rfl [(4, 3), (5, 4), (8, 5), (10, 8), (11, 8)] [] nk rfl; repeat (obtain ⟨rfl, hn⟩ := hn)
    obtain ⟨hB, hx7, hx8, hsg, hkc, hi0, hi1, hks, hdd⟩ := hF
    refine wpOp_step (o := cs8o3) rfl (fun K hK => ?_)
    replace hK := hid hK
    simp only [cs8o3, cs8T, selS_t, selS_f]
    go_simp
    exact hK.out _ _ (cs8M dm rfl rfl ⟨hB, hx7, hx8, hsg, hkc, hi0, hi1, hks, hdd⟩)
  · obtain rfl : cs8o4 = o := Option.some.inj ho
    obtain rfl : b4 = false := h0
    have hn := wayP_all (o := cs8o4) hC h1 [(3, none), (1, some 3), (2, some 3)] [] nk rfl; repeat (obtain ⟨rfl, hn⟩ := hn)
    have hn := wayN_all hC (i := 4) rfl [(5, 4), (8, 5), (10, 8), (11, 8)] [] nk rfl; repeat (obtain ⟨rfl, hn⟩ := hn)
    obtain ⟨hB, hx7, hx8, hsg, hkc, hi0, hi1, hks, hdd⟩ := hF
    refine wpOp_step (o := cs8o4) rfl (fun K hK => ?_)
    replace hK := hid hK
    simp only [cs8o4, cs8T, selS_t, selS_f]
    go_simp
    exact hK.out _ _ (cs8M dm rfl rfl ⟨hB, hx7, hx8, hsg, hkc, hi0, hi1, hks, hdd⟩)
  · obtain rfl : cs8o5 = o := Option.some.inj ho
    obtain rfl : b5 = false := h0
    have hn := wayP_all (o := cs8o5) hC h1 [(4, none), (3, some 4), (1, some 3), (2, some 3)] [] nk rfl; repeat (obtain ⟨rfl, hn⟩ := hn)
    have hn := wayN_all hC (i := 5) rfl [(8, 5), (10, 8), (11, 8)] [] nk rfl; repeat (obtain ⟨rfl, hn⟩ := hn)
    obtain ⟨hB, hx7, hx8, hsg, hkc, hi0, hi1, hks, hdd⟩ := hF
    have q1 := hkc w hB
    refine wpOp_step (o := cs8o5) rfl (fun K hK => ?_)
    replace hK := hid hK
    simp only [cs8o5, cs8T, selS_t, selS_f]
    go_simp
    exact hK.out _ _ (cs8M dm rfl rfl ⟨hB, hx7, hx8, hsg, hkc, hi0, hi1, hks, hdd⟩)
  · obtain rfl : cs8o6 = o := Option.some.inj ho
    obtain rfl : b6 = false := h0
    have hn := wayN_all hC (i := 6) rfl [(7, 6), (8, 7), (10, 8), (11, 8)] [] nk rfl; repeat (obtain ⟨rfl, hn⟩ := hn)
    obtain ⟨hB, hx7, hx8, hsg, hkc, hi0, hi1, hks, hdd⟩ := hF
    refine wpOp_step (o := cs8o6) rfl (fun K hK => ?_)
    replace hK := hid hK
    simp only [cs8o6, cs8T, selS_f]
    go_simp
    exact hK.out _ _ (cs8M dm rfl rfl ⟨hB, hx7, hx8, hsg, hkc, hi0, hi1, hks, hdd⟩)
  · obtain rfl : cs8o7 = o := Option.some.inj ho
    obtain rfl : b7 = false := h0
    have hn := wayP_all (o := cs8o7) hC h1 [(6, none)] [] nk rfl; repeat (obtain ⟨rfl, hn⟩ := hn)
    have hn := wayN_all hC (i := 7) rfl [(8, 7), (10, 8), (11, 8)] [] nk rfl; repeat (obtain ⟨rfl, hn⟩ := hn)
    obtain ⟨hB, hx7, hx8, hsg, hkc, hi0, hi1, hks, hdd⟩ := hF
    have q3 := hx8.cell 3
    refine wpOp_step (o := cs8o7) rfl (fun K hK => ?_)
    replace hK := hid hK
    simp only [cs8o7, cs8T, selS_t, selS_f]
    go_simp
    exact hK.out _ _ (cs8M dm rfl rfl ⟨hB, hx7, hx8, hsg, hkc, hi0, hi1, hks, hdd⟩)
  · obtain rfl : cs8o8 = o := Option.some.inj ho
    obtain rfl : b8 = false := h0
    have hn := wayP_all (o := cs8o8) hC h1 [(7, none), (5, none), (0, none), (6, some 7), (4, some 5), (3, some 4), (1, some 3), (2, some 3)] [] nk rfl; repeat (obtain ⟨rfl, hn⟩ := hn)
    have hn := wayN_all hC (i := 8) rfl [(10, 8), (11, 8)] [] nk rfl; repeat (obtain ⟨rfl, hn⟩ := hn)
    obtain ⟨hB, hx7, hx8, hsg, hkc, hi0, hi1, hks, hdd⟩ := hF
    refine wpOp_step (o := cs8o8) rfl (fun K hK => ?_)
    replace hK := hid hK
    simp only [cs8o8, cs8T, selS_t, selS_f]
    go_simp
    refine (hks _ hB hsg).mono ?_
    rintro e w2 ⟨rfl, hb2⟩
    dsimp only
    exact hK.out _ _ (cs8M dm rfl rfl ⟨hB.trans (hb2.mono hB.size), RowAt.nxS hb2 hx7, RowAt.nxS hb2 hx8, hsg.below hb2, hkc, hi0, hi1, hks, hdd⟩)
  · obtain rfl : cs8o9 = o := Option.some.inj ho
    obtain rfl : b9 = false := h0
    have hn := wayN_all hC (i := 9) rfl [(10, 9), (11, 10)] [] nk rfl; repeat (obtain ⟨rfl, hn⟩ := hn)
    obtain ⟨hB, hx7, hx8, hsg, hkc, hi0, hi1, hks, hdd⟩ := hF
    refine wpOp_step (o := cs8o9) rfl (fun K hK => ?_)
    replace hK := hid hK
    simp only [cs8o9, cs8T, selS_f]
    go_simp
    exact hK.out _ _ (cs8M dm rfl rfl ⟨hB, hx7, hx8, hsg, hkc, hi0, hi1, hks, hdd⟩)
  · obtain rfl : cs8o10 = o := Option.some.inj ho
    obtain rfl : b10 = false := h0
    have hn := wayP_all (o := cs8o10) hC h1 [(9, none), (8, none), (0, some 8), (5, some 8), (7, some 8), (6, some 7), (4, some 5), (3, some 4), (1, some 3), (2, some 3)] [] nk rfl; repeat (obtain ⟨rfl, hn⟩ := hn)
    have hn := wayN_all hC (i := 10) rfl [(11, 10)] [] nk rfl; repeat (obtain ⟨rfl, hn⟩ := hn)
    obtain ⟨hB, hx7, hx8, hsg, hkc, hi0, hi1, hks, hdd⟩ := hF
    refine wpOp_step (o := cs8o10) rfl (fun K hK => ?_)
    replace hK := hid hK
    simp only [cs8o10, cs8T, selS_t, selS_f]
    go_simp
    exact hK.out _ _ (cs8M dm rfl rfl ⟨hB, hx7, hx8, hsg, hkc, hi0, hi1, hks, hdd⟩)
  · obtain rfl : cs8o11 = o := Option.some.inj ho
    obtain rfl : b11 = false := h0
    have hn := wayP_all (o := cs8o11) hC h1 [(10, none), (8, none), (9, some 10), (0, some 8), (5, some 8), (7, some 8), (6, some 7), (4, some 5), (3, some 4), (1, some 3), (2, some 3)] [] nk rfl; repeat (obtain ⟨rfl, hn⟩ := hn)
    obtain ⟨hB, hx7, hx8, hsg, hkc, hi0, hi1, hks, hdd⟩ := hF
    refine wpOp_step (o := cs8o11) rfl (fun K hK => ?_)
    replace hK := hid hK
    simp only [cs8o11, cs8T, selS_t, selS_f]
    go_simp
    exact hK.out _ _ (cs8M dm rfl rfl ⟨hB, hx7, hx8, hsg, hkc, hi0, hi1, hks, hdd⟩)
set_option maxRecDepth 20000 in
set_option maxHeartbeats 4000000 in
theorem cs8_wp {Q : Exit → Act → World → Prop} {rid : Nat} (w0 : World) (X7 X8 kb ko n kc ki : Nat) (mt pt bd V0 sec : ByteArray) (aq : Option Addr) (nq cq : Nat) (a2 : Option Addr) (n2 c2 : Nat) (z1 z2 z4 SV : Int) (sA : Option Addr) (mc : Nat) (L : List ByteArray) (DB : Bool) {sa sc sd se sf sh sm so sp sq sr ss su sv sw sx sy sz ta tb tc td te tf tg th ti tj tk tl tm tn tp tr ts tt tu tv tw tx ty tz ua ub uc ud ue uf ug uh ui uj uk ul um un uo up uq ur us ut uu uv uw ux : Value} (w : World) (hB : Below w0.heap.size w0 w) (hx7 : RowAt w X7 25 #[.string mt, .string pt, .slice aq nq cq, .slice a2 n2 c2, .string bd]) (hx8 : RowAt w X8 72 #[.string V0, .int .i64 z1, .int .i64 z2, .slice sA L.length mc]) (hsg : SgAt w sA mc L) (hkc : ∀ wx, Below w0.heap.size w0 wx → wx.cell? ⟨kb, ko + ki * 2 + 1, none⟩ = some (.string sec)) (hi0 : (0 : Int) ≤ (ki : Int)) (hi1 : (ki : Int) < (n : Int)) (hks : ∀ wx, Below w0.heap.size w0 wx → SgAt wx sA mc L → Calls Tryz.prog 44 #[.agg #[.string mt, .string pt, .slice aq nq cq, .slice a2 n2 c2, .string bd], .string sec, .slice sA L.length mc] wx fun e w' => e = .returned (.int .i64 SV) ∧ Below wx.heap.size wx w') (hdd : (SV != z4) = DB)
    (fin : ∀ (dm : Nat) (w' : World), (Below w0.heap.size w0 w') → (RowAt w' X7 25 #[.string mt, .string pt, .slice aq nq cq, .slice a2 n2 c2, .string bd]) → (RowAt w' X8 72 #[.string V0, .int .i64 z1, .int .i64 z2, .slice sA L.length mc]) → (SgAt w' sA mc L) → (∀ wx, Below w0.heap.size w0 wx → wx.cell? ⟨kb, ko + ki * 2 + 1, none⟩ = some (.string sec)) → ((0 : Int) ≤ (ki : Int)) → ((ki : Int) < (n : Int)) → (∀ wx, Below w0.heap.size w0 wx → SgAt wx sA mc L → Calls Tryz.prog 44 #[.agg #[.string mt, .string pt, .slice aq nq cq, .slice a2 n2 c2, .string bd], .string sec, .slice sA L.length mc] wx fun e w' => e = .returned (.int .i64 SV) ∧ Below wx.heap.size wx w') → ((SV != z4) = DB) → Q .normal { tmps := #[sa, .slice (some ⟨kb, ko, none⟩) n kc, sc, sd, se, sf, sh, .pointer (some ⟨X7, 0, none⟩), .pointer (some ⟨X8, 0, none⟩), .int .i64 z4, sm, .int .i64 (ki : Int), so, sp, sq, sr, ss, su, sv, sw, sx, sy, sz, ta, tb, tc, td, te, tf, tg, th, ti, tj, tk, .bool DB, tm, tn, tp, tr, ts, tt, tu, .agg #[.string mt, .string pt, .slice aq nq cq, .slice a2 n2 c2, .string bd], .slice (some ⟨kb, ko, none⟩) n kc, .int .i64 (ki : Int), .pointer (some ⟨kb, ko + ki * 2, none⟩), .pointer (some ⟨kb, ko + ki * 2 + 1, none⟩), .string sec, .pointer (some ⟨X8, 3, none⟩), .slice sA L.length mc, .int .i64 SV, .int .i64 z4, .bool DB, ug, uh, ui, uj, uk, ul, um, un, uo, up, uq, ur, us, ut, uu, uv, uw, ux], defers := [] } w') :
    (Code.region rid cs8O true).wp Tryz.prog Q { tmps := #[sa, .slice (some ⟨kb, ko, none⟩) n kc, sc, sd, se, sf, sh, .pointer (some ⟨X7, 0, none⟩), .pointer (some ⟨X8, 0, none⟩), .int .i64 z4, sm, .int .i64 (ki : Int), so, sp, sq, sr, ss, su, sv, sw, sx, sy, sz, ta, tb, tc, td, te, tf, tg, th, ti, tj, tk, tl, tm, tn, tp, tr, ts, tt, tu, tv, tw, tx, ty, tz, ua, ub, uc, ud, ue, uf, ug, uh, ui, uj, uk, ul, um, un, uo, up, uq, ur, us, ut, uu, uv, uw, ux], defers := [] } w := by
  refine wp_region_inv (ops := cs8O) (cs8I ⟨w0, X7, X8, kb, ko, n, kc, ki, mt, pt, bd, V0, sec, aq, nq, cq, a2, n2, c2, z1, z2, z4, SV, sA, mc, L, DB, sa, sc, sd, se, sf, sh, sm, so, sp, sq, sr, ss, su, sv, sw, sx, sy, sz, ta, tb, tc, td, te, tf, tg, th, ti, tj, tk, tl, tm, tn, tp, tr, ts, tt, tu, tv, tw, tx, ty, tz, ua, ub, uc, ud, ue, uf, ug, uh, ui, uj, uk, ul, um, un, uo, up, uq, ur, us, ut, uu, uv, uw, ux⟩) (by kernel_rfl) (by kernel_rfl) (fun l f v hI => ?_) (fun l f v hC hI i h0 o ho h1 => cs8_step ⟨w0, X7, X8, kb, ko, n, kc, ki, mt, pt, bd, V0, sec, aq, nq, cq, a2, n2, c2, z1, z2, z4, SV, sA, mc, L, DB, sa, sc, sd, se, sf, sh, sm, so, sp, sq, sr, ss, su, sv, sw, sx, sy, sz, ta, tb, tc, td, te, tf, tg, th, ti, tj, tk, tl, tm, tn, tp, tr, ts, tt, tu, tv, tw, tx, ty, tz, ua, ub, uc, ud, ue, uf, ug, uh, ui, uj, uk, ul, um, un, uo, up, uq, ur, us, ut, uu, uv, uw, ux⟩ l f v hC hI i h0 o ho h1) (fun l f v hI hall => ?_) ?_
  · obtain ⟨_, _, _, _, _, _, _, _, _, _, _, _, _, rfl, _⟩ := hI; rfl
  · obtain ⟨b0, b1, b2, b3, b4, b5, b6, b7, b8, b9, b10, b11, dm, rfl, rfl, hB, hx7, hx8, hsg, hkc, hi0, hi1, hks, hdd⟩ := hI
    have hn := allT hall [0, 1, 2, 3, 4, 5, 6, 7, 8, 9, 10, 11] rfl; repeat (obtain ⟨rfl, hn⟩ := hn)
    exact fin dm v hB hx7 hx8 hsg hkc hi0 hi1 hks hdd
  · exact ⟨false, false, false, false, false, false, false, false, false, false, false, false, 0, rfl, rfl, hB.drew, hx7.drew, hx8.drew, hsg.below ((Below.refl _ _).drew), hkc, hi0, hi1, hks, hdd⟩
end Go.Proofs.YtepdodifgkejjaaGreatDoor
namespace Go.Proofs.YtepdodifgkejjaaGreatDoor
open Go.RowKit
/-! The program's CheckSigned (by genckd.py). -/
theorem rqB_bare {r : Rq} {B : Nat} (h : RqB r B) : RqB (ckB r) B := ⟨h.mt, h.pt, ⟨by have := h.qs.1; show r.qs.n - 1 ≤ B; omega, fun i hi => h.qs.2 i (by have : i < r.qs.n - 1 := hi; omega)⟩, h.hs, h.bd⟩
theorem rqIn_bare {w : World} {r : Rq} (h : RqIn w r) : RqIn w (ckB r) := by
  refine ⟨⟨by have := h.qs.1; show r.qs.n - 1 ≤ r.qs.cap; omega, ?_⟩, h.hs⟩
  rcases h.qs.2 with q | ⟨b, off, e, hb, hc⟩
  · exact .inl (by show r.qs.n - 1 = 0; omega)
  · exact .inr ⟨b, off, e, hb, fun k hk => hc k (by have : k < r.qs.n - 1 := hk; omega)⟩
theorem sgV_S {r : Rq} (h : rqP r) (sec : ByteArray) (ts : Nat → ByteArray) (m : Nat) : sgV r sec ts m = sgS r sec ts m := by unfold sgV; rw [pb_t h]; rfl
set_option maxRecDepth 20000 in
set_option maxHeartbeats 8000000 in
theorem iCheck (mt pt : ByteArray) (a1 : Option Addr) (n1 c1 : Nat) (o1 : Nat → Hp) (a2 : Option Addr) (n2 c2 : Nat) (o2 : Nat → Hp) (bd : ByteArray) (kA : Option Addr) (n kc : Nat) (ks : Nat → Ak) (now : Int) (hB : RqB ⟨mt, pt, ⟨a1, n1, c1, o1⟩, ⟨a2, n2, c2, o2⟩, bd⟩ 1048576) (hn : n ≤ 1048576) (w : World) (hv : RdV w) (h : RqIn w ⟨mt, pt, ⟨a1, n1, c1, o1⟩, ⟨a2, n2, c2, o2⟩, bd⟩) (hK : Aks w kA n kc ks) :
    Calls Tryz.prog 11 #[.agg #[.string mt, .string pt, .slice a1 n1 c1, .slice a2 n2 c2, .string bd], .slice kA n kc, .int .i64 now] w fun e w' => e = .returned (.agg #[.int .i64 (ckR ⟨mt, pt, ⟨a1, n1, c1, o1⟩, ⟨a2, n2, c2, o2⟩, bd⟩ n ks now).1, .string (ckR ⟨mt, pt, ⟨a1, n1, c1, o1⟩, ⟨a2, n2, c2, o2⟩, bd⟩ n ks now).2]) ∧ Below w.heap.size w w' := by
  obtain ⟨W1, hW1⟩ : ∃ W, W = (w.alloc (.cells #[.string mt, .string pt, .slice a1 n1 c1, .slice a2 n2 c2, .string bd] 25)).alloc (.cells #[.int .i64 0, .string ⟨#[]⟩] 35) := ⟨_, rfl⟩
  have X3 : RowAt W1 w.heap.size 25 #[.string mt, .string pt, .slice a1 n1 c1, .slice a2 n2 c2, .string bd] := by rw [hW1]; exact (RowAt.new _ _ _).alloc _
  have X6 : Hid (RowAt W1 (w.heap.size + 1) 35 #[.int .i64 0, .string ⟨#[]⟩]) := by rw [hW1]; exact RowAt.next _ _ _ (by simp only [size_al])
  have B1 : Hid (Below w.heap.size w W1) := by rw [hW1]; exact ((Below.refl _ _).alloc (Nat.le_refl _) _).alloc (by simp) _
  obtain ⟨RR, hRR⟩ : ∃ x, x = ckR ⟨mt, pt, ⟨a1, n1, c1, o1⟩, ⟨a2, n2, c2, o2⟩, bd⟩ n ks now := ⟨_, rfl⟩
  rw [← hRR]
  have HRR := hid hRR
  have HW1 := hid hW1
  have HBB := hid hB
  have HV := hid hv
  have HIN := hid h
  have HK := hid hK
  have KP := hid (iPart mt pt a1 n1 c1 o1 a2 n2 c2 o2 bd hB W1 (hv.below B1.out) (h.below B1.out))
  have x0 := X3.cell 0
  have x1 := X3.cell 1
  have x2 := X3.cell 2
  have x3 := X3.cell 3
  have x4 := X3.cell 4
  clear hW1 hB hv h hK hRR X3
  go_enter Tryz.func11, Tryz.ntmps11
  go_upto_region 1 with fail
  rw [← HW1.out]
  clear HW1
  go_wp2_with fail
  refine KP.out.mono ?_
  rintro e w2 ⟨hP, hb2⟩
  obtain ⟨m, p, b1, k1, d1, b2, k2, d2, d, id, z1, z2, z4, sA, sl, mc, b, rfl, hif, hval⟩ := hP
  have X6b := hid (RowAt.nxS hb2 X6.out)
  have B2 := hid (B1.out.trans (hb2.mono B1.out.size))
  have HIF := hid hif
  have HVAL := hid hval
  clear hb2 X6 B1 x0 x1 x2 x3 x4 KP hif hval
  have R7 : RowAt ((w2.alloc (.cells #[.string ⟨#[]⟩, .string ⟨#[]⟩, .slice none 0 0, .slice none 0 0, .string ⟨#[]⟩] 25)).alloc (.cells #[.string ⟨#[]⟩, .int .i64 0, .int .i64 0, .slice none 0 0] 72)) w2.heap.size 25 #[.string ⟨#[]⟩, .string ⟨#[]⟩, .slice none 0 0, .slice none 0 0, .string ⟨#[]⟩] := (RowAt.new _ _ _).alloc _
  have R8 : RowAt ((w2.alloc (.cells #[.string ⟨#[]⟩, .string ⟨#[]⟩, .slice none 0 0, .slice none 0 0, .string ⟨#[]⟩] 25)).alloc (.cells #[.string ⟨#[]⟩, .int .i64 0, .int .i64 0, .slice none 0 0] 72)) (w2.heap.size + 1) 72 #[.string ⟨#[]⟩, .int .i64 0, .int .i64 0, .slice none 0 0] := RowAt.next _ _ _ (by simp only [size_al])
  have H7 := hid R7
  have H8 := hid R8
  obtain ⟨W3, hW3⟩ : ∃ W, W = (((w2.alloc (.cells #[.string ⟨#[]⟩, .string ⟨#[]⟩, .slice none 0 0, .slice none 0 0, .string ⟨#[]⟩] 25)).alloc (.cells #[.string ⟨#[]⟩, .int .i64 0, .int .i64 0, .slice none 0 0] 72)).setRow w2.heap.size #[.string m, .string p, .slice b1 k1 d1, .slice b2 k2 d2, .string d]).setRow (w2.heap.size + 1) #[.string id, .int .i64 z1, .int .i64 z2, .slice sA sl mc] := ⟨_, rfl⟩
  have s1 : w.heap.size ≤ w2.heap.size := B2.out.size
  have x6l : w.heap.size + 1 < w2.heap.size := X6b.out.lt
  have bl : Below w2.heap.size w2 W3 := by
    rw [hW3]
    exact below_setRow (below_setRow (((Below.refl _ _).alloc (Nat.le_refl _) _).alloc (by simp) _) _ _ (Nat.le_refl _)) _ _ (by omega)
  have Y7 : Hid (RowAt W3 w2.heap.size 25 #[.string m, .string p, .slice b1 k1 d1, .slice b2 k2 d2, .string d]) := by rw [hW3]; exact (R7.setRow _).otherRow _ _ (by omega)
  have Y8 : Hid (RowAt W3 (w2.heap.size + 1) 72 #[.string id, .int .i64 z1, .int .i64 z2, .slice sA sl mc]) := by rw [hW3]; exact (R8.otherRow _ _ (by omega)).setRow _
  have Y6 := hid (RowAt.nxS bl X6b.out)
  have B3 := hid (B2.out.trans (bl.mono B2.out.size))
  have SGM : Hid (∀ L, SgAt w2 sA mc L → SgAt W3 sA mc L) := fun L q => q.below bl
  have HW3 := hid hW3
  clear hW3 R7 R8 bl X6b B2
  go_upto_region 2 with (first | (refine wpList_store_row rfl 25 (.tmp 7) (.tmp 15) rfl w2.heap.size #[.string m, .string p, .slice b1 k1 d1, .slice b2 k2 d2, .string d] rfl rfl _ _ H7.out (by kernel_rfl) rfl (by simp [Value.oneCell']) ?_) | (refine wpList_store_row rfl 72 (.tmp 8) (.tmp 16) rfl (w2.heap.size + 1) #[.string id, .int .i64 z1, .int .i64 z2, .slice sA sl mc] rfl rfl _ _ (H8.out.otherRow _ _ (by omega)) (by kernel_rfl) rfl (by simp [Value.oneCell']) ?_))
  rw [← HW3.out]
  clear HW3 H7 H8
  cases b with
  | false =>
    have NO : Hid (RR = (1, ⟨#[]⟩)) := by rw [HRR.out]; exact ckR_1 (fun q => Bool.noConfusion (HIF.out.2 q.1))
    go_wp2_with (refine wpList_store_row rfl 35 (.tmp 6) (.tmp 26) rfl (w.heap.size + 1) #[.int .i64 1, .string ⟨#[]⟩] rfl rfl _ _ Y6.out (by kernel_rfl) rfl (by simp [Value.oneCell']) ?_)
    refine bodyPost_ret (v := .agg #[.int .i64 1, .string ⟨#[]⟩]) ?_ rfl ⟨by rw [NO.out], below_setRow B3.out _ _ (by omega)⟩
    exact results_cell_row Tryz.results11 _ _ (w.heap.size + 1) _ _ _ _ rfl (Y6.out.setRow _) Tryz.underlying35 rfl (by kernel_rfl)
  | true =>
    by_cases h100 : n ≤ 100
    case neg =>
      have dn : decide ((100 : Int) < (n : Int)) = true := decide_eq_true (by omega)
      have NO : Hid (RR = (1, ⟨#[]⟩)) := by rw [HRR.out]; exact ckR_1 (fun q => h100 q.2)
      clear h100
      go_wp2_with (refine wpList_store_row rfl 35 (.tmp 6) (.tmp 26) rfl (w.heap.size + 1) #[.int .i64 1, .string ⟨#[]⟩] rfl rfl _ _ Y6.out (by kernel_rfl) rfl (by simp [Value.oneCell']) ?_)
      refine bodyPost_ret (v := .agg #[.int .i64 1, .string ⟨#[]⟩]) ?_ rfl ⟨by rw [NO.out], below_setRow B3.out _ _ (by omega)⟩
      exact results_cell_row Tryz.results11 _ _ (w.heap.size + 1) _ _ _ _ rfl (Y6.out.setRow _) Tryz.underlying35 rfl (by kernel_rfl)
    have dn : decide ((100 : Int) < (n : Int)) = false := decide_eq_false (by omega)
    have CKP : Hid (ckP ⟨mt, pt, ⟨a1, n1, c1, o1⟩, ⟨a2, n2, c2, o2⟩, bd⟩) := HIF.out.1 rfl
    have CP : Hid (ckP ⟨mt, pt, ⟨a1, n1, c1, o1⟩, ⟨a2, n2, c2, o2⟩, bd⟩ ∧ n ≤ 100) := ⟨CKP.out, h100⟩
    obtain ⟨⟨g1, g2, g3, g4, g5⟩, ⟨g6, g7, g8, g9⟩, ⟨g10, g11, g12, g13⟩, g14, hsg⟩ := HVAL.out rfl
    (try dsimp only at g1 g2 g3 g4 g5 g6 g7 g8 g9)
    obtain ⟨SL, hSL⟩ : ∃ L, L = ckS ⟨mt, pt, ⟨a1, n1, c1, o1⟩, ⟨a2, n2, c2, o2⟩, bd⟩ := ⟨_, rfl⟩
    rw [← hSL] at g14 hsg
    replace g1 := g1.symm
    subst g1
    replace g2 := g2.symm
    subst g2
    replace g3 := g3.symm
    subst g3
    replace g5 := g5.symm
    subst g5
    replace g6 := g6.symm
    subst g6
    replace g7 := g7.symm
    subst g7
    replace g8 := g8.symm
    subst g8
    replace g9 := g9.symm
    subst g9
    subst g14
    have SG3 := hid (SGM.out _ hsg)
    have HSL := hid hSL
    have HG := hid (And.intro g4 (And.intro g10 (And.intro g11 (And.intro g12 g13))))
    clear g4 g10 g11 g12 g13 hsg hSL h100 HVAL SGM HIF
    have KI := hid (iIdxA kA n kc ks hn id (w2.heap.size + 1) (.int .i64 z1) (.int .i64 z2) (.slice sA SL.length mc) W3 (HK.out.below B3.out) Y8.out)
    generalize w2.heap.size = X7 at *
    go_upto_region 4 with fail
    clear dn
    go_wp2_with fail
    refine KI.out.mono ?_
    rintro e w4 ⟨hk, hb4⟩
    have Z6 := hid (RowAt.nxS hb4 Y6.out)
    have Z7 := hid (RowAt.nxS hb4 Y7.out)
    have Z8 := hid (RowAt.nxS hb4 Y8.out)
    have SG4 := hid (SG3.out.below hb4)
    have B4 := hid (B3.out.trans (hb4.mono B3.out.size))
    clear hb4 Y6 Y7 Y8 SG3 B3 KI
    rcases hk with ⟨q, rfl, hf⟩ | ⟨rfl, hf⟩
    case inr =>
      have NO : Hid (RR = (5, ⟨#[]⟩)) := by rw [HRR.out]; exact ckR_5 CP.out (by rw [← HG.out.2.1]; exact hf)
      clear hf
      go_wp2_with (refine wpList_store_row rfl 35 (.tmp 6) (.tmp 33) rfl (w.heap.size + 1) #[.int .i64 5, .string ⟨#[]⟩] rfl rfl _ _ Z6.out (by kernel_rfl) rfl (by simp [Value.oneCell']) ?_)
      refine bodyPost_ret (v := .agg #[.int .i64 5, .string ⟨#[]⟩]) ?_ rfl ⟨by rw [NO.out], below_setRow B4.out _ _ (by omega)⟩
      exact results_cell_row Tryz.results11 _ _ (w.heap.size + 1) _ _ _ _ rfl (Z6.out.setRow _) Tryz.underlying35 rfl (by kernel_rfl)
    have FS : Hid (fstK ks (ckV ⟨mt, pt, ⟨a1, n1, c1, o1⟩, ⟨a2, n2, c2, o2⟩, bd⟩ 0) n = some q) := by rw [← HG.out.2.1]; exact hf
    have hqn : q < n := (fstK_some hf).1
    have q0 : (0 : Int) ≤ (q : Int) := by omega
    have q1 : (q : Int) < (n : Int) := by omega
    have q2 : decide ((q : Int) < 0) = false := decide_eq_false (by omega)
    rcases HK.out.2 with qq | ⟨kb, ko, rfl, _, _⟩
    · omega
    obtain ⟨sec, hsec⟩ : ∃ s, s = (ks q).sec := ⟨_, rfl⟩
    have KC : Hid (∀ wx, Below w.heap.size w wx → wx.cell? ⟨kb, ko + q * 2 + 1, none⟩ = some (.string sec)) := fun wx hx => by
      rcases (HK.out.below hx).2 with qq | ⟨b9, o9, he9, _, hc9⟩
      · omega
      cases he9
      rw [hsec]; exact (hc9 q hqn).2
    have HSEC := hid hsec
    have KS := hid (iSecret sec)
    have SCE : Hid (pb (scP sec) = true ↔ scQ (ks q).sec) := by rw [hsec]; exact pb_iff
    obtain ⟨SB, hSB⟩ : ∃ s, s = pb (scP sec) := ⟨_, rfl⟩
    rw [← hSB] at KS SCE
    have yk := KC.out w4 B4.out
    clear hf hqn hsec hSB
    go_upto_region 7 with fail
    clear q2
    go_wp2_with fail
    refine (KS.out _).mono ?_
    rintro e w5 ⟨rfl, hw5⟩
    obtain rfl := hw5
    clear yk KS
    cases SB with
    | false =>
      have NO : Hid (RR = (12, ⟨#[]⟩)) := by rw [HRR.out]; exact ckR_12 CP.out FS.out (fun u => Bool.noConfusion (SCE.out.2 u.1))
      go_wp2_with (refine wpList_store_row rfl 35 (.tmp 6) (.tmp 53) rfl (w.heap.size + 1) #[.int .i64 12, .string ⟨#[]⟩] rfl rfl _ _ Z6.out (by kernel_rfl) rfl (by simp [Value.oneCell']) ?_)
      refine bodyPost_ret (v := .agg #[.int .i64 12, .string ⟨#[]⟩]) ?_ rfl ⟨by rw [NO.out], below_setRow B4.out _ _ (by omega)⟩
      exact results_cell_row Tryz.results11 _ _ (w.heap.size + 1) _ _ _ _ rfl (Z6.out.setRow _) Tryz.underlying35 rfl (by kernel_rfl)
    | true =>
      have SCQ : Hid (scQ (ks q).sec) := SCE.out.1 rfl
      obtain ⟨SV, hSV⟩ : ∃ v, v = sgS (ckB ⟨mt, pt, ⟨a1, n1, c1, o1⟩, ⟨a2, n2, c2, o2⟩, bd⟩) sec (tAt SL) SL.length := ⟨_, rfl⟩
      have V3s : Hid ((ckV ⟨mt, pt, ⟨a1, n1, c1, o1⟩, ⟨a2, n2, c2, o2⟩, bd⟩ 3).size ≤ 1000) := by
        have h5 := CKP.out.2.1
        dsimp only at h5
        exact (CKP.out.1.2.2.2.2.2.1 (n1 - 5 + 3) (by dsimp only; omega)).2.2
      have KSM : Hid (∀ wx, Below w5.heap.size w5 wx → SgAt wx sA mc SL → Calls Tryz.prog 44 #[.agg #[.string mt, .string pt, .slice a1 k1 c1, .slice a2 n2 c2, .string bd], .string sec, .slice sA SL.length mc] wx fun e w' => e = .returned (.int .i64 SV) ∧ Below wx.heap.size wx w') := fun wx hx hs => by
        have bx := B4.out.trans (hx.mono B4.out.size)
        rw [hSV, ← sgV_S (rqP_bare CKP.out.1), HG.out.1]
        exact iSgSum mt pt a1 (n1 - 1) c1 o1 a2 n2 c2 o2 bd (rqB_bare HBB.out) sec (by have := SCQ.out.2; rw [← HSEC.out] at this; exact this) sA SL.length mc (tAt SL) (by rw [HSL.out]; exact CKP.out.2.2.2.2.2.2.1.2) (fun i _ => by have := tAt_size (ckV ⟨mt, pt, ⟨a1, n1, c1, o1⟩, ⟨a2, n2, c2, o2⟩, bd⟩ 3) i; have := V3s.out; rw [HSL.out]; show (tAt (sgT _) i).size ≤ 1000; omega) wx (HV.out.below bx).tb (rqIn_bare (HIN.out.below bx)) hs.strs
      have SMQ : Hid (SV = z4 ↔ smQ ⟨mt, pt, ⟨a1, n1, c1, o1⟩, ⟨a2, n2, c2, o2⟩, bd⟩ (ks q).sec) := by
        rw [hSV, HG.out.2.2.2.2, HSL.out, HSEC.out]
        exact ⟨fun e => ⟨SCQ.out, e⟩, fun e => e.2⟩
      have KC5 : Hid (∀ wx, Below w5.heap.size w5 wx → wx.cell? ⟨kb, ko + q * 2 + 1, none⟩ = some (.string sec)) := fun wx hx => KC.out wx (B4.out.trans (hx.mono B4.out.size))
      obtain ⟨DB, hDB⟩ : ∃ x, (SV != z4) = x := ⟨_, rfl⟩
      have HDB := hid hDB
      clear hSV
      go_upto_region 8 with fail
      refine cs8_wp w5 X7 (X7 + 1) kb ko n kc q mt pt bd id sec a1 k1 c1 a2 n2 c2 z1 z2 z4 SV sA mc SL DB w5 (Below.refl _ _) Z7.out Z8.out SG4.out KC5.out q0 q1 KSM.out hDB ?_
      intro dm w6 hb6 _ hx8 _ _ _ _ _ _
      have U6 := hid (RowAt.nxS hb6 Z6.out)
      have U8 := hid hx8
      have B6 := hid (B4.out.trans (hb6.mono B4.out.size))
      clear hb6 hx8 hDB Z6 Z7 Z8 SG4 B4 KSM KC5 q0 q1
      cases DB with
      | true =>
        have NO : Hid (RR = (12, ⟨#[]⟩)) := by rw [HRR.out]; exact ckR_12 CP.out FS.out (fun u => by have e1 := SMQ.out.2 u; have := HDB.out; rw [e1] at this; simp at this)
        go_wp2_with (refine wpList_store_row rfl 35 (.tmp 6) (.tmp 53) rfl (w.heap.size + 1) #[.int .i64 12, .string ⟨#[]⟩] rfl rfl _ _ U6.out (by kernel_rfl) rfl (by simp [Value.oneCell']) ?_)
        refine bodyPost_ret (v := .agg #[.int .i64 12, .string ⟨#[]⟩]) ?_ rfl ⟨by rw [NO.out], below_setRow B6.out _ _ (by omega)⟩
        exact results_cell_row Tryz.results11 _ _ (w.heap.size + 1) _ _ _ _ rfl (U6.out.setRow _) Tryz.underlying35 rfl (by kernel_rfl)
      | false =>
        have SQ : Hid (smQ ⟨mt, pt, ⟨a1, n1, c1, o1⟩, ⟨a2, n2, c2, o2⟩, bd⟩ (ks q).sec) := SMQ.out.1 (by have := HDB.out; simpa using this)
        obtain ⟨n5, n6, n7⟩ : (∃ F0 : Nat, z1 = (F0 : Int) ∧ F0 ≤ 4102444800) ∧ (∃ F1 : Nat, z2 = (F1 : Int) ∧ F1 ≤ 4102444800) ∧ id.size ≤ 1000 := by
          obtain ⟨_, e0, e1, e2, e3⟩ := HG.out
          obtain ⟨_, h5, _, _, ⟨m1, l1, f1⟩, ⟨m2, l2, f2⟩, _, _⟩ := CKP.out
          refine ⟨⟨m1, by rw [e1, f1, numL_dec], l1⟩, ⟨m2, by rw [e2, f2, numL_dec], l2⟩, ?_⟩
          rw [e0]
          dsimp only at h5
          exact (CKP.out.1.2.2.2.2.2.1 (n1 - 5 + 0) (by dsimp only; omega)).2.2
        obtain ⟨F0, rfl, f0b⟩ := n5
        obtain ⟨F1, rfl, f1b⟩ := n6
        have LQ9 : Hid (lateQ ⟨mt, pt, ⟨a1, n1, c1, o1⟩, ⟨a2, n2, c2, o2⟩, bd⟩ now ↔ ((F0 : Int) ≤ now ∧ now ≤ (F0 : Int) + (F1 : Int))) := by unfold lateQ; rw [← HG.out.2.2.1, ← HG.out.2.2.2.1]; exact Iff.rfl
        obtain ⟨FF, hFF⟩ : ∃ f : Nat, f = F0 + F1 := ⟨_, rfl⟩
        have wFF : IntKind.i64.wrap ((F0 : Int) + (F1 : Int)) = (FF : Int) := by rw [IntKind.wrap_i64]; omega
        have wFG : (F0 : Int) + (F1 : Int) = (FF : Int) := by omega
        have wFH : IntKind.i64.wrap (FF : Int) = (FF : Int) := by rw [IntKind.wrap_i64]; omega
        rw [wFG] at LQ9
        replace hFF := hid hFF
        have y0 := U8.out.cell 0
        have y1 := U8.out.cell 1
        have y2 := U8.out.cell 2
        have KCL := fun wx => hid (clone_any id wx (by omega))
        by_cases n9 : now < (F0 : Int)
        case pos =>
          have NO : Hid (RR = (13, ⟨#[]⟩)) := by rw [HRR.out]; exact ckR_13 CP.out FS.out SQ.out (fun u => by have := LQ9.out.1 u; omega)
          have n9b : decide (now < (F0 : Int)) = true := decide_eq_true n9
          go_wp2_with (refine wpList_store_row rfl 35 (.tmp 6) (.tmp 66) rfl (w.heap.size + 1) #[.int .i64 13, .string ⟨#[]⟩] rfl rfl _ _ U6.out (by kernel_rfl) rfl (by simp [Value.oneCell']) ?_)
          refine bodyPost_ret (v := .agg #[.int .i64 13, .string ⟨#[]⟩]) ?_ rfl ⟨by rw [NO.out], below_setRow B6.out _ _ (by omega)⟩
          exact results_cell_row Tryz.results11 _ _ (w.heap.size + 1) _ _ _ _ rfl (U6.out.setRow _) Tryz.underlying35 rfl (by kernel_rfl)
        have n9b : decide (now < (F0 : Int)) = false := decide_eq_false n9
        by_cases n8 : (FF : Int) < now
        case pos =>
          have NO : Hid (RR = (13, ⟨#[]⟩)) := by rw [HRR.out]; exact ckR_13 CP.out FS.out SQ.out (fun u => by have := LQ9.out.1 u; omega)
          have n8b : decide ((FF : Int) < now) = true := decide_eq_true n8
          go_wp2_with (refine wpList_store_row rfl 35 (.tmp 6) (.tmp 66) rfl (w.heap.size + 1) #[.int .i64 13, .string ⟨#[]⟩] rfl rfl _ _ U6.out (by kernel_rfl) rfl (by simp [Value.oneCell']) ?_)
          refine bodyPost_ret (v := .agg #[.int .i64 13, .string ⟨#[]⟩]) ?_ rfl ⟨by rw [NO.out], below_setRow B6.out _ _ (by omega)⟩
          exact results_cell_row Tryz.results11 _ _ (w.heap.size + 1) _ _ _ _ rfl (U6.out.setRow _) Tryz.underlying35 rfl (by kernel_rfl)
        have n8b : decide ((FF : Int) < now) = false := decide_eq_false n8
        have NO : Hid (RR = (0, id)) := by rw [HRR.out, HG.out.2.1]; exact ckR_0 CP.out FS.out SQ.out (LQ9.out.2 ⟨by omega, by omega⟩)
        clear n8 n9
        go_wp2_with fail
        refine (KCL _).out.mono ?_
        rintro e w7 ⟨rfl, hb7⟩
        have T6 := hid (RowAt.nxS hb7 U6.out)
        have B7 := hid (B6.out.trans (hb7.mono B6.out.size))
        clear hb7 U6 B6 U8 KCL y0 y1 y2
        go_wp2_with (refine wpList_store_row rfl 35 (.tmp 6) (.tmp 70) rfl (w.heap.size + 1) #[.int .i64 0, .string id] rfl rfl _ _ T6.out (by kernel_rfl) rfl (by simp [Value.oneCell']) ?_)
        refine bodyPost_ret (v := .agg #[.int .i64 0, .string id]) ?_ rfl ⟨by rw [NO.out], below_setRow B7.out _ _ (by omega)⟩
        exact results_cell_row Tryz.results11 _ _ (w.heap.size + 1) _ _ _ _ rfl (T6.out.setRow _) Tryz.underlying35 rfl (by kernel_rfl)
end Go.Proofs.YtepdodifgkejjaaGreatDoor
