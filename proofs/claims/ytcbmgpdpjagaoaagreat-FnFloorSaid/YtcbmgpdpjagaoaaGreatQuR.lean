import Derived.Test.YtcbmgpdpjagaoaaGreatG4
namespace Go.Proofs.YtcbmgpdpjagaoaaGreat
open Go.RowKit
set_option linter.unusedVariables false
def cc1o0 : Oper := ⟨some 5, .move (.tmp 0), 112, "l08_runs.go:213", #[], none⟩
def cc1o1 : Oper := ⟨some 6, .nilCheck (.tmp 5), 0, "l08_runs.go:213", #[⟨0, .data⟩], none⟩
def cc1o2 : Oper := ⟨some 7, .fieldAddr 114 (.tmp 6) 1, 0, "l08_runs.go:213", #[⟨1, .data⟩], none⟩
def cc1o3 : Oper := ⟨some 8, .load 23 (.tmp 7), 23, "l08_runs.go:213", #[⟨2, .data⟩], none⟩
def cc1o4 : Oper := ⟨some 9, .indexAddr 23 (.tmp 8) (.const (.int .i64 0)), 0, "l08_runs.go:213", #[⟨3, .data⟩], none⟩
def cc1o5 : Oper := ⟨some 10, .load 46 (.tmp 9), 46, "l08_runs.go:213", #[⟨4, .data⟩], none⟩
def cc1o6 : Oper := ⟨some 11, .move (.tmp 1), 112, "l08_runs.go:213", #[], none⟩
def cc1o7 : Oper := ⟨some 12, .nilCheck (.tmp 11), 0, "l08_runs.go:213", #[⟨6, .data⟩], none⟩
def cc1o8 : Oper := ⟨some 13, .fieldAddr 114 (.tmp 12) 1, 0, "l08_runs.go:213", #[⟨7, .data⟩], none⟩
def cc1o9 : Oper := ⟨some 14, .load 23 (.tmp 13), 23, "l08_runs.go:213", #[⟨8, .data⟩], none⟩
def cc1o10 : Oper := ⟨some 15, .indexAddr 23 (.tmp 14) (.const (.int .i64 0)), 0, "l08_runs.go:213", #[⟨9, .data⟩], none⟩
def cc1o11 : Oper := ⟨some 16, .load 46 (.tmp 15), 46, "l08_runs.go:213", #[⟨10, .data⟩], none⟩
def cc1o12 : Oper := ⟨some 17, .call { callee := .value (.func 63), args := #[.tmp 10, .tmp 16], argTypes := #[46, 46] }, 3, "l08_runs.go:213", #[⟨5, .data⟩, ⟨11, .data⟩], none⟩
def cc1o13 : Oper := ⟨some 18, .move (.tmp 0), 112, "l08_runs.go:213", #[], none⟩
def cc1o14 : Oper := ⟨some 19, .nilCheck (.tmp 18), 0, "l08_runs.go:213", #[⟨13, .data⟩], none⟩
def cc1o15 : Oper := ⟨some 20, .fieldAddr 114 (.tmp 19) 0, 0, "l08_runs.go:213", #[⟨14, .data⟩], none⟩
def cc1o16 : Oper := ⟨some 21, .load 3 (.tmp 20), 3, "l08_runs.go:213", #[⟨15, .data⟩], none⟩
def cc1o17 : Oper := ⟨some 22, .move (.tmp 1), 112, "l08_runs.go:213", #[], none⟩
def cc1o18 : Oper := ⟨some 23, .nilCheck (.tmp 22), 0, "l08_runs.go:213", #[⟨17, .data⟩], none⟩
def cc1o19 : Oper := ⟨some 24, .fieldAddr 114 (.tmp 23) 0, 0, "l08_runs.go:213", #[⟨18, .data⟩], none⟩
def cc1o20 : Oper := ⟨some 25, .load 3 (.tmp 24), 3, "l08_runs.go:213", #[⟨19, .data⟩], none⟩
def cc1o21 : Oper := ⟨some 26, .call { callee := .value (.func 92), args := #[.tmp 21, .tmp 25], argTypes := #[3, 3] }, 3, "l08_runs.go:213", #[⟨16, .data⟩, ⟨20, .data⟩, ⟨12, .chain⟩], none⟩
def cc1o22 : Oper := ⟨some 27, .buildSlice 156 2 #[(0, .tmp 17), (1, .tmp 26)], 156, "l08_runs.go:213", #[⟨12, .data⟩, ⟨21, .data⟩], none⟩
def cc1o23 : Oper := ⟨some 28, .call { callee := .value (.func 91), args := #[.tmp 27], argTypes := #[156] }, 3, "l08_runs.go:213", #[⟨22, .data⟩, ⟨21, .chain⟩], none⟩
def cc1o24 : Oper := ⟨some 4, .assign (.tmp 28), 3, "l08_runs.go:213", #[⟨23, .data⟩, ⟨23, .chain⟩, ⟨0, .phase⟩, ⟨1, .phase⟩, ⟨2, .phase⟩, ⟨3, .phase⟩, ⟨4, .phase⟩, ⟨5, .phase⟩, ⟨6, .phase⟩, ⟨7, .phase⟩, ⟨8, .phase⟩, ⟨9, .phase⟩, ⟨10, .phase⟩, ⟨11, .phase⟩, ⟨12, .phase⟩, ⟨13, .phase⟩, ⟨14, .phase⟩, ⟨15, .phase⟩, ⟨16, .phase⟩, ⟨17, .phase⟩, ⟨18, .phase⟩, ⟨19, .phase⟩, ⟨20, .phase⟩, ⟨21, .phase⟩, ⟨22, .phase⟩, ⟨23, .phase⟩], none⟩
def cc1O : Array Oper := #[cc1o0, cc1o1, cc1o2, cc1o3, cc1o4, cc1o5, cc1o6, cc1o7, cc1o8, cc1o9, cc1o10, cc1o11, cc1o12, cc1o13, cc1o14, cc1o15, cc1o16, cc1o17, cc1o18, cc1o19, cc1o20, cc1o21, cc1o22, cc1o23, cc1o24]
structure cc1P where
 (W1 : World)
 (BA BB NA NB GA OA LA CA GB OB LB CB : Nat)
 (kA kB tA tB : ByteArray)
 (qA qB : Int)
 (gA gB : Bool)
 (s2 s3 s4 s5 s6 s7 s8 s9 s10 s11 s12 s13 s14 s15 s16 s17 s18 s19 s20 s21 s22 s23 s24 s25 s26 s27 s28 : Value)
def cc1T (P : cc1P) (X22 : Nat) (b0 b1 b2 b3 b4 b5 b6 b7 b8 b9 b10 b11 b12 b13 b14 b15 b16 b17 b18 b19 b20 b21 b22 b23 b24 : Bool) : Array Value := #[.pointer (some ⟨P.BA, 0, none⟩), .pointer (some ⟨P.BB, 0, none⟩), P.s2, P.s3, sel b24 (.int .i64 (orI (enCmp ⟨P.kA, P.qA, P.gA, P.tA⟩ ⟨P.kB, P.qB, P.gB, P.tB⟩) (cmpI (P.NA : Int) (P.NB : Int)))) (P.s4), sel b0 (.pointer (some ⟨P.BA, 0, none⟩)) (P.s5), sel b1 (.pointer (some ⟨P.BA, 0, none⟩)) (P.s6), sel b2 (.pointer (some ⟨P.BA, 1, none⟩)) (P.s7), sel b3 (.slice (some ⟨P.GA, P.OA, none⟩) P.LA P.CA) (P.s8), sel b4 (.pointer (some ⟨P.GA, P.OA, none⟩)) (P.s9), sel b5 (.agg #[.string P.kA, .int .i64 P.qA, .bool P.gA, .string P.tA]) (P.s10), sel b6 (.pointer (some ⟨P.BB, 0, none⟩)) (P.s11), sel b7 (.pointer (some ⟨P.BB, 0, none⟩)) (P.s12), sel b8 (.pointer (some ⟨P.BB, 1, none⟩)) (P.s13), sel b9 (.slice (some ⟨P.GB, P.OB, none⟩) P.LB P.CB) (P.s14), sel b10 (.pointer (some ⟨P.GB, P.OB, none⟩)) (P.s15), sel b11 (.agg #[.string P.kB, .int .i64 P.qB, .bool P.gB, .string P.tB]) (P.s16), sel b12 (.int .i64 (enCmp ⟨P.kA, P.qA, P.gA, P.tA⟩ ⟨P.kB, P.qB, P.gB, P.tB⟩)) (P.s17), sel b13 (.pointer (some ⟨P.BA, 0, none⟩)) (P.s18), sel b14 (.pointer (some ⟨P.BA, 0, none⟩)) (P.s19), sel b15 (.pointer (some ⟨P.BA, 0, none⟩)) (P.s20), sel b16 (.int .i64 (P.NA : Int)) (P.s21), sel b17 (.pointer (some ⟨P.BB, 0, none⟩)) (P.s22), sel b18 (.pointer (some ⟨P.BB, 0, none⟩)) (P.s23), sel b19 (.pointer (some ⟨P.BB, 0, none⟩)) (P.s24), sel b20 (.int .i64 (P.NB : Int)) (P.s25), sel b21 (.int .i64 (cmpI (P.NA : Int) (P.NB : Int))) (P.s26), sel b22 (.slice (some ⟨X22, 0, none⟩) 2 2) (P.s27), sel b23 (.int .i64 (orI (enCmp ⟨P.kA, P.qA, P.gA, P.tA⟩ ⟨P.kB, P.qB, P.gB, P.tB⟩) (cmpI (P.NA : Int) (P.NB : Int)))) (P.s28)]
def cc1F (P : cc1P) (X22 : Nat) (b0 b1 b2 b3 b4 b5 b6 b7 b8 b9 b10 b11 b12 b13 b14 b15 b16 b17 b18 b19 b20 b21 b22 b23 b24 : Bool) (w : World) : Prop := (Below P.W1.heap.size P.W1 w) ∧ (b22 = true → RA w X22 3 #[.int .i64 (enCmp ⟨P.kA, P.qA, P.gA, P.tA⟩ ⟨P.kB, P.qB, P.gB, P.tB⟩), .int .i64 (cmpI (P.NA : Int) (P.NB : Int))]) ∧ (RA P.W1 P.BA 114 #[.int .i64 (P.NA : Int), .slice (some ⟨P.GA, P.OA, none⟩) P.LA P.CA]) ∧ (P.W1.cell? ⟨P.GA, P.OA, none⟩ = some (.string P.kA) ∧ P.W1.cell? ⟨P.GA, P.OA + 1, none⟩ = some (.int .i64 P.qA) ∧ P.W1.cell? ⟨P.GA, P.OA + 2, none⟩ = some (.bool P.gA) ∧ P.W1.cell? ⟨P.GA, P.OA + 3, none⟩ = some (.string P.tA) ∧ P.GA < P.W1.heap.size ∧ 0 < P.LA) ∧ (RA P.W1 P.BB 114 #[.int .i64 (P.NB : Int), .slice (some ⟨P.GB, P.OB, none⟩) P.LB P.CB]) ∧ (P.W1.cell? ⟨P.GB, P.OB, none⟩ = some (.string P.kB) ∧ P.W1.cell? ⟨P.GB, P.OB + 1, none⟩ = some (.int .i64 P.qB) ∧ P.W1.cell? ⟨P.GB, P.OB + 2, none⟩ = some (.bool P.gB) ∧ P.W1.cell? ⟨P.GB, P.OB + 3, none⟩ = some (.string P.tB) ∧ P.GB < P.W1.heap.size ∧ 0 < P.LB)
def cc1I (P : cc1P) (l : Array Bool) (f : Act) (w : World) : Prop :=
 ∃ (b0 b1 b2 b3 b4 b5 b6 b7 b8 b9 b10 b11 b12 b13 b14 b15 b16 b17 b18 b19 b20 b21 b22 b23 b24 : Bool) (X22 : Nat), l = #[b0, b1, b2, b3, b4, b5, b6, b7, b8, b9, b10, b11, b12, b13, b14, b15, b16, b17, b18, b19, b20, b21, b22, b23, b24] ∧ f = { tmps := cc1T P X22 b0 b1 b2 b3 b4 b5 b6 b7 b8 b9 b10 b11 b12 b13 b14 b15 b16 b17 b18 b19 b20 b21 b22 b23 b24, defers := [] } ∧ cc1F P X22 b0 b1 b2 b3 b4 b5 b6 b7 b8 b9 b10 b11 b12 b13 b14 b15 b16 b17 b18 b19 b20 b21 b22 b23 b24 w
theorem cc1M {P : cc1P} {b0 b1 b2 b3 b4 b5 b6 b7 b8 b9 b10 b11 b12 b13 b14 b15 b16 b17 b18 b19 b20 b21 b22 b23 b24 : Bool} (X22 : Nat) {l : Array Bool} {f : Act} {w : World} (hl : l = #[b0, b1, b2, b3, b4, b5, b6, b7, b8, b9, b10, b11, b12, b13, b14, b15, b16, b17, b18, b19, b20, b21, b22, b23, b24]) (hf : f = { tmps := cc1T P X22 b0 b1 b2 b3 b4 b5 b6 b7 b8 b9 b10 b11 b12 b13 b14 b15 b16 b17 b18 b19 b20 b21 b22 b23 b24, defers := [] }) (h : cc1F P X22 b0 b1 b2 b3 b4 b5 b6 b7 b8 b9 b10 b11 b12 b13 b14 b15 b16 b17 b18 b19 b20 b21 b22 b23 b24 w) : cc1I P l f w := ⟨b0, b1, b2, b3, b4, b5, b6, b7, b8, b9, b10, b11, b12, b13, b14, b15, b16, b17, b18, b19, b20, b21, b22, b23, b24, X22, hl, hf, h⟩
set_option maxRecDepth 20000 in
set_option maxHeartbeats 20000000 in
theorem cc1_step {Q : Exit → Act → World → Prop} (P : cc1P) (l : Array Bool) (f : Act) (w : World) (hC : Closed cc1O l) (hI : cc1I P l f w) (i : Nat) (h0 : l.getD i true = false) (o : Oper) (ho : cc1O[i]? = some o) (h1 : ∀ e ∈ o.after, Region.binds .any e = true → l.getD e.on false = true) : wpOp Tryz.prog cc1O Q i (cc1I P (l.setIfInBounds i true)) f w := by
 obtain ⟨b0, b1, b2, b3, b4, b5, b6, b7, b8, b9, b10, b11, b12, b13, b14, b15, b16, b17, b18, b19, b20, b21, b22, b23, b24, X22, rfl, rfl, hF⟩ := hI
 have hi : i < 25 := by
  rcases Nat.lt_or_ge i 25 with h | h
  · exact h
  · rw [show cc1O[i]? = none from Array.getElem?_eq_none h] at ho; cases ho
 rcases (by omega : i = 0 ∨ i = 1 ∨ i = 2 ∨ i = 3 ∨ i = 4 ∨ i = 5 ∨ i = 6 ∨ i = 7 ∨ i = 8 ∨ i = 9 ∨ i = 10 ∨ i = 11 ∨ i = 12 ∨ i = 13 ∨ i = 14 ∨ i = 15 ∨ i = 16 ∨ i = 17 ∨ i = 18 ∨ i = 19 ∨ i = 20 ∨ i = 21 ∨ i = 22 ∨ i = 23 ∨ i = 24) with rfl | rfl | rfl | rfl | rfl | rfl | rfl | rfl | rfl | rfl | rfl | rfl | rfl | rfl | rfl | rfl | rfl | rfl | rfl | rfl | rfl | rfl | rfl | rfl | rfl
 · obtain rfl : cc1o0 = o := Option.some.inj ho
   obtain rfl : b0 = false := h0
   have hn := wN9 hC (i := 0) rfl [(1, 0), (2, 1), (3, 2), (4, 3), (5, 4), (12, 5), (21, 12), (22, 12), (23, 21), (24, 0)] [] nk rfl; repeat (obtain ⟨rfl, hn⟩ := hn)
   obtain ⟨hb, hT, hrA, heA, hrB, heB⟩ := hF; refine wpOp_step (o := cc1o0) rfl (fun K hK => ?_); replace hK := hid hK; simp only [cc1o0, cc1T, sel_f]
   go_simp
   exact hK.out _ _ (cc1M X22 rfl rfl ⟨hb, hT, hrA, heA, hrB, heB⟩)
 · obtain rfl : cc1o1 = o := Option.some.inj ho
   obtain rfl : b1 = false := h0
   have hn := wP9 (o := cc1o1) hC h1 [(0, none)] [] nk rfl; repeat (obtain ⟨rfl, hn⟩ := hn)
   have hn := wN9 hC (i := 1) rfl [(2, 1), (3, 2), (4, 3), (5, 4), (12, 5), (21, 12), (22, 12), (23, 21), (24, 1)] [] nk rfl; repeat (obtain ⟨rfl, hn⟩ := hn)
   obtain ⟨hb, hT, hrA, heA, hrB, heB⟩ := hF; refine wpOp_step (o := cc1o1) rfl (fun K hK => ?_); replace hK := hid hK; simp only [cc1o1, cc1T, sel_t, sel_f]
   go_simp
   exact hK.out _ _ (cc1M X22 rfl rfl ⟨hb, hT, hrA, heA, hrB, heB⟩)
 · obtain rfl : cc1o2 = o := Option.some.inj ho
   obtain rfl : b2 = false := h0
   have hn := wP9 (o := cc1o2) hC h1 [(1, none), (0, some 1)] [] nk rfl; repeat (obtain ⟨rfl, hn⟩ := hn)
   have hn := wN9 hC (i := 2) rfl [(3, 2), (4, 3), (5, 4), (12, 5), (21, 12), (22, 12), (23, 21), (24, 2)] [] nk rfl; repeat (obtain ⟨rfl, hn⟩ := hn)
   obtain ⟨hb, hT, hrA, heA, hrB, heB⟩ := hF; refine wpOp_step (o := cc1o2) rfl (fun K hK => ?_); replace hK := hid hK; simp only [cc1o2, cc1T, sel_t, sel_f]
   go_simp
   exact hK.out _ _ (cc1M X22 rfl rfl ⟨hb, hT, hrA, heA, hrB, heB⟩)
 · obtain rfl : cc1o3 = o := Option.some.inj ho
   obtain rfl : b3 = false := h0
   have hn := wP9 (o := cc1o3) hC h1 [(2, none), (1, some 2), (0, some 1)] [] nk rfl; repeat (obtain ⟨rfl, hn⟩ := hn)
   have hn := wN9 hC (i := 3) rfl [(4, 3), (5, 4), (12, 5), (21, 12), (22, 12), (23, 21), (24, 3)] [] nk rfl; repeat (obtain ⟨rfl, hn⟩ := hn)
   obtain ⟨hb, hT, hrA, heA, hrB, heB⟩ := hF; have c2 := (hrA.below hb hrA.lt).cell 1; refine wpOp_step (o := cc1o3) rfl (fun K hK => ?_); replace hK := hid hK; simp only [cc1o3, cc1T, sel_t, sel_f]
   go_simp
   exact hK.out _ _ (cc1M X22 rfl rfl ⟨hb, hT, hrA, heA, hrB, heB⟩)
 · obtain rfl : cc1o4 = o := Option.some.inj ho
   obtain rfl : b4 = false := h0
   have hn := wP9 (o := cc1o4) hC h1 [(3, none), (2, some 3), (1, some 2), (0, some 1)] [] nk rfl; repeat (obtain ⟨rfl, hn⟩ := hn)
   have hn := wN9 hC (i := 4) rfl [(5, 4), (12, 5), (21, 12), (22, 12), (23, 21), (24, 4)] [] nk rfl; repeat (obtain ⟨rfl, hn⟩ := hn)
   obtain ⟨hb, hT, hrA, heA, hrB, heB⟩ := hF; have r0 : (0 : Int) < (P.LA : Int) := by have := heA.2.2.2.2.2; omega
   refine wpOp_step (o := cc1o4) rfl (fun K hK => ?_); replace hK := hid hK; simp only [cc1o4, cc1T, sel_t, sel_f]
   go_simp
   exact hK.out _ _ (cc1M X22 rfl rfl ⟨hb, hT, hrA, heA, hrB, heB⟩)
 · obtain rfl : cc1o5 = o := Option.some.inj ho
   obtain rfl : b5 = false := h0
   have hn := wP9 (o := cc1o5) hC h1 [(4, none), (3, some 4), (2, some 3), (1, some 2), (0, some 1)] [] nk rfl; repeat (obtain ⟨rfl, hn⟩ := hn)
   have hn := wN9 hC (i := 5) rfl [(12, 5), (21, 12), (22, 12), (23, 21), (24, 5)] [] nk rfl; repeat (obtain ⟨rfl, hn⟩ := hn)
   obtain ⟨hb, hT, hrA, heA, hrB, heB⟩ := hF; obtain ⟨e0, e1, e2, e3, e4, e5⟩ := heA; have heA : P.W1.cell? ⟨P.GA, P.OA, none⟩ = some (.string P.kA) ∧ P.W1.cell? ⟨P.GA, P.OA + 1, none⟩ = some (.int .i64 P.qA) ∧ P.W1.cell? ⟨P.GA, P.OA + 2, none⟩ = some (.bool P.gA) ∧ P.W1.cell? ⟨P.GA, P.OA + 3, none⟩ = some (.string P.tA) ∧ P.GA < P.W1.heap.size ∧ 0 < P.LA := ⟨e0, e1, e2, e3, e4, e5⟩; have c0 := (hb.cell (p := ⟨P.GA, P.OA, none⟩) e4).trans e0; have c1 := (hb.cell (p := ⟨P.GA, P.OA + 1, none⟩) e4).trans e1; have c2 := (hb.cell (p := ⟨P.GA, P.OA + 2, none⟩) e4).trans e2; have c3 := (hb.cell (p := ⟨P.GA, P.OA + 3, none⟩) e4).trans e3; refine wpOp_step (o := cc1o5) rfl (fun K hK => ?_); replace hK := hid hK; simp only [cc1o5, cc1T, sel_t, sel_f]
   go_simp
   exact hK.out _ _ (cc1M X22 rfl rfl ⟨hb, hT, hrA, heA, hrB, heB⟩)
 · obtain rfl : cc1o6 = o := Option.some.inj ho
   obtain rfl : b6 = false := h0
   have hn := wN9 hC (i := 6) rfl [(7, 6), (8, 7), (9, 8), (10, 9), (11, 10), (12, 11), (21, 12), (22, 12), (23, 21), (24, 6)] [] nk rfl; repeat (obtain ⟨rfl, hn⟩ := hn)
   obtain ⟨hb, hT, hrA, heA, hrB, heB⟩ := hF; refine wpOp_step (o := cc1o6) rfl (fun K hK => ?_); replace hK := hid hK; simp only [cc1o6, cc1T, sel_f]
   go_simp
   exact hK.out _ _ (cc1M X22 rfl rfl ⟨hb, hT, hrA, heA, hrB, heB⟩)
 · obtain rfl : cc1o7 = o := Option.some.inj ho
   obtain rfl : b7 = false := h0
   have hn := wP9 (o := cc1o7) hC h1 [(6, none)] [] nk rfl; repeat (obtain ⟨rfl, hn⟩ := hn)
   have hn := wN9 hC (i := 7) rfl [(8, 7), (9, 8), (10, 9), (11, 10), (12, 11), (21, 12), (22, 12), (23, 21), (24, 7)] [] nk rfl; repeat (obtain ⟨rfl, hn⟩ := hn)
   obtain ⟨hb, hT, hrA, heA, hrB, heB⟩ := hF; refine wpOp_step (o := cc1o7) rfl (fun K hK => ?_); replace hK := hid hK; simp only [cc1o7, cc1T, sel_t, sel_f]
   go_simp
   exact hK.out _ _ (cc1M X22 rfl rfl ⟨hb, hT, hrA, heA, hrB, heB⟩)
 · obtain rfl : cc1o8 = o := Option.some.inj ho
   obtain rfl : b8 = false := h0
   have hn := wP9 (o := cc1o8) hC h1 [(7, none), (6, some 7)] [] nk rfl; repeat (obtain ⟨rfl, hn⟩ := hn)
   have hn := wN9 hC (i := 8) rfl [(9, 8), (10, 9), (11, 10), (12, 11), (21, 12), (22, 12), (23, 21), (24, 8)] [] nk rfl; repeat (obtain ⟨rfl, hn⟩ := hn)
   obtain ⟨hb, hT, hrA, heA, hrB, heB⟩ := hF; refine wpOp_step (o := cc1o8) rfl (fun K hK => ?_); replace hK := hid hK; simp only [cc1o8, cc1T, sel_t, sel_f]
   go_simp
   exact hK.out _ _ (cc1M X22 rfl rfl ⟨hb, hT, hrA, heA, hrB, heB⟩)
 · obtain rfl : cc1o9 = o := Option.some.inj ho
   obtain rfl : b9 = false := h0
   have hn := wP9 (o := cc1o9) hC h1 [(8, none), (7, some 8), (6, some 7)] [] nk rfl; repeat (obtain ⟨rfl, hn⟩ := hn)
   have hn := wN9 hC (i := 9) rfl [(10, 9), (11, 10), (12, 11), (21, 12), (22, 12), (23, 21), (24, 9)] [] nk rfl; repeat (obtain ⟨rfl, hn⟩ := hn)
   obtain ⟨hb, hT, hrA, heA, hrB, heB⟩ := hF; have c2 := (hrB.below hb hrB.lt).cell 1; refine wpOp_step (o := cc1o9) rfl (fun K hK => ?_); replace hK := hid hK; simp only [cc1o9, cc1T, sel_t, sel_f]
   go_simp
   exact hK.out _ _ (cc1M X22 rfl rfl ⟨hb, hT, hrA, heA, hrB, heB⟩)
 · obtain rfl : cc1o10 = o := Option.some.inj ho
   obtain rfl : b10 = false := h0
   have hn := wP9 (o := cc1o10) hC h1 [(9, none), (8, some 9), (7, some 8), (6, some 7)] [] nk rfl; repeat (obtain ⟨rfl, hn⟩ := hn)
   have hn := wN9 hC (i := 10) rfl [(11, 10), (12, 11), (21, 12), (22, 12), (23, 21), (24, 10)] [] nk rfl; repeat (obtain ⟨rfl, hn⟩ := hn)
   obtain ⟨hb, hT, hrA, heA, hrB, heB⟩ := hF; have r0 : (0 : Int) < (P.LB : Int) := by have := heB.2.2.2.2.2; omega
   refine wpOp_step (o := cc1o10) rfl (fun K hK => ?_); replace hK := hid hK; simp only [cc1o10, cc1T, sel_t, sel_f]
   go_simp
   exact hK.out _ _ (cc1M X22 rfl rfl ⟨hb, hT, hrA, heA, hrB, heB⟩)
 · obtain rfl : cc1o11 = o := Option.some.inj ho
   obtain rfl : b11 = false := h0
   have hn := wP9 (o := cc1o11) hC h1 [(10, none), (9, some 10), (8, some 9), (7, some 8), (6, some 7)] [] nk rfl; repeat (obtain ⟨rfl, hn⟩ := hn)
   have hn := wN9 hC (i := 11) rfl [(12, 11), (21, 12), (22, 12), (23, 21), (24, 11)] [] nk rfl; repeat (obtain ⟨rfl, hn⟩ := hn)
   obtain ⟨hb, hT, hrA, heA, hrB, heB⟩ := hF; obtain ⟨e0, e1, e2, e3, e4, e5⟩ := heB; have heB : P.W1.cell? ⟨P.GB, P.OB, none⟩ = some (.string P.kB) ∧ P.W1.cell? ⟨P.GB, P.OB + 1, none⟩ = some (.int .i64 P.qB) ∧ P.W1.cell? ⟨P.GB, P.OB + 2, none⟩ = some (.bool P.gB) ∧ P.W1.cell? ⟨P.GB, P.OB + 3, none⟩ = some (.string P.tB) ∧ P.GB < P.W1.heap.size ∧ 0 < P.LB := ⟨e0, e1, e2, e3, e4, e5⟩; have c0 := (hb.cell (p := ⟨P.GB, P.OB, none⟩) e4).trans e0; have c1 := (hb.cell (p := ⟨P.GB, P.OB + 1, none⟩) e4).trans e1; have c2 := (hb.cell (p := ⟨P.GB, P.OB + 2, none⟩) e4).trans e2; have c3 := (hb.cell (p := ⟨P.GB, P.OB + 3, none⟩) e4).trans e3; refine wpOp_step (o := cc1o11) rfl (fun K hK => ?_); replace hK := hid hK; simp only [cc1o11, cc1T, sel_t, sel_f]
   go_simp
   exact hK.out _ _ (cc1M X22 rfl rfl ⟨hb, hT, hrA, heA, hrB, heB⟩)
 · obtain rfl : cc1o12 = o := Option.some.inj ho
   obtain rfl : b12 = false := h0
   have hn := wP9 (o := cc1o12) hC h1 [(11, none), (5, none), (10, some 11), (9, some 10), (8, some 9), (7, some 8), (6, some 7), (4, some 5), (3, some 4), (2, some 3), (1, some 2), (0, some 1)] [] nk rfl; repeat (obtain ⟨rfl, hn⟩ := hn)
   have hn := wN9 hC (i := 12) rfl [(21, 12), (22, 12), (23, 21), (24, 12)] [] nk rfl; repeat (obtain ⟨rfl, hn⟩ := hn)
   obtain ⟨hb, hT, hrA, heA, hrB, heB⟩ := hF; refine wpOp_step (o := cc1o12) rfl (fun K hK => ?_); replace hK := hid hK; simp only [cc1o12, cc1T, sel_t, sel_f]
   go_simp
   refine (iCmpE P.kA P.qA P.gA P.tA P.kB P.qB P.gB P.tB _).mono ?_
   rintro e w2 ⟨rfl, hb2⟩
   dsimp only; exact hK.out _ _ (cc1M X22 rfl rfl ⟨hb.trans (hb2.mono hb.size), fun h => Bool.noConfusion h, hrA, heA, hrB, heB⟩)
 · obtain rfl : cc1o13 = o := Option.some.inj ho
   obtain rfl : b13 = false := h0
   have hn := wN9 hC (i := 13) rfl [(14, 13), (15, 14), (16, 15), (21, 16), (22, 21), (23, 21), (24, 13)] [] nk rfl; repeat (obtain ⟨rfl, hn⟩ := hn)
   obtain ⟨hb, hT, hrA, heA, hrB, heB⟩ := hF; refine wpOp_step (o := cc1o13) rfl (fun K hK => ?_); replace hK := hid hK; simp only [cc1o13, cc1T, sel_f]
   go_simp
   exact hK.out _ _ (cc1M X22 rfl rfl ⟨hb, hT, hrA, heA, hrB, heB⟩)
 · obtain rfl : cc1o14 = o := Option.some.inj ho
   obtain rfl : b14 = false := h0
   have hn := wP9 (o := cc1o14) hC h1 [(13, none)] [] nk rfl; repeat (obtain ⟨rfl, hn⟩ := hn)
   have hn := wN9 hC (i := 14) rfl [(15, 14), (16, 15), (21, 16), (22, 21), (23, 21), (24, 14)] [] nk rfl; repeat (obtain ⟨rfl, hn⟩ := hn)
   obtain ⟨hb, hT, hrA, heA, hrB, heB⟩ := hF; refine wpOp_step (o := cc1o14) rfl (fun K hK => ?_); replace hK := hid hK; simp only [cc1o14, cc1T, sel_t, sel_f]
   go_simp
   exact hK.out _ _ (cc1M X22 rfl rfl ⟨hb, hT, hrA, heA, hrB, heB⟩)
 · obtain rfl : cc1o15 = o := Option.some.inj ho
   obtain rfl : b15 = false := h0
   have hn := wP9 (o := cc1o15) hC h1 [(14, none), (13, some 14)] [] nk rfl; repeat (obtain ⟨rfl, hn⟩ := hn)
   have hn := wN9 hC (i := 15) rfl [(16, 15), (21, 16), (22, 21), (23, 21), (24, 15)] [] nk rfl; repeat (obtain ⟨rfl, hn⟩ := hn)
   obtain ⟨hb, hT, hrA, heA, hrB, heB⟩ := hF; refine wpOp_step (o := cc1o15) rfl (fun K hK => ?_); replace hK := hid hK; simp only [cc1o15, cc1T, sel_t, sel_f]
   go_simp
   exact hK.out _ _ (cc1M X22 rfl rfl ⟨hb, hT, hrA, heA, hrB, heB⟩)
 · obtain rfl : cc1o16 = o := Option.some.inj ho
   obtain rfl : b16 = false := h0
   have hn := wP9 (o := cc1o16) hC h1 [(15, none), (14, some 15), (13, some 14)] [] nk rfl; repeat (obtain ⟨rfl, hn⟩ := hn)
   have hn := wN9 hC (i := 16) rfl [(21, 16), (22, 21), (23, 21), (24, 16)] [] nk rfl; repeat (obtain ⟨rfl, hn⟩ := hn)
   obtain ⟨hb, hT, hrA, heA, hrB, heB⟩ := hF; have c2 := (hrA.below hb hrA.lt).cell 0; refine wpOp_step (o := cc1o16) rfl (fun K hK => ?_); replace hK := hid hK; simp only [cc1o16, cc1T, sel_t, sel_f]
   go_simp
   exact hK.out _ _ (cc1M X22 rfl rfl ⟨hb, hT, hrA, heA, hrB, heB⟩)
 · obtain rfl : cc1o17 = o := Option.some.inj ho
   obtain rfl : b17 = false := h0
   have hn := wN9 hC (i := 17) rfl [(18, 17), (19, 18), (20, 19), (21, 20), (22, 21), (23, 21), (24, 17)] [] nk rfl; repeat (obtain ⟨rfl, hn⟩ := hn)
   obtain ⟨hb, hT, hrA, heA, hrB, heB⟩ := hF; refine wpOp_step (o := cc1o17) rfl (fun K hK => ?_); replace hK := hid hK; simp only [cc1o17, cc1T, sel_f]
   go_simp
   exact hK.out _ _ (cc1M X22 rfl rfl ⟨hb, hT, hrA, heA, hrB, heB⟩)
 · obtain rfl : cc1o18 = o := Option.some.inj ho
   obtain rfl : b18 = false := h0
   have hn := wP9 (o := cc1o18) hC h1 [(17, none)] [] nk rfl; repeat (obtain ⟨rfl, hn⟩ := hn)
   have hn := wN9 hC (i := 18) rfl [(19, 18), (20, 19), (21, 20), (22, 21), (23, 21), (24, 18)] [] nk rfl; repeat (obtain ⟨rfl, hn⟩ := hn)
   obtain ⟨hb, hT, hrA, heA, hrB, heB⟩ := hF; refine wpOp_step (o := cc1o18) rfl (fun K hK => ?_); replace hK := hid hK; simp only [cc1o18, cc1T, sel_t, sel_f]
   go_simp
   exact hK.out _ _ (cc1M X22 rfl rfl ⟨hb, hT, hrA, heA, hrB, heB⟩)
 · obtain rfl : cc1o19 = o := Option.some.inj ho
   obtain rfl : b19 = false := h0
   have hn := wP9 (o := cc1o19) hC h1 [(18, none), (17, some 18)] [] nk rfl; repeat (obtain ⟨rfl, hn⟩ := hn)
   have hn := wN9 hC (i := 19) rfl [(20, 19), (21, 20), (22, 21), (23, 21), (24, 19)] [] nk rfl; repeat (obtain ⟨rfl, hn⟩ := hn)
   obtain ⟨hb, hT, hrA, heA, hrB, heB⟩ := hF; refine wpOp_step (o := cc1o19) rfl (fun K hK => ?_); replace hK := hid hK; simp only [cc1o19, cc1T, sel_t, sel_f]
   go_simp
   exact hK.out _ _ (cc1M X22 rfl rfl ⟨hb, hT, hrA, heA, hrB, heB⟩)
 · obtain rfl : cc1o20 = o := Option.some.inj ho
   obtain rfl : b20 = false := h0
   have hn := wP9 (o := cc1o20) hC h1 [(19, none), (18, some 19), (17, some 18)] [] nk rfl; repeat (obtain ⟨rfl, hn⟩ := hn)
   have hn := wN9 hC (i := 20) rfl [(21, 20), (22, 21), (23, 21), (24, 20)] [] nk rfl; repeat (obtain ⟨rfl, hn⟩ := hn)
   obtain ⟨hb, hT, hrA, heA, hrB, heB⟩ := hF; have c2 := (hrB.below hb hrB.lt).cell 0; refine wpOp_step (o := cc1o20) rfl (fun K hK => ?_); replace hK := hid hK; simp only [cc1o20, cc1T, sel_t, sel_f]
   go_simp
   exact hK.out _ _ (cc1M X22 rfl rfl ⟨hb, hT, hrA, heA, hrB, heB⟩)
 · obtain rfl : cc1o21 = o := Option.some.inj ho
   obtain rfl : b21 = false := h0
   have hn := wP9 (o := cc1o21) hC h1 [(20, none), (16, none), (12, none), (19, some 20), (18, some 19), (17, some 18), (15, some 16), (14, some 15), (13, some 14), (5, some 12), (11, some 12), (10, some 11), (9, some 10), (8, some 9), (7, some 8), (6, some 7), (4, some 5), (3, some 4), (2, some 3), (1, some 2), (0, some 1)] [] nk rfl; repeat (obtain ⟨rfl, hn⟩ := hn)
   have hn := wN9 hC (i := 21) rfl [(22, 21), (23, 21), (24, 21)] [] nk rfl; repeat (obtain ⟨rfl, hn⟩ := hn)
   obtain ⟨hb, hT, hrA, heA, hrB, heB⟩ := hF; refine wpOp_step (o := cc1o21) rfl (fun K hK => ?_); replace hK := hid hK; simp only [cc1o21, cc1T, sel_t, sel_f]
   go_simp
   refine (iCompareI (P.NA : Int) (P.NB : Int) _).mono ?_
   rintro e w2 ⟨rfl, rfl⟩
   dsimp only; exact hK.out _ _ (cc1M X22 rfl rfl ⟨hb, fun h => Bool.noConfusion h, hrA, heA, hrB, heB⟩)
 · obtain rfl : cc1o22 = o := Option.some.inj ho
   obtain rfl : b22 = false := h0
   have hn := wP9 (o := cc1o22) hC h1 [(21, none), (12, none), (16, some 21), (20, some 21), (19, some 20), (18, some 19), (17, some 18), (15, some 16), (14, some 15), (13, some 14), (5, some 12), (11, some 12), (10, some 11), (9, some 10), (8, some 9), (7, some 8), (6, some 7), (4, some 5), (3, some 4), (2, some 3), (1, some 2), (0, some 1)] [] nk rfl; repeat (obtain ⟨rfl, hn⟩ := hn)
   have hn := wN9 hC (i := 22) rfl [(23, 22), (24, 22)] [] nk rfl; repeat (obtain ⟨rfl, hn⟩ := hn)
   obtain ⟨hb, hT, hrA, heA, hrB, heB⟩ := hF; refine wpOp_step (o := cc1o22) rfl (fun K hK => ?_); replace hK := hid hK; simp only [cc1o22, cc1T, sel_t, sel_f]
   go_simp
   exact hK.out _ _ (cc1M w.heap.size rfl rfl ⟨hb.alloc hb.size _, fun _ => RA.new w _ _, hrA, heA, hrB, heB⟩)
 · obtain rfl : cc1o23 = o := Option.some.inj ho
   obtain rfl : b23 = false := h0
   have hn := wP9 (o := cc1o23) hC h1 [(22, none), (21, none), (12, some 22), (16, some 21), (20, some 21), (19, some 20), (18, some 19), (17, some 18), (15, some 16), (14, some 15), (13, some 14), (5, some 12), (11, some 12), (10, some 11), (9, some 10), (8, some 9), (7, some 8), (6, some 7), (4, some 5), (3, some 4), (2, some 3), (1, some 2), (0, some 1)] [] nk rfl; repeat (obtain ⟨rfl, hn⟩ := hn)
   have hn := wN9 hC (i := 23) rfl [(24, 23)] [] nk rfl; repeat (obtain ⟨rfl, hn⟩ := hn)
   obtain ⟨hb, hT, hrA, heA, hrB, heB⟩ := hF; refine wpOp_step (o := cc1o23) rfl (fun K hK => ?_); replace hK := hid hK; simp only [cc1o23, cc1T, sel_t, sel_f]
   go_simp
   refine (iOr X22 (enCmp ⟨P.kA, P.qA, P.gA, P.tA⟩ ⟨P.kB, P.qB, P.gB, P.tB⟩) (cmpI (P.NA : Int) (P.NB : Int)) _ ((hT rfl).cell 0) ((hT rfl).cell 1)).mono ?_
   rintro e w2 ⟨rfl, rfl⟩
   dsimp only; exact hK.out _ _ (cc1M X22 rfl rfl ⟨hb, hT, hrA, heA, hrB, heB⟩)
 · obtain rfl : cc1o24 = o := Option.some.inj ho
   obtain rfl : b24 = false := h0
   have hn := wP9 (o := cc1o24) hC h1 [(23, none), (22, none), (21, none), (20, none), (19, none), (18, none), (17, none), (16, none), (15, none), (14, none), (13, none), (12, none), (11, none), (10, none), (9, none), (8, none), (7, none), (6, none), (5, none), (4, none), (3, none), (2, none), (1, none), (0, none)] [] nk rfl; repeat (obtain ⟨rfl, hn⟩ := hn)
   obtain ⟨hb, hT, hrA, heA, hrB, heB⟩ := hF; refine wpOp_step (o := cc1o24) rfl (fun K hK => ?_); replace hK := hid hK; simp only [cc1o24, cc1T, sel_t, sel_f]
   go_simp
   exact hK.out _ _ (cc1M X22 rfl rfl ⟨hb, hT, hrA, heA, hrB, heB⟩)
set_option maxRecDepth 20000 in
set_option maxHeartbeats 4000000 in
theorem cc1_wp {Q : Exit → Act → World → Prop} {rid : Nat} (W1 : World) (BA BB NA NB GA OA LA CA GB OB LB CB : Nat) (kA kB tA tB : ByteArray) (qA qB : Int) (gA gB : Bool) {s2 s3 s4 s5 s6 s7 s8 s9 s10 s11 s12 s13 s14 s15 s16 s17 s18 s19 s20 s21 s22 s23 s24 s25 s26 s27 s28 : Value} (w : World) (hb : Below W1.heap.size W1 w) (hrA : RA W1 BA 114 #[.int .i64 (NA : Int), .slice (some ⟨GA, OA, none⟩) LA CA]) (heA : W1.cell? ⟨GA, OA, none⟩ = some (.string kA) ∧ W1.cell? ⟨GA, OA + 1, none⟩ = some (.int .i64 qA) ∧ W1.cell? ⟨GA, OA + 2, none⟩ = some (.bool gA) ∧ W1.cell? ⟨GA, OA + 3, none⟩ = some (.string tA) ∧ GA < W1.heap.size ∧ 0 < LA) (hrB : RA W1 BB 114 #[.int .i64 (NB : Int), .slice (some ⟨GB, OB, none⟩) LB CB]) (heB : W1.cell? ⟨GB, OB, none⟩ = some (.string kB) ∧ W1.cell? ⟨GB, OB + 1, none⟩ = some (.int .i64 qB) ∧ W1.cell? ⟨GB, OB + 2, none⟩ = some (.bool gB) ∧ W1.cell? ⟨GB, OB + 3, none⟩ = some (.string tB) ∧ GB < W1.heap.size ∧ 0 < LB)
 (fin : ∀ (X22 : Nat) (w' : World), (Below W1.heap.size W1 w') → (RA w' X22 3 #[.int .i64 (enCmp ⟨kA, qA, gA, tA⟩ ⟨kB, qB, gB, tB⟩), .int .i64 (cmpI (NA : Int) (NB : Int))]) → (RA W1 BA 114 #[.int .i64 (NA : Int), .slice (some ⟨GA, OA, none⟩) LA CA]) → (W1.cell? ⟨GA, OA, none⟩ = some (.string kA) ∧ W1.cell? ⟨GA, OA + 1, none⟩ = some (.int .i64 qA) ∧ W1.cell? ⟨GA, OA + 2, none⟩ = some (.bool gA) ∧ W1.cell? ⟨GA, OA + 3, none⟩ = some (.string tA) ∧ GA < W1.heap.size ∧ 0 < LA) → (RA W1 BB 114 #[.int .i64 (NB : Int), .slice (some ⟨GB, OB, none⟩) LB CB]) → (W1.cell? ⟨GB, OB, none⟩ = some (.string kB) ∧ W1.cell? ⟨GB, OB + 1, none⟩ = some (.int .i64 qB) ∧ W1.cell? ⟨GB, OB + 2, none⟩ = some (.bool gB) ∧ W1.cell? ⟨GB, OB + 3, none⟩ = some (.string tB) ∧ GB < W1.heap.size ∧ 0 < LB) → Q .normal { tmps := #[.pointer (some ⟨BA, 0, none⟩), .pointer (some ⟨BB, 0, none⟩), s2, s3, .int .i64 (orI (enCmp ⟨kA, qA, gA, tA⟩ ⟨kB, qB, gB, tB⟩) (cmpI (NA : Int) (NB : Int))), .pointer (some ⟨BA, 0, none⟩), .pointer (some ⟨BA, 0, none⟩), .pointer (some ⟨BA, 1, none⟩), .slice (some ⟨GA, OA, none⟩) LA CA, .pointer (some ⟨GA, OA, none⟩), .agg #[.string kA, .int .i64 qA, .bool gA, .string tA], .pointer (some ⟨BB, 0, none⟩), .pointer (some ⟨BB, 0, none⟩), .pointer (some ⟨BB, 1, none⟩), .slice (some ⟨GB, OB, none⟩) LB CB, .pointer (some ⟨GB, OB, none⟩), .agg #[.string kB, .int .i64 qB, .bool gB, .string tB], .int .i64 (enCmp ⟨kA, qA, gA, tA⟩ ⟨kB, qB, gB, tB⟩), .pointer (some ⟨BA, 0, none⟩), .pointer (some ⟨BA, 0, none⟩), .pointer (some ⟨BA, 0, none⟩), .int .i64 (NA : Int), .pointer (some ⟨BB, 0, none⟩), .pointer (some ⟨BB, 0, none⟩), .pointer (some ⟨BB, 0, none⟩), .int .i64 (NB : Int), .int .i64 (cmpI (NA : Int) (NB : Int)), .slice (some ⟨X22, 0, none⟩) 2 2, .int .i64 (orI (enCmp ⟨kA, qA, gA, tA⟩ ⟨kB, qB, gB, tB⟩) (cmpI (NA : Int) (NB : Int)))], defers := [] } w') :
 (Code.region rid cc1O true).wp Tryz.prog Q { tmps := #[.pointer (some ⟨BA, 0, none⟩), .pointer (some ⟨BB, 0, none⟩), s2, s3, s4, s5, s6, s7, s8, s9, s10, s11, s12, s13, s14, s15, s16, s17, s18, s19, s20, s21, s22, s23, s24, s25, s26, s27, s28], defers := [] } w := by
 refine wp_region_inv (ops := cc1O) (cc1I ⟨W1, BA, BB, NA, NB, GA, OA, LA, CA, GB, OB, LB, CB, kA, kB, tA, tB, qA, qB, gA, gB, s2, s3, s4, s5, s6, s7, s8, s9, s10, s11, s12, s13, s14, s15, s16, s17, s18, s19, s20, s21, s22, s23, s24, s25, s26, s27, s28⟩) (by kernel_rfl) (by kernel_rfl) (fun l f v hI => ?_) (fun l f v hC hI i h0 o ho h1 => cc1_step ⟨W1, BA, BB, NA, NB, GA, OA, LA, CA, GB, OB, LB, CB, kA, kB, tA, tB, qA, qB, gA, gB, s2, s3, s4, s5, s6, s7, s8, s9, s10, s11, s12, s13, s14, s15, s16, s17, s18, s19, s20, s21, s22, s23, s24, s25, s26, s27, s28⟩ l f v hC hI i h0 o ho h1) (fun l f v hI hall => ?_) ?_
 · obtain ⟨_, _, _, _, _, _, _, _, _, _, _, _, _, _, _, _, _, _, _, _, _, _, _, _, _, _, rfl, _⟩ := hI; rfl
 · obtain ⟨b0, b1, b2, b3, b4, b5, b6, b7, b8, b9, b10, b11, b12, b13, b14, b15, b16, b17, b18, b19, b20, b21, b22, b23, b24, X22, rfl, rfl, hb, hT, hrA, heA, hrB, heB⟩ := hI
   have hn := allT hall [0, 1, 2, 3, 4, 5, 6, 7, 8, 9, 10, 11, 12, 13, 14, 15, 16, 17, 18, 19, 20, 21, 22, 23, 24] rfl; repeat (obtain ⟨rfl, hn⟩ := hn)
   exact fin X22 v hb (hT rfl) hrA heA hrB heB
 · exact ⟨false, false, false, false, false, false, false, false, false, false, false, false, false, false, false, false, false, false, false, false, false, false, false, false, false, 0, rfl, rfl, hb.drew, fun h => Bool.noConfusion h, hrA, heA, hrB, heB⟩
def ls1o0 : Oper := ⟨some 7, .move (.tmp 0), 105, "l08_runs.go:186", #[], none⟩
def ls1o1 : Oper := ⟨some 8, .nilCheck (.tmp 7), 0, "l08_runs.go:186", #[⟨0, .data⟩], none⟩
def ls1o2 : Oper := ⟨some 9, .fieldAddr 109 (.tmp 8) 0, 0, "l08_runs.go:186", #[⟨1, .data⟩], none⟩
def ls1o3 : Oper := ⟨some 10, .load 106 (.tmp 9), 106, "l08_runs.go:186", #[⟨2, .data⟩], none⟩
def ls1o4 : Oper := ⟨some 11, .move (.tmp 0), 105, "l08_runs.go:186", #[], none⟩
def ls1o5 : Oper := ⟨some 12, .nilCheck (.tmp 11), 0, "l08_runs.go:186", #[⟨4, .data⟩], none⟩
def ls1o6 : Oper := ⟨some 13, .fieldAddr 109 (.tmp 12) 1, 0, "l08_runs.go:186", #[⟨5, .data⟩], none⟩
def ls1o7 : Oper := ⟨some 14, .load 107 (.tmp 13), 107, "l08_runs.go:186", #[⟨6, .data⟩], none⟩
def ls1o8 : Oper := ⟨some 15, .move (.tmp 1), 3, "l08_runs.go:186", #[], none⟩
def ls1o9 : Oper := ⟨some 16, .indexAddr 107 (.tmp 14) (.tmp 15), 0, "l08_runs.go:186", #[⟨7, .data⟩, ⟨8, .data⟩], none⟩
def ls1o10 : Oper := ⟨some 17, .load 112 (.tmp 16), 112, "l08_runs.go:186", #[⟨9, .data⟩], none⟩
def ls1o11 : Oper := ⟨some 18, .move (.tmp 0), 105, "l08_runs.go:186", #[], none⟩
def ls1o12 : Oper := ⟨some 19, .nilCheck (.tmp 18), 0, "l08_runs.go:186", #[⟨11, .data⟩], none⟩
def ls1o13 : Oper := ⟨some 20, .fieldAddr 109 (.tmp 19) 1, 0, "l08_runs.go:186", #[⟨12, .data⟩], none⟩
def ls1o14 : Oper := ⟨some 21, .load 107 (.tmp 20), 107, "l08_runs.go:186", #[⟨13, .data⟩], none⟩
def ls1o15 : Oper := ⟨some 22, .move (.tmp 2), 3, "l08_runs.go:186", #[], none⟩
def ls1o16 : Oper := ⟨some 23, .indexAddr 107 (.tmp 21) (.tmp 22), 0, "l08_runs.go:186", #[⟨14, .data⟩, ⟨15, .data⟩], none⟩
def ls1o17 : Oper := ⟨some 24, .load 112 (.tmp 23), 112, "l08_runs.go:186", #[⟨16, .data⟩], none⟩
def ls1o18 : Oper := ⟨some 25, .call { callee := .value (.tmp 10), args := #[.tmp 17, .tmp 24], argTypes := #[112, 112] }, 3, "l08_runs.go:186", #[⟨3, .data⟩, ⟨10, .data⟩, ⟨17, .data⟩], none⟩
def ls1o19 : Oper := ⟨some 26, .binOp .lss 3 (.tmp 25) (.const (.int .i64 0)) 3, 4, "l08_runs.go:186", #[⟨18, .data⟩], none⟩
def ls1o20 : Oper := ⟨some 6, .assign (.tmp 26), 4, "l08_runs.go:186", #[⟨19, .data⟩, ⟨18, .chain⟩, ⟨0, .phase⟩, ⟨1, .phase⟩, ⟨2, .phase⟩, ⟨3, .phase⟩, ⟨4, .phase⟩, ⟨5, .phase⟩, ⟨6, .phase⟩, ⟨7, .phase⟩, ⟨8, .phase⟩, ⟨9, .phase⟩, ⟨10, .phase⟩, ⟨11, .phase⟩, ⟨12, .phase⟩, ⟨13, .phase⟩, ⟨14, .phase⟩, ⟨15, .phase⟩, ⟨16, .phase⟩, ⟨17, .phase⟩, ⟨18, .phase⟩, ⟨19, .phase⟩], none⟩
def ls1O : Array Oper := #[ls1o0, ls1o1, ls1o2, ls1o3, ls1o4, ls1o5, ls1o6, ls1o7, ls1o8, ls1o9, ls1o10, ls1o11, ls1o12, ls1o13, ls1o14, ls1o15, ls1o16, ls1o17, ls1o18, ls1o19, ls1o20]
structure ls1P where
 (W1 : World)
 (QB GI NI CI IS JS BI BJ : Nat)
 (zz : Int)
 (s3 s4 s5 s6 s7 s8 s9 s10 s11 s12 s13 s14 s15 s16 s17 s18 s19 s20 s21 s22 s23 s24 s25 s26 : Value)
def ls1T (P : ls1P) (uu : Nat) (b0 b1 b2 b3 b4 b5 b6 b7 b8 b9 b10 b11 b12 b13 b14 b15 b16 b17 b18 b19 b20 : Bool) : Array Value := #[.pointer (some ⟨P.QB, 0, none⟩), .int .i64 (P.IS : Int), .int .i64 (P.JS : Int), P.s3, P.s4, P.s5, sel b20 (.bool (decide (P.zz < 0))) (P.s6), sel b0 (.pointer (some ⟨P.QB, 0, none⟩)) (P.s7), sel b1 (.pointer (some ⟨P.QB, 0, none⟩)) (P.s8), sel b2 (.pointer (some ⟨P.QB, 0, none⟩)) (P.s9), sel b3 (.func (.func 69) #[] #[]) (P.s10), sel b4 (.pointer (some ⟨P.QB, 0, none⟩)) (P.s11), sel b5 (.pointer (some ⟨P.QB, 0, none⟩)) (P.s12), sel b6 (.pointer (some ⟨P.QB, 1, none⟩)) (P.s13), sel b7 (.slice (some ⟨P.GI, 0, none⟩) P.NI P.CI) (P.s14), sel b8 (.int .i64 (P.IS : Int)) (P.s15), sel b9 (.pointer (some ⟨P.GI, P.IS, none⟩)) (P.s16), sel b10 (.pointer (some ⟨P.BI, 0, none⟩)) (P.s17), sel b11 (.pointer (some ⟨P.QB, 0, none⟩)) (P.s18), sel b12 (.pointer (some ⟨P.QB, 0, none⟩)) (P.s19), sel b13 (.pointer (some ⟨P.QB, 1, none⟩)) (P.s20), sel b14 (.slice (some ⟨P.GI, 0, none⟩) P.NI P.CI) (P.s21), sel b15 (.int .i64 (P.JS : Int)) (P.s22), sel b16 (.pointer (some ⟨P.GI, P.JS, none⟩)) (P.s23), sel b17 (.pointer (some ⟨P.BJ, 0, none⟩)) (P.s24), sel b18 (.int .i64 P.zz) (P.s25), sel b19 (.bool (decide (P.zz < 0))) (P.s26)]
def ls1F (P : ls1P) (uu : Nat) (b0 b1 b2 b3 b4 b5 b6 b7 b8 b9 b10 b11 b12 b13 b14 b15 b16 b17 b18 b19 b20 : Bool) (w : World) : Prop := (Below P.W1.heap.size P.W1 w) ∧ (RA P.W1 P.QB 109 #[.func (.func 69) #[] #[], .slice (some ⟨P.GI, 0, none⟩) P.NI P.CI]) ∧ (P.W1.cell? ⟨P.GI, P.IS, none⟩ = some (.pointer (some ⟨P.BI, 0, none⟩)) ∧ P.IS < P.NI ∧ P.GI < P.W1.heap.size) ∧ (P.W1.cell? ⟨P.GI, P.JS, none⟩ = some (.pointer (some ⟨P.BJ, 0, none⟩)) ∧ P.JS < P.NI) ∧ (∀ wx : World, Below P.W1.heap.size P.W1 wx → Calls Tryz.prog 69 #[.pointer (some ⟨P.BI, 0, none⟩), .pointer (some ⟨P.BJ, 0, none⟩)] wx fun e w' => e = .returned (.int .i64 P.zz) ∧ Below wx.heap.size wx w')
def ls1I (P : ls1P) (l : Array Bool) (f : Act) (w : World) : Prop :=
 ∃ (b0 b1 b2 b3 b4 b5 b6 b7 b8 b9 b10 b11 b12 b13 b14 b15 b16 b17 b18 b19 b20 : Bool) (uu : Nat), l = #[b0, b1, b2, b3, b4, b5, b6, b7, b8, b9, b10, b11, b12, b13, b14, b15, b16, b17, b18, b19, b20] ∧ f = { tmps := ls1T P uu b0 b1 b2 b3 b4 b5 b6 b7 b8 b9 b10 b11 b12 b13 b14 b15 b16 b17 b18 b19 b20, defers := [] } ∧ ls1F P uu b0 b1 b2 b3 b4 b5 b6 b7 b8 b9 b10 b11 b12 b13 b14 b15 b16 b17 b18 b19 b20 w
theorem ls1M {P : ls1P} {b0 b1 b2 b3 b4 b5 b6 b7 b8 b9 b10 b11 b12 b13 b14 b15 b16 b17 b18 b19 b20 : Bool} (uu : Nat) {l : Array Bool} {f : Act} {w : World} (hl : l = #[b0, b1, b2, b3, b4, b5, b6, b7, b8, b9, b10, b11, b12, b13, b14, b15, b16, b17, b18, b19, b20]) (hf : f = { tmps := ls1T P uu b0 b1 b2 b3 b4 b5 b6 b7 b8 b9 b10 b11 b12 b13 b14 b15 b16 b17 b18 b19 b20, defers := [] }) (h : ls1F P uu b0 b1 b2 b3 b4 b5 b6 b7 b8 b9 b10 b11 b12 b13 b14 b15 b16 b17 b18 b19 b20 w) : ls1I P l f w := ⟨b0, b1, b2, b3, b4, b5, b6, b7, b8, b9, b10, b11, b12, b13, b14, b15, b16, b17, b18, b19, b20, uu, hl, hf, h⟩
set_option maxRecDepth 20000 in
set_option maxHeartbeats 20000000 in
theorem ls1_step {Q : Exit → Act → World → Prop} (P : ls1P) (l : Array Bool) (f : Act) (w : World) (hC : Closed ls1O l) (hI : ls1I P l f w) (i : Nat) (h0 : l.getD i true = false) (o : Oper) (ho : ls1O[i]? = some o) (h1 : ∀ e ∈ o.after, Region.binds .any e = true → l.getD e.on false = true) : wpOp Tryz.prog ls1O Q i (ls1I P (l.setIfInBounds i true)) f w := by
 obtain ⟨b0, b1, b2, b3, b4, b5, b6, b7, b8, b9, b10, b11, b12, b13, b14, b15, b16, b17, b18, b19, b20, uu, rfl, rfl, hF⟩ := hI
 have hi : i < 21 := by
  rcases Nat.lt_or_ge i 21 with h | h
  · exact h
  · rw [show ls1O[i]? = none from Array.getElem?_eq_none h] at ho; cases ho
 rcases (by omega : i = 0 ∨ i = 1 ∨ i = 2 ∨ i = 3 ∨ i = 4 ∨ i = 5 ∨ i = 6 ∨ i = 7 ∨ i = 8 ∨ i = 9 ∨ i = 10 ∨ i = 11 ∨ i = 12 ∨ i = 13 ∨ i = 14 ∨ i = 15 ∨ i = 16 ∨ i = 17 ∨ i = 18 ∨ i = 19 ∨ i = 20) with rfl | rfl | rfl | rfl | rfl | rfl | rfl | rfl | rfl | rfl | rfl | rfl | rfl | rfl | rfl | rfl | rfl | rfl | rfl | rfl | rfl
 · obtain rfl : ls1o0 = o := Option.some.inj ho
   obtain rfl : b0 = false := h0
   have hn := wN9 hC (i := 0) rfl [(1, 0), (2, 1), (3, 2), (18, 3), (19, 18), (20, 0)] [] nk rfl; repeat (obtain ⟨rfl, hn⟩ := hn)
   obtain ⟨hb, hq, hi, hj, hC⟩ := hF; refine wpOp_step (o := ls1o0) rfl (fun K hK => ?_); replace hK := hid hK; simp only [ls1o0, ls1T, sel_f]
   go_simp
   exact hK.out _ _ (ls1M uu rfl rfl ⟨hb, hq, hi, hj, hC⟩)
 · obtain rfl : ls1o1 = o := Option.some.inj ho
   obtain rfl : b1 = false := h0
   have hn := wP9 (o := ls1o1) hC h1 [(0, none)] [] nk rfl; repeat (obtain ⟨rfl, hn⟩ := hn)
   have hn := wN9 hC (i := 1) rfl [(2, 1), (3, 2), (18, 3), (19, 18), (20, 1)] [] nk rfl; repeat (obtain ⟨rfl, hn⟩ := hn)
   obtain ⟨hb, hq, hi, hj, hC⟩ := hF; refine wpOp_step (o := ls1o1) rfl (fun K hK => ?_); replace hK := hid hK; simp only [ls1o1, ls1T, sel_t, sel_f]
   go_simp
   exact hK.out _ _ (ls1M uu rfl rfl ⟨hb, hq, hi, hj, hC⟩)
 · obtain rfl : ls1o2 = o := Option.some.inj ho
   obtain rfl : b2 = false := h0
   have hn := wP9 (o := ls1o2) hC h1 [(1, none), (0, some 1)] [] nk rfl; repeat (obtain ⟨rfl, hn⟩ := hn)
   have hn := wN9 hC (i := 2) rfl [(3, 2), (18, 3), (19, 18), (20, 2)] [] nk rfl; repeat (obtain ⟨rfl, hn⟩ := hn)
   obtain ⟨hb, hq, hi, hj, hC⟩ := hF; refine wpOp_step (o := ls1o2) rfl (fun K hK => ?_); replace hK := hid hK; simp only [ls1o2, ls1T, sel_t, sel_f]
   go_simp
   exact hK.out _ _ (ls1M uu rfl rfl ⟨hb, hq, hi, hj, hC⟩)
 · obtain rfl : ls1o3 = o := Option.some.inj ho
   obtain rfl : b3 = false := h0
   have hn := wP9 (o := ls1o3) hC h1 [(2, none), (1, some 2), (0, some 1)] [] nk rfl; repeat (obtain ⟨rfl, hn⟩ := hn)
   have hn := wN9 hC (i := 3) rfl [(18, 3), (19, 18), (20, 3)] [] nk rfl; repeat (obtain ⟨rfl, hn⟩ := hn)
   obtain ⟨hb, hq, hi, hj, hC⟩ := hF; have c2 := (hq.below hb hq.lt).cell 0; refine wpOp_step (o := ls1o3) rfl (fun K hK => ?_); replace hK := hid hK; simp only [ls1o3, ls1T, sel_t, sel_f]
   go_simp
   exact hK.out _ _ (ls1M uu rfl rfl ⟨hb, hq, hi, hj, hC⟩)
 · obtain rfl : ls1o4 = o := Option.some.inj ho
   obtain rfl : b4 = false := h0
   have hn := wN9 hC (i := 4) rfl [(5, 4), (6, 5), (7, 6), (9, 7), (10, 9), (18, 10), (19, 18), (20, 4)] [] nk rfl; repeat (obtain ⟨rfl, hn⟩ := hn)
   obtain ⟨hb, hq, hi, hj, hC⟩ := hF; refine wpOp_step (o := ls1o4) rfl (fun K hK => ?_); replace hK := hid hK; simp only [ls1o4, ls1T, sel_f]
   go_simp
   exact hK.out _ _ (ls1M uu rfl rfl ⟨hb, hq, hi, hj, hC⟩)
 · obtain rfl : ls1o5 = o := Option.some.inj ho
   obtain rfl : b5 = false := h0
   have hn := wP9 (o := ls1o5) hC h1 [(4, none)] [] nk rfl; repeat (obtain ⟨rfl, hn⟩ := hn)
   have hn := wN9 hC (i := 5) rfl [(6, 5), (7, 6), (9, 7), (10, 9), (18, 10), (19, 18), (20, 5)] [] nk rfl; repeat (obtain ⟨rfl, hn⟩ := hn)
   obtain ⟨hb, hq, hi, hj, hC⟩ := hF; refine wpOp_step (o := ls1o5) rfl (fun K hK => ?_); replace hK := hid hK; simp only [ls1o5, ls1T, sel_t, sel_f]
   go_simp
   exact hK.out _ _ (ls1M uu rfl rfl ⟨hb, hq, hi, hj, hC⟩)
 · obtain rfl : ls1o6 = o := Option.some.inj ho
   obtain rfl : b6 = false := h0
   have hn := wP9 (o := ls1o6) hC h1 [(5, none), (4, some 5)] [] nk rfl; repeat (obtain ⟨rfl, hn⟩ := hn)
   have hn := wN9 hC (i := 6) rfl [(7, 6), (9, 7), (10, 9), (18, 10), (19, 18), (20, 6)] [] nk rfl; repeat (obtain ⟨rfl, hn⟩ := hn)
   obtain ⟨hb, hq, hi, hj, hC⟩ := hF; refine wpOp_step (o := ls1o6) rfl (fun K hK => ?_); replace hK := hid hK; simp only [ls1o6, ls1T, sel_t, sel_f]
   go_simp
   exact hK.out _ _ (ls1M uu rfl rfl ⟨hb, hq, hi, hj, hC⟩)
 · obtain rfl : ls1o7 = o := Option.some.inj ho
   obtain rfl : b7 = false := h0
   have hn := wP9 (o := ls1o7) hC h1 [(6, none), (5, some 6), (4, some 5)] [] nk rfl; repeat (obtain ⟨rfl, hn⟩ := hn)
   have hn := wN9 hC (i := 7) rfl [(9, 7), (10, 9), (18, 10), (19, 18), (20, 7)] [] nk rfl; repeat (obtain ⟨rfl, hn⟩ := hn)
   obtain ⟨hb, hq, hi, hj, hC⟩ := hF; have c2 := (hq.below hb hq.lt).cell 1; refine wpOp_step (o := ls1o7) rfl (fun K hK => ?_); replace hK := hid hK; simp only [ls1o7, ls1T, sel_t, sel_f]
   go_simp
   exact hK.out _ _ (ls1M uu rfl rfl ⟨hb, hq, hi, hj, hC⟩)
 · obtain rfl : ls1o8 = o := Option.some.inj ho
   obtain rfl : b8 = false := h0
   have hn := wN9 hC (i := 8) rfl [(9, 8), (10, 9), (18, 10), (19, 18), (20, 8)] [] nk rfl; repeat (obtain ⟨rfl, hn⟩ := hn)
   obtain ⟨hb, hq, hi, hj, hC⟩ := hF; refine wpOp_step (o := ls1o8) rfl (fun K hK => ?_); replace hK := hid hK; simp only [ls1o8, ls1T, sel_f]
   go_simp
   exact hK.out _ _ (ls1M uu rfl rfl ⟨hb, hq, hi, hj, hC⟩)
 · obtain rfl : ls1o9 = o := Option.some.inj ho
   obtain rfl : b9 = false := h0
   have hn := wP9 (o := ls1o9) hC h1 [(8, none), (7, none), (6, some 7), (5, some 6), (4, some 5)] [] nk rfl; repeat (obtain ⟨rfl, hn⟩ := hn)
   have hn := wN9 hC (i := 9) rfl [(10, 9), (18, 10), (19, 18), (20, 9)] [] nk rfl; repeat (obtain ⟨rfl, hn⟩ := hn)
   obtain ⟨hb, hq, hi, hj, hC⟩ := hF; have r1 : (P.IS : Int) < (P.NI : Int) := by have := hi.2.1; omega
   refine wpOp_step (o := ls1o9) rfl (fun K hK => ?_); replace hK := hid hK; simp only [ls1o9, ls1T, sel_t, sel_f]
   go_simp
   exact hK.out _ _ (ls1M uu rfl rfl ⟨hb, hq, hi, hj, hC⟩)
 · obtain rfl : ls1o10 = o := Option.some.inj ho
   obtain rfl : b10 = false := h0
   have hn := wP9 (o := ls1o10) hC h1 [(9, none), (7, some 9), (8, some 9), (6, some 7), (5, some 6), (4, some 5)] [] nk rfl; repeat (obtain ⟨rfl, hn⟩ := hn)
   have hn := wN9 hC (i := 10) rfl [(18, 10), (19, 18), (20, 10)] [] nk rfl; repeat (obtain ⟨rfl, hn⟩ := hn)
   obtain ⟨hb, hq, hi, hj, hC⟩ := hF; have c2 := (hb.cell (p := ⟨P.GI, P.IS, none⟩) hi.2.2).trans hi.1; refine wpOp_step (o := ls1o10) rfl (fun K hK => ?_); replace hK := hid hK; simp only [ls1o10, ls1T, sel_t, sel_f]
   go_simp
   exact hK.out _ _ (ls1M uu rfl rfl ⟨hb, hq, hi, hj, hC⟩)
 · obtain rfl : ls1o11 = o := Option.some.inj ho
   obtain rfl : b11 = false := h0
   have hn := wN9 hC (i := 11) rfl [(12, 11), (13, 12), (14, 13), (16, 14), (17, 16), (18, 17), (19, 18), (20, 11)] [] nk rfl; repeat (obtain ⟨rfl, hn⟩ := hn)
   obtain ⟨hb, hq, hi, hj, hC⟩ := hF; refine wpOp_step (o := ls1o11) rfl (fun K hK => ?_); replace hK := hid hK; simp only [ls1o11, ls1T, sel_f]
   go_simp
   exact hK.out _ _ (ls1M uu rfl rfl ⟨hb, hq, hi, hj, hC⟩)
 · obtain rfl : ls1o12 = o := Option.some.inj ho
   obtain rfl : b12 = false := h0
   have hn := wP9 (o := ls1o12) hC h1 [(11, none)] [] nk rfl; repeat (obtain ⟨rfl, hn⟩ := hn)
   have hn := wN9 hC (i := 12) rfl [(13, 12), (14, 13), (16, 14), (17, 16), (18, 17), (19, 18), (20, 12)] [] nk rfl; repeat (obtain ⟨rfl, hn⟩ := hn)
   obtain ⟨hb, hq, hi, hj, hC⟩ := hF; refine wpOp_step (o := ls1o12) rfl (fun K hK => ?_); replace hK := hid hK; simp only [ls1o12, ls1T, sel_t, sel_f]
   go_simp
   exact hK.out _ _ (ls1M uu rfl rfl ⟨hb, hq, hi, hj, hC⟩)
 · obtain rfl : ls1o13 = o := Option.some.inj ho
   obtain rfl : b13 = false := h0
   have hn := wP9 (o := ls1o13) hC h1 [(12, none), (11, some 12)] [] nk rfl; repeat (obtain ⟨rfl, hn⟩ := hn)
   have hn := wN9 hC (i := 13) rfl [(14, 13), (16, 14), (17, 16), (18, 17), (19, 18), (20, 13)] [] nk rfl; repeat (obtain ⟨rfl, hn⟩ := hn)
   obtain ⟨hb, hq, hi, hj, hC⟩ := hF; refine wpOp_step (o := ls1o13) rfl (fun K hK => ?_); replace hK := hid hK; simp only [ls1o13, ls1T, sel_t, sel_f]
   go_simp
   exact hK.out _ _ (ls1M uu rfl rfl ⟨hb, hq, hi, hj, hC⟩)
 · obtain rfl : ls1o14 = o := Option.some.inj ho
   obtain rfl : b14 = false := h0
   have hn := wP9 (o := ls1o14) hC h1 [(13, none), (12, some 13), (11, some 12)] [] nk rfl; repeat (obtain ⟨rfl, hn⟩ := hn)
   have hn := wN9 hC (i := 14) rfl [(16, 14), (17, 16), (18, 17), (19, 18), (20, 14)] [] nk rfl; repeat (obtain ⟨rfl, hn⟩ := hn)
   obtain ⟨hb, hq, hi, hj, hC⟩ := hF; have c2 := (hq.below hb hq.lt).cell 1; refine wpOp_step (o := ls1o14) rfl (fun K hK => ?_); replace hK := hid hK; simp only [ls1o14, ls1T, sel_t, sel_f]
   go_simp
   exact hK.out _ _ (ls1M uu rfl rfl ⟨hb, hq, hi, hj, hC⟩)
 · obtain rfl : ls1o15 = o := Option.some.inj ho
   obtain rfl : b15 = false := h0
   have hn := wN9 hC (i := 15) rfl [(16, 15), (17, 16), (18, 17), (19, 18), (20, 15)] [] nk rfl; repeat (obtain ⟨rfl, hn⟩ := hn)
   obtain ⟨hb, hq, hi, hj, hC⟩ := hF; refine wpOp_step (o := ls1o15) rfl (fun K hK => ?_); replace hK := hid hK; simp only [ls1o15, ls1T, sel_f]
   go_simp
   exact hK.out _ _ (ls1M uu rfl rfl ⟨hb, hq, hi, hj, hC⟩)
 · obtain rfl : ls1o16 = o := Option.some.inj ho
   obtain rfl : b16 = false := h0
   have hn := wP9 (o := ls1o16) hC h1 [(15, none), (14, none), (13, some 14), (12, some 13), (11, some 12)] [] nk rfl; repeat (obtain ⟨rfl, hn⟩ := hn)
   have hn := wN9 hC (i := 16) rfl [(17, 16), (18, 17), (19, 18), (20, 16)] [] nk rfl; repeat (obtain ⟨rfl, hn⟩ := hn)
   obtain ⟨hb, hq, hi, hj, hC⟩ := hF; have r1 : (P.JS : Int) < (P.NI : Int) := by have := hj.2; omega
   refine wpOp_step (o := ls1o16) rfl (fun K hK => ?_); replace hK := hid hK; simp only [ls1o16, ls1T, sel_t, sel_f]
   go_simp
   exact hK.out _ _ (ls1M uu rfl rfl ⟨hb, hq, hi, hj, hC⟩)
 · obtain rfl : ls1o17 = o := Option.some.inj ho
   obtain rfl : b17 = false := h0
   have hn := wP9 (o := ls1o17) hC h1 [(16, none), (14, some 16), (15, some 16), (13, some 14), (12, some 13), (11, some 12)] [] nk rfl; repeat (obtain ⟨rfl, hn⟩ := hn)
   have hn := wN9 hC (i := 17) rfl [(18, 17), (19, 18), (20, 17)] [] nk rfl; repeat (obtain ⟨rfl, hn⟩ := hn)
   obtain ⟨hb, hq, hi, hj, hC⟩ := hF; have c2 := (hb.cell (p := ⟨P.GI, P.JS, none⟩) hi.2.2).trans hj.1; refine wpOp_step (o := ls1o17) rfl (fun K hK => ?_); replace hK := hid hK; simp only [ls1o17, ls1T, sel_t, sel_f]
   go_simp
   exact hK.out _ _ (ls1M uu rfl rfl ⟨hb, hq, hi, hj, hC⟩)
 · obtain rfl : ls1o18 = o := Option.some.inj ho
   obtain rfl : b18 = false := h0
   have hn := wP9 (o := ls1o18) hC h1 [(17, none), (10, none), (3, none), (16, some 17), (14, some 16), (15, some 16), (13, some 14), (12, some 13), (11, some 12), (9, some 10), (7, some 9), (8, some 9), (6, some 7), (5, some 6), (4, some 5), (2, some 3), (1, some 2), (0, some 1)] [] nk rfl; repeat (obtain ⟨rfl, hn⟩ := hn)
   have hn := wN9 hC (i := 18) rfl [(19, 18), (20, 18)] [] nk rfl; repeat (obtain ⟨rfl, hn⟩ := hn)
   obtain ⟨hb, hq, hi, hj, hC⟩ := hF; refine wpOp_step (o := ls1o18) rfl (fun K hK => ?_); replace hK := hid hK; simp only [ls1o18, ls1T, sel_t, sel_f]
   go_simp
   refine (hC _ hb).mono ?_
   rintro e w2 ⟨rfl, hb2⟩
   dsimp only; exact hK.out _ _ (ls1M uu rfl rfl ⟨hb.trans (hb2.mono hb.size), hq, hi, hj, hC⟩)
 · obtain rfl : ls1o19 = o := Option.some.inj ho
   obtain rfl : b19 = false := h0
   have hn := wP9 (o := ls1o19) hC h1 [(18, none), (3, some 18), (10, some 18), (17, some 18), (16, some 17), (14, some 16), (15, some 16), (13, some 14), (12, some 13), (11, some 12), (9, some 10), (7, some 9), (8, some 9), (6, some 7), (5, some 6), (4, some 5), (2, some 3), (1, some 2), (0, some 1)] [] nk rfl; repeat (obtain ⟨rfl, hn⟩ := hn)
   have hn := wN9 hC (i := 19) rfl [(20, 19)] [] nk rfl; repeat (obtain ⟨rfl, hn⟩ := hn)
   obtain ⟨hb, hq, hi, hj, hC⟩ := hF; refine wpOp_step (o := ls1o19) rfl (fun K hK => ?_); replace hK := hid hK; simp only [ls1o19, ls1T, sel_t, sel_f]
   go_simp
   exact hK.out _ _ (ls1M uu rfl rfl ⟨hb, hq, hi, hj, hC⟩)
 · obtain rfl : ls1o20 = o := Option.some.inj ho
   obtain rfl : b20 = false := h0
   have hn := wP9 (o := ls1o20) hC h1 [(19, none), (18, none), (17, none), (16, none), (15, none), (14, none), (13, none), (12, none), (11, none), (10, none), (9, none), (8, none), (7, none), (6, none), (5, none), (4, none), (3, none), (2, none), (1, none), (0, none)] [] nk rfl; repeat (obtain ⟨rfl, hn⟩ := hn)
   obtain ⟨hb, hq, hi, hj, hC⟩ := hF; refine wpOp_step (o := ls1o20) rfl (fun K hK => ?_); replace hK := hid hK; simp only [ls1o20, ls1T, sel_t, sel_f]
   go_simp
   exact hK.out _ _ (ls1M uu rfl rfl ⟨hb, hq, hi, hj, hC⟩)
set_option maxRecDepth 20000 in
set_option maxHeartbeats 4000000 in
theorem ls1_wp {Q : Exit → Act → World → Prop} {rid : Nat} (W1 : World) (QB GI NI CI IS JS BI BJ : Nat) (zz : Int) {s3 s4 s5 s6 s7 s8 s9 s10 s11 s12 s13 s14 s15 s16 s17 s18 s19 s20 s21 s22 s23 s24 s25 s26 : Value} (w : World) (hb : Below W1.heap.size W1 w) (hq : RA W1 QB 109 #[.func (.func 69) #[] #[], .slice (some ⟨GI, 0, none⟩) NI CI]) (hi : W1.cell? ⟨GI, IS, none⟩ = some (.pointer (some ⟨BI, 0, none⟩)) ∧ IS < NI ∧ GI < W1.heap.size) (hj : W1.cell? ⟨GI, JS, none⟩ = some (.pointer (some ⟨BJ, 0, none⟩)) ∧ JS < NI) (hC : ∀ wx : World, Below W1.heap.size W1 wx → Calls Tryz.prog 69 #[.pointer (some ⟨BI, 0, none⟩), .pointer (some ⟨BJ, 0, none⟩)] wx fun e w' => e = .returned (.int .i64 zz) ∧ Below wx.heap.size wx w')
 (fin : ∀ (uu : Nat) (w' : World), (Below W1.heap.size W1 w') → (RA W1 QB 109 #[.func (.func 69) #[] #[], .slice (some ⟨GI, 0, none⟩) NI CI]) → (W1.cell? ⟨GI, IS, none⟩ = some (.pointer (some ⟨BI, 0, none⟩)) ∧ IS < NI ∧ GI < W1.heap.size) → (W1.cell? ⟨GI, JS, none⟩ = some (.pointer (some ⟨BJ, 0, none⟩)) ∧ JS < NI) → (∀ wx : World, Below W1.heap.size W1 wx → Calls Tryz.prog 69 #[.pointer (some ⟨BI, 0, none⟩), .pointer (some ⟨BJ, 0, none⟩)] wx fun e w' => e = .returned (.int .i64 zz) ∧ Below wx.heap.size wx w') → Q .normal { tmps := #[.pointer (some ⟨QB, 0, none⟩), .int .i64 (IS : Int), .int .i64 (JS : Int), s3, s4, s5, .bool (decide (zz < 0)), .pointer (some ⟨QB, 0, none⟩), .pointer (some ⟨QB, 0, none⟩), .pointer (some ⟨QB, 0, none⟩), .func (.func 69) #[] #[], .pointer (some ⟨QB, 0, none⟩), .pointer (some ⟨QB, 0, none⟩), .pointer (some ⟨QB, 1, none⟩), .slice (some ⟨GI, 0, none⟩) NI CI, .int .i64 (IS : Int), .pointer (some ⟨GI, IS, none⟩), .pointer (some ⟨BI, 0, none⟩), .pointer (some ⟨QB, 0, none⟩), .pointer (some ⟨QB, 0, none⟩), .pointer (some ⟨QB, 1, none⟩), .slice (some ⟨GI, 0, none⟩) NI CI, .int .i64 (JS : Int), .pointer (some ⟨GI, JS, none⟩), .pointer (some ⟨BJ, 0, none⟩), .int .i64 zz, .bool (decide (zz < 0))], defers := [] } w') :
 (Code.region rid ls1O true).wp Tryz.prog Q { tmps := #[.pointer (some ⟨QB, 0, none⟩), .int .i64 (IS : Int), .int .i64 (JS : Int), s3, s4, s5, s6, s7, s8, s9, s10, s11, s12, s13, s14, s15, s16, s17, s18, s19, s20, s21, s22, s23, s24, s25, s26], defers := [] } w := by
 refine wp_region_inv (ops := ls1O) (ls1I ⟨W1, QB, GI, NI, CI, IS, JS, BI, BJ, zz, s3, s4, s5, s6, s7, s8, s9, s10, s11, s12, s13, s14, s15, s16, s17, s18, s19, s20, s21, s22, s23, s24, s25, s26⟩) (by kernel_rfl) (by kernel_rfl) (fun l f v hI => ?_) (fun l f v hC hI i h0 o ho h1 => ls1_step ⟨W1, QB, GI, NI, CI, IS, JS, BI, BJ, zz, s3, s4, s5, s6, s7, s8, s9, s10, s11, s12, s13, s14, s15, s16, s17, s18, s19, s20, s21, s22, s23, s24, s25, s26⟩ l f v hC hI i h0 o ho h1) (fun l f v hI hall => ?_) ?_
 · obtain ⟨_, _, _, _, _, _, _, _, _, _, _, _, _, _, _, _, _, _, _, _, _, _, rfl, _⟩ := hI; rfl
 · obtain ⟨b0, b1, b2, b3, b4, b5, b6, b7, b8, b9, b10, b11, b12, b13, b14, b15, b16, b17, b18, b19, b20, uu, rfl, rfl, hb, hq, hi, hj, hC⟩ := hI
   have hn := allT hall [0, 1, 2, 3, 4, 5, 6, 7, 8, 9, 10, 11, 12, 13, 14, 15, 16, 17, 18, 19, 20] rfl; repeat (obtain ⟨rfl, hn⟩ := hn)
   exact fin uu v hb hq hi hj hC
 · exact ⟨false, false, false, false, false, false, false, false, false, false, false, false, false, false, false, false, false, false, false, false, false, 0, rfl, rfl, hb.drew, hq, hi, hj, hC⟩
def sw0o0 : Oper := ⟨some 6, .move (.tmp 0), 105, "l08_runs.go:190", #[], none⟩
def sw0o1 : Oper := ⟨some 7, .nilCheck (.tmp 6), 0, "l08_runs.go:190", #[⟨0, .data⟩], none⟩
def sw0o2 : Oper := ⟨some 8, .fieldAddr 109 (.tmp 7) 1, 0, "l08_runs.go:190", #[⟨1, .data⟩], none⟩
def sw0o3 : Oper := ⟨some 9, .load 107 (.tmp 8), 107, "l08_runs.go:190", #[⟨2, .data⟩], none⟩
def sw0o4 : Oper := ⟨some 10, .move (.tmp 1), 3, "l08_runs.go:190", #[], none⟩
def sw0o5 : Oper := ⟨some 11, .move (.tmp 0), 105, "l08_runs.go:190", #[], none⟩
def sw0o6 : Oper := ⟨some 12, .nilCheck (.tmp 11), 0, "l08_runs.go:190", #[⟨5, .data⟩], none⟩
def sw0o7 : Oper := ⟨some 13, .fieldAddr 109 (.tmp 12) 1, 0, "l08_runs.go:190", #[⟨6, .data⟩], none⟩
def sw0o8 : Oper := ⟨some 14, .load 107 (.tmp 13), 107, "l08_runs.go:190", #[⟨7, .data⟩], none⟩
def sw0o9 : Oper := ⟨some 15, .move (.tmp 2), 3, "l08_runs.go:190", #[⟨25, .gcOnly .lateStores⟩], none⟩
def sw0o10 : Oper := ⟨some 16, .move (.tmp 0), 105, "l08_runs.go:190", #[], none⟩
def sw0o11 : Oper := ⟨some 17, .nilCheck (.tmp 16), 0, "l08_runs.go:190", #[⟨10, .data⟩], none⟩
def sw0o12 : Oper := ⟨some 18, .fieldAddr 109 (.tmp 17) 1, 0, "l08_runs.go:190", #[⟨11, .data⟩], none⟩
def sw0o13 : Oper := ⟨some 19, .load 107 (.tmp 18), 107, "l08_runs.go:190", #[⟨12, .data⟩], none⟩
def sw0o14 : Oper := ⟨some 20, .move (.tmp 2), 3, "l08_runs.go:190", #[], none⟩
def sw0o15 : Oper := ⟨some 21, .indexAddr 107 (.tmp 19) (.tmp 20), 0, "l08_runs.go:190", #[⟨13, .data⟩, ⟨14, .data⟩], none⟩
def sw0o16 : Oper := ⟨some 22, .load 112 (.tmp 21), 112, "l08_runs.go:190", #[⟨15, .data⟩], none⟩
def sw0o17 : Oper := ⟨some 23, .move (.tmp 0), 105, "l08_runs.go:190", #[], none⟩
def sw0o18 : Oper := ⟨some 24, .nilCheck (.tmp 23), 0, "l08_runs.go:190", #[⟨17, .data⟩], none⟩
def sw0o19 : Oper := ⟨some 25, .fieldAddr 109 (.tmp 24) 1, 0, "l08_runs.go:190", #[⟨18, .data⟩], none⟩
def sw0o20 : Oper := ⟨some 26, .load 107 (.tmp 25), 107, "l08_runs.go:190", #[⟨19, .data⟩], none⟩
def sw0o21 : Oper := ⟨some 27, .move (.tmp 1), 3, "l08_runs.go:190", #[], none⟩
def sw0o22 : Oper := ⟨some 28, .indexAddr 107 (.tmp 26) (.tmp 27), 0, "l08_runs.go:190", #[⟨20, .data⟩, ⟨21, .data⟩], none⟩
def sw0o23 : Oper := ⟨some 29, .load 112 (.tmp 28), 112, "l08_runs.go:190", #[⟨22, .data⟩], none⟩
def sw0o24 : Oper := ⟨some 30, .indexAddr 107 (.tmp 9) (.tmp 10), 0, "l08_runs.go:190", #[⟨3, .data⟩, ⟨4, .data⟩, ⟨0, .phase⟩, ⟨1, .phase⟩, ⟨2, .phase⟩, ⟨3, .phase⟩, ⟨4, .phase⟩, ⟨5, .textOnly .lateStores⟩, ⟨6, .textOnly .lateStoresUnsure⟩, ⟨7, .textOnly .lateStoresUnsure⟩, ⟨8, .phase⟩, ⟨9, .textOnly .lateStores⟩, ⟨10, .phase⟩, ⟨11, .phase⟩, ⟨12, .phase⟩, ⟨13, .phase⟩, ⟨14, .phase⟩, ⟨15, .phase⟩, ⟨16, .phase⟩, ⟨17, .textOnly .lateStores⟩, ⟨18, .textOnly .lateStoresUnsure⟩, ⟨19, .textOnly .lateStoresUnsure⟩, ⟨20, .phase⟩, ⟨21, .textOnly .lateStores⟩, ⟨22, .textOnly .lateStoresUnsure⟩, ⟨23, .phase⟩], none⟩
def sw0o25 : Oper := ⟨none, .store 112 (.tmp 30) (.tmp 22), 0, "l08_runs.go:190", #[⟨24, .data⟩, ⟨16, .data⟩, ⟨0, .phase⟩, ⟨1, .phase⟩, ⟨2, .phase⟩, ⟨3, .phase⟩, ⟨4, .phase⟩, ⟨5, .textOnly .lateStores⟩, ⟨6, .textOnly .lateStoresUnsure⟩, ⟨7, .textOnly .lateStoresUnsure⟩, ⟨8, .phase⟩, ⟨9, .textOnly .lateStores⟩, ⟨10, .phase⟩, ⟨11, .phase⟩, ⟨12, .phase⟩, ⟨13, .phase⟩, ⟨14, .phase⟩, ⟨15, .phase⟩, ⟨16, .phase⟩, ⟨17, .textOnly .lateStores⟩, ⟨18, .textOnly .lateStoresUnsure⟩, ⟨19, .textOnly .lateStoresUnsure⟩, ⟨20, .phase⟩, ⟨21, .textOnly .lateStores⟩, ⟨22, .textOnly .lateStoresUnsure⟩, ⟨23, .phase⟩], none⟩
def sw0o26 : Oper := ⟨some 31, .indexAddr 107 (.tmp 14) (.tmp 15), 0, "l08_runs.go:190", #[⟨8, .data⟩, ⟨9, .data⟩, ⟨0, .phase⟩, ⟨1, .phase⟩, ⟨2, .phase⟩, ⟨3, .phase⟩, ⟨4, .phase⟩, ⟨5, .phase⟩, ⟨6, .phase⟩, ⟨7, .phase⟩, ⟨8, .phase⟩, ⟨9, .phase⟩, ⟨10, .phase⟩, ⟨11, .phase⟩, ⟨12, .phase⟩, ⟨13, .phase⟩, ⟨14, .phase⟩, ⟨15, .phase⟩, ⟨16, .phase⟩, ⟨17, .phase⟩, ⟨18, .phase⟩, ⟨19, .phase⟩, ⟨20, .phase⟩, ⟨21, .phase⟩, ⟨22, .phase⟩, ⟨23, .phase⟩, ⟨24, .phase⟩, ⟨25, .phase⟩], none⟩
def sw0o27 : Oper := ⟨none, .store 112 (.tmp 31) (.tmp 29), 0, "l08_runs.go:190", #[⟨26, .data⟩, ⟨23, .data⟩, ⟨25, .chain⟩, ⟨0, .phase⟩, ⟨1, .phase⟩, ⟨2, .phase⟩, ⟨3, .phase⟩, ⟨4, .phase⟩, ⟨5, .phase⟩, ⟨6, .phase⟩, ⟨7, .phase⟩, ⟨8, .phase⟩, ⟨9, .phase⟩, ⟨10, .phase⟩, ⟨11, .phase⟩, ⟨12, .phase⟩, ⟨13, .phase⟩, ⟨14, .phase⟩, ⟨15, .phase⟩, ⟨16, .phase⟩, ⟨17, .phase⟩, ⟨18, .phase⟩, ⟨19, .phase⟩, ⟨20, .phase⟩, ⟨21, .phase⟩, ⟨22, .phase⟩, ⟨23, .phase⟩, ⟨24, .phase⟩, ⟨25, .phase⟩], none⟩
def sw0O : Array Oper := #[sw0o0, sw0o1, sw0o2, sw0o3, sw0o4, sw0o5, sw0o6, sw0o7, sw0o8, sw0o9, sw0o10, sw0o11, sw0o12, sw0o13, sw0o14, sw0o15, sw0o16, sw0o17, sw0o18, sw0o19, sw0o20, sw0o21, sw0o22, sw0o23, sw0o24, sw0o25, sw0o26, sw0o27]
structure sw0P where
 (W1 : World)
 (QB GI NI CI IS JS BI BJ : Nat)
 (fS : Nat → Value)
 (vC : Value)
 (s3 s4 s5 s6 s7 s8 s9 s10 s11 s12 s13 s14 s15 s16 s17 s18 s19 s20 s21 s22 s23 s24 s25 s26 s27 s28 s29 s30 s31 : Value)
def sw0T (P : sw0P) (uu : Nat) (b0 b1 b2 b3 b4 b5 b6 b7 b8 b9 b10 b11 b12 b13 b14 b15 b16 b17 b18 b19 b20 b21 b22 b23 b24 b25 b26 b27 : Bool) : Array Value := #[.pointer (some ⟨P.QB, 0, none⟩), .int .i64 (P.IS : Int), .int .i64 (P.JS : Int), P.s3, P.s4, P.s5, sel b0 (.pointer (some ⟨P.QB, 0, none⟩)) (P.s6), sel b1 (.pointer (some ⟨P.QB, 0, none⟩)) (P.s7), sel b2 (.pointer (some ⟨P.QB, 1, none⟩)) (P.s8), sel b3 (.slice (some ⟨P.GI, 0, none⟩) P.NI P.CI) (P.s9), sel b4 (.int .i64 (P.IS : Int)) (P.s10), sel b5 (.pointer (some ⟨P.QB, 0, none⟩)) (P.s11), sel b6 (.pointer (some ⟨P.QB, 0, none⟩)) (P.s12), sel b7 (.pointer (some ⟨P.QB, 1, none⟩)) (P.s13), sel b8 (.slice (some ⟨P.GI, 0, none⟩) P.NI P.CI) (P.s14), sel b9 (.int .i64 (P.JS : Int)) (P.s15), sel b10 (.pointer (some ⟨P.QB, 0, none⟩)) (P.s16), sel b11 (.pointer (some ⟨P.QB, 0, none⟩)) (P.s17), sel b12 (.pointer (some ⟨P.QB, 1, none⟩)) (P.s18), sel b13 (.slice (some ⟨P.GI, 0, none⟩) P.NI P.CI) (P.s19), sel b14 (.int .i64 (P.JS : Int)) (P.s20), sel b15 (.pointer (some ⟨P.GI, P.JS, none⟩)) (P.s21), sel b16 (.pointer (some ⟨P.BJ, 0, none⟩)) (P.s22), sel b17 (.pointer (some ⟨P.QB, 0, none⟩)) (P.s23), sel b18 (.pointer (some ⟨P.QB, 0, none⟩)) (P.s24), sel b19 (.pointer (some ⟨P.QB, 1, none⟩)) (P.s25), sel b20 (.slice (some ⟨P.GI, 0, none⟩) P.NI P.CI) (P.s26), sel b21 (.int .i64 (P.IS : Int)) (P.s27), sel b22 (.pointer (some ⟨P.GI, P.IS, none⟩)) (P.s28), sel b23 (.pointer (some ⟨P.BI, 0, none⟩)) (P.s29), sel b24 (.pointer (some ⟨P.GI, P.IS, none⟩)) (P.s30), sel b26 (.pointer (some ⟨P.GI, P.JS, none⟩)) (P.s31)]
def sw0F (P : sw0P) (uu : Nat) (b0 b1 b2 b3 b4 b5 b6 b7 b8 b9 b10 b11 b12 b13 b14 b15 b16 b17 b18 b19 b20 b21 b22 b23 b24 b25 b26 b27 : Bool) (w : World) : Prop := (P.W1.grownBy w (some P.GI)) ∧ (RA w P.QB 109 #[P.vC, .slice (some ⟨P.GI, 0, none⟩) P.NI P.CI]) ∧ (FRow w P.GI 112 P.CI (cond b27 (putF (putF P.fS P.IS (.pointer (some ⟨P.BJ, 0, none⟩))) P.JS (.pointer (some ⟨P.BI, 0, none⟩))) (cond b25 (putF P.fS P.IS (.pointer (some ⟨P.BJ, 0, none⟩))) P.fS))) ∧ (P.IS < P.NI ∧ P.JS < P.NI ∧ P.NI ≤ P.CI ∧ P.QB ≠ P.GI ∧ P.fS P.IS = .pointer (some ⟨P.BI, 0, none⟩) ∧ P.fS P.JS = .pointer (some ⟨P.BJ, 0, none⟩))
def sw0I (P : sw0P) (l : Array Bool) (f : Act) (w : World) : Prop :=
 ∃ (b0 b1 b2 b3 b4 b5 b6 b7 b8 b9 b10 b11 b12 b13 b14 b15 b16 b17 b18 b19 b20 b21 b22 b23 b24 b25 b26 b27 : Bool) (uu : Nat), l = #[b0, b1, b2, b3, b4, b5, b6, b7, b8, b9, b10, b11, b12, b13, b14, b15, b16, b17, b18, b19, b20, b21, b22, b23, b24, b25, b26, b27] ∧ f = { tmps := sw0T P uu b0 b1 b2 b3 b4 b5 b6 b7 b8 b9 b10 b11 b12 b13 b14 b15 b16 b17 b18 b19 b20 b21 b22 b23 b24 b25 b26 b27, defers := [] } ∧ sw0F P uu b0 b1 b2 b3 b4 b5 b6 b7 b8 b9 b10 b11 b12 b13 b14 b15 b16 b17 b18 b19 b20 b21 b22 b23 b24 b25 b26 b27 w
theorem sw0M {P : sw0P} {b0 b1 b2 b3 b4 b5 b6 b7 b8 b9 b10 b11 b12 b13 b14 b15 b16 b17 b18 b19 b20 b21 b22 b23 b24 b25 b26 b27 : Bool} (uu : Nat) {l : Array Bool} {f : Act} {w : World} (hl : l = #[b0, b1, b2, b3, b4, b5, b6, b7, b8, b9, b10, b11, b12, b13, b14, b15, b16, b17, b18, b19, b20, b21, b22, b23, b24, b25, b26, b27]) (hf : f = { tmps := sw0T P uu b0 b1 b2 b3 b4 b5 b6 b7 b8 b9 b10 b11 b12 b13 b14 b15 b16 b17 b18 b19 b20 b21 b22 b23 b24 b25 b26 b27, defers := [] }) (h : sw0F P uu b0 b1 b2 b3 b4 b5 b6 b7 b8 b9 b10 b11 b12 b13 b14 b15 b16 b17 b18 b19 b20 b21 b22 b23 b24 b25 b26 b27 w) : sw0I P l f w := ⟨b0, b1, b2, b3, b4, b5, b6, b7, b8, b9, b10, b11, b12, b13, b14, b15, b16, b17, b18, b19, b20, b21, b22, b23, b24, b25, b26, b27, uu, hl, hf, h⟩
set_option maxRecDepth 20000 in
set_option maxHeartbeats 20000000 in
theorem sw0_step {Q : Exit → Act → World → Prop} (P : sw0P) (l : Array Bool) (f : Act) (w : World) (hC : Closed sw0O l) (hI : sw0I P l f w) (i : Nat) (h0 : l.getD i true = false) (o : Oper) (ho : sw0O[i]? = some o) (h1 : ∀ e ∈ o.after, Region.binds .any e = true → l.getD e.on false = true) : wpOp Tryz.prog sw0O Q i (sw0I P (l.setIfInBounds i true)) f w := by
 obtain ⟨b0, b1, b2, b3, b4, b5, b6, b7, b8, b9, b10, b11, b12, b13, b14, b15, b16, b17, b18, b19, b20, b21, b22, b23, b24, b25, b26, b27, uu, rfl, rfl, hF⟩ := hI
 have hi : i < 28 := by
  rcases Nat.lt_or_ge i 28 with h | h
  · exact h
  · rw [show sw0O[i]? = none from Array.getElem?_eq_none h] at ho; cases ho
 rcases (by omega : i = 0 ∨ i = 1 ∨ i = 2 ∨ i = 3 ∨ i = 4 ∨ i = 5 ∨ i = 6 ∨ i = 7 ∨ i = 8 ∨ i = 9 ∨ i = 10 ∨ i = 11 ∨ i = 12 ∨ i = 13 ∨ i = 14 ∨ i = 15 ∨ i = 16 ∨ i = 17 ∨ i = 18 ∨ i = 19 ∨ i = 20 ∨ i = 21 ∨ i = 22 ∨ i = 23 ∨ i = 24 ∨ i = 25 ∨ i = 26 ∨ i = 27) with rfl | rfl | rfl | rfl | rfl | rfl | rfl | rfl | rfl | rfl | rfl | rfl | rfl | rfl | rfl | rfl | rfl | rfl | rfl | rfl | rfl | rfl | rfl | rfl | rfl | rfl | rfl | rfl
 · obtain rfl : sw0o0 = o := Option.some.inj ho
   obtain rfl : b0 = false := h0
   have hn := wN9 hC (i := 0) rfl [(1, 0), (2, 1), (3, 2), (24, 0), (25, 0), (26, 0), (27, 0)] [] nk rfl; repeat (obtain ⟨rfl, hn⟩ := hn)
   obtain ⟨hg, hq, hf, hk⟩ := hF; refine wpOp_step (o := sw0o0) rfl (fun K hK => ?_); replace hK := hid hK; simp only [sw0o0, sw0T, sel_f]
   go_simp
   exact hK.out _ _ (sw0M uu rfl rfl ⟨hg, hq, hf, hk⟩)
 · obtain rfl : sw0o1 = o := Option.some.inj ho
   obtain rfl : b1 = false := h0
   have hn := wP9 (o := sw0o1) hC h1 [(0, none)] [] nk rfl; repeat (obtain ⟨rfl, hn⟩ := hn)
   have hn := wN9 hC (i := 1) rfl [(2, 1), (3, 2), (24, 1), (25, 1), (26, 1), (27, 1)] [] nk rfl; repeat (obtain ⟨rfl, hn⟩ := hn)
   obtain ⟨hg, hq, hf, hk⟩ := hF; refine wpOp_step (o := sw0o1) rfl (fun K hK => ?_); replace hK := hid hK; simp only [sw0o1, sw0T, sel_t, sel_f]
   go_simp
   exact hK.out _ _ (sw0M uu rfl rfl ⟨hg, hq, hf, hk⟩)
 · obtain rfl : sw0o2 = o := Option.some.inj ho
   obtain rfl : b2 = false := h0
   have hn := wP9 (o := sw0o2) hC h1 [(1, none), (0, some 1)] [] nk rfl; repeat (obtain ⟨rfl, hn⟩ := hn)
   have hn := wN9 hC (i := 2) rfl [(3, 2), (24, 2), (25, 2), (26, 2), (27, 2)] [] nk rfl; repeat (obtain ⟨rfl, hn⟩ := hn)
   obtain ⟨hg, hq, hf, hk⟩ := hF; refine wpOp_step (o := sw0o2) rfl (fun K hK => ?_); replace hK := hid hK; simp only [sw0o2, sw0T, sel_t, sel_f]
   go_simp
   exact hK.out _ _ (sw0M uu rfl rfl ⟨hg, hq, hf, hk⟩)
 · obtain rfl : sw0o3 = o := Option.some.inj ho
   obtain rfl : b3 = false := h0
   have hn := wP9 (o := sw0o3) hC h1 [(2, none), (1, some 2), (0, some 1)] [] nk rfl; repeat (obtain ⟨rfl, hn⟩ := hn)
   have hn := wN9 hC (i := 3) rfl [(24, 3), (25, 3), (26, 3), (27, 3)] [] nk rfl; repeat (obtain ⟨rfl, hn⟩ := hn)
   obtain ⟨hg, hq, hf, hk⟩ := hF; have c2 := hq.cell 1; refine wpOp_step (o := sw0o3) rfl (fun K hK => ?_); replace hK := hid hK; simp only [sw0o3, sw0T, sel_t, sel_f]
   go_simp
   exact hK.out _ _ (sw0M uu rfl rfl ⟨hg, hq, hf, hk⟩)
 · obtain rfl : sw0o4 = o := Option.some.inj ho
   obtain rfl : b4 = false := h0
   have hn := wN9 hC (i := 4) rfl [(24, 4), (25, 4), (26, 4), (27, 4)] [] nk rfl; repeat (obtain ⟨rfl, hn⟩ := hn)
   obtain ⟨hg, hq, hf, hk⟩ := hF; refine wpOp_step (o := sw0o4) rfl (fun K hK => ?_); replace hK := hid hK; simp only [sw0o4, sw0T, sel_f]
   go_simp
   exact hK.out _ _ (sw0M uu rfl rfl ⟨hg, hq, hf, hk⟩)
 · obtain rfl : sw0o5 = o := Option.some.inj ho
   obtain rfl : b5 = false := h0
   have hn := wN9 hC (i := 5) rfl [(6, 5), (7, 6), (8, 7), (24, 8), (25, 8), (26, 5), (27, 5)] [] nk rfl; repeat (obtain ⟨rfl, hn⟩ := hn)
   obtain ⟨hg, hq, hf, hk⟩ := hF; refine wpOp_step (o := sw0o5) rfl (fun K hK => ?_); replace hK := hid hK; simp only [sw0o5, sw0T, sel_f]
   go_simp
   exact hK.out _ _ (sw0M uu rfl rfl ⟨hg, hq, hf, hk⟩)
 · obtain rfl : sw0o6 = o := Option.some.inj ho
   obtain rfl : b6 = false := h0
   have hn := wP9 (o := sw0o6) hC h1 [(5, none)] [] nk rfl; repeat (obtain ⟨rfl, hn⟩ := hn)
   have hn := wN9 hC (i := 6) rfl [(7, 6), (8, 7), (24, 8), (25, 8), (26, 6), (27, 6)] [] nk rfl; repeat (obtain ⟨rfl, hn⟩ := hn)
   obtain ⟨hg, hq, hf, hk⟩ := hF; refine wpOp_step (o := sw0o6) rfl (fun K hK => ?_); replace hK := hid hK; simp only [sw0o6, sw0T, sel_t, sel_f]
   go_simp
   exact hK.out _ _ (sw0M uu rfl rfl ⟨hg, hq, hf, hk⟩)
 · obtain rfl : sw0o7 = o := Option.some.inj ho
   obtain rfl : b7 = false := h0
   have hn := wP9 (o := sw0o7) hC h1 [(6, none), (5, some 6)] [] nk rfl; repeat (obtain ⟨rfl, hn⟩ := hn)
   have hn := wN9 hC (i := 7) rfl [(8, 7), (24, 8), (25, 8), (26, 7), (27, 7)] [] nk rfl; repeat (obtain ⟨rfl, hn⟩ := hn)
   obtain ⟨hg, hq, hf, hk⟩ := hF; refine wpOp_step (o := sw0o7) rfl (fun K hK => ?_); replace hK := hid hK; simp only [sw0o7, sw0T, sel_t, sel_f]
   go_simp
   exact hK.out _ _ (sw0M uu rfl rfl ⟨hg, hq, hf, hk⟩)
 · obtain rfl : sw0o8 = o := Option.some.inj ho
   obtain rfl : b8 = false := h0
   have hn := wP9 (o := sw0o8) hC h1 [(7, none), (6, some 7), (5, some 6)] [] nk rfl; repeat (obtain ⟨rfl, hn⟩ := hn)
   have hn := wN9 hC (i := 8) rfl [(24, 8), (25, 8), (26, 8), (27, 8)] [] nk rfl; repeat (obtain ⟨rfl, hn⟩ := hn)
   obtain ⟨hg, hq, hf, hk⟩ := hF; have c2 := hq.cell 1; refine wpOp_step (o := sw0o8) rfl (fun K hK => ?_); replace hK := hid hK; simp only [sw0o8, sw0T, sel_t, sel_f]
   go_simp
   exact hK.out _ _ (sw0M uu rfl rfl ⟨hg, hq, hf, hk⟩)
 · obtain rfl : sw0o9 = o := Option.some.inj ho
   obtain rfl : b9 = false := h0
   have hn := wN9 hC (i := 9) rfl [(26, 9), (27, 9)] [] nk rfl; repeat (obtain ⟨rfl, hn⟩ := hn)
   obtain ⟨hg, hq, hf, hk⟩ := hF; refine wpOp_step (o := sw0o9) rfl (fun K hK => ?_); replace hK := hid hK; simp only [sw0o9, sw0T, sel_f]
   go_simp
   exact hK.out _ _ (sw0M uu rfl rfl ⟨hg, hq, hf, hk⟩)
 · obtain rfl : sw0o10 = o := Option.some.inj ho
   obtain rfl : b10 = false := h0
   have hn := wN9 hC (i := 10) rfl [(11, 10), (12, 11), (13, 12), (15, 13), (16, 15), (24, 10), (25, 10), (26, 10), (27, 10)] [] nk rfl; repeat (obtain ⟨rfl, hn⟩ := hn)
   obtain ⟨hg, hq, hf, hk⟩ := hF; refine wpOp_step (o := sw0o10) rfl (fun K hK => ?_); replace hK := hid hK; simp only [sw0o10, sw0T, sel_f]
   go_simp
   exact hK.out _ _ (sw0M uu rfl rfl ⟨hg, hq, hf, hk⟩)
 · obtain rfl : sw0o11 = o := Option.some.inj ho
   obtain rfl : b11 = false := h0
   have hn := wP9 (o := sw0o11) hC h1 [(10, none)] [] nk rfl; repeat (obtain ⟨rfl, hn⟩ := hn)
   have hn := wN9 hC (i := 11) rfl [(12, 11), (13, 12), (15, 13), (16, 15), (24, 11), (25, 11), (26, 11), (27, 11)] [] nk rfl; repeat (obtain ⟨rfl, hn⟩ := hn)
   obtain ⟨hg, hq, hf, hk⟩ := hF; refine wpOp_step (o := sw0o11) rfl (fun K hK => ?_); replace hK := hid hK; simp only [sw0o11, sw0T, sel_t, sel_f]
   go_simp
   exact hK.out _ _ (sw0M uu rfl rfl ⟨hg, hq, hf, hk⟩)
 · obtain rfl : sw0o12 = o := Option.some.inj ho
   obtain rfl : b12 = false := h0
   have hn := wP9 (o := sw0o12) hC h1 [(11, none), (10, some 11)] [] nk rfl; repeat (obtain ⟨rfl, hn⟩ := hn)
   have hn := wN9 hC (i := 12) rfl [(13, 12), (15, 13), (16, 15), (24, 12), (25, 12), (26, 12), (27, 12)] [] nk rfl; repeat (obtain ⟨rfl, hn⟩ := hn)
   obtain ⟨hg, hq, hf, hk⟩ := hF; refine wpOp_step (o := sw0o12) rfl (fun K hK => ?_); replace hK := hid hK; simp only [sw0o12, sw0T, sel_t, sel_f]
   go_simp
   exact hK.out _ _ (sw0M uu rfl rfl ⟨hg, hq, hf, hk⟩)
 · obtain rfl : sw0o13 = o := Option.some.inj ho
   obtain rfl : b13 = false := h0
   have hn := wP9 (o := sw0o13) hC h1 [(12, none), (11, some 12), (10, some 11)] [] nk rfl; repeat (obtain ⟨rfl, hn⟩ := hn)
   have hn := wN9 hC (i := 13) rfl [(15, 13), (16, 15), (24, 13), (25, 13), (26, 13), (27, 13)] [] nk rfl; repeat (obtain ⟨rfl, hn⟩ := hn)
   obtain ⟨hg, hq, hf, hk⟩ := hF; have c2 := hq.cell 1; refine wpOp_step (o := sw0o13) rfl (fun K hK => ?_); replace hK := hid hK; simp only [sw0o13, sw0T, sel_t, sel_f]
   go_simp
   exact hK.out _ _ (sw0M uu rfl rfl ⟨hg, hq, hf, hk⟩)
 · obtain rfl : sw0o14 = o := Option.some.inj ho
   obtain rfl : b14 = false := h0
   have hn := wN9 hC (i := 14) rfl [(15, 14), (16, 15), (24, 14), (25, 14), (26, 14), (27, 14)] [] nk rfl; repeat (obtain ⟨rfl, hn⟩ := hn)
   obtain ⟨hg, hq, hf, hk⟩ := hF; refine wpOp_step (o := sw0o14) rfl (fun K hK => ?_); replace hK := hid hK; simp only [sw0o14, sw0T, sel_f]
   go_simp
   exact hK.out _ _ (sw0M uu rfl rfl ⟨hg, hq, hf, hk⟩)
 · obtain rfl : sw0o15 = o := Option.some.inj ho
   obtain rfl : b15 = false := h0
   have hn := wP9 (o := sw0o15) hC h1 [(14, none), (13, none), (12, some 13), (11, some 12), (10, some 11)] [] nk rfl; repeat (obtain ⟨rfl, hn⟩ := hn)
   have hn := wN9 hC (i := 15) rfl [(16, 15), (24, 15), (25, 15), (26, 15), (27, 15)] [] nk rfl; repeat (obtain ⟨rfl, hn⟩ := hn)
   obtain ⟨hg, hq, hf, hk⟩ := hF; have r1 : (P.JS : Int) < (P.NI : Int) := by omega
   refine wpOp_step (o := sw0o15) rfl (fun K hK => ?_); replace hK := hid hK; simp only [sw0o15, sw0T, sel_t, sel_f]
   go_simp
   exact hK.out _ _ (sw0M uu rfl rfl ⟨hg, hq, hf, hk⟩)
 · obtain rfl : sw0o16 = o := Option.some.inj ho
   obtain rfl : b16 = false := h0
   have hn := wP9 (o := sw0o16) hC h1 [(15, none), (13, some 15), (14, some 15), (12, some 13), (11, some 12), (10, some 11)] [] nk rfl; repeat (obtain ⟨rfl, hn⟩ := hn)
   have hn := wN9 hC (i := 16) rfl [(24, 16), (25, 16), (26, 16), (27, 16)] [] nk rfl; repeat (obtain ⟨rfl, hn⟩ := hn)
   obtain ⟨hg, hq, hf, hk⟩ := hF; have hf0 : FRow w P.GI 112 P.CI P.fS := hf; have c2 := hf0.at_ P.JS (by omega); rw [hk.2.2.2.2.2] at c2; refine wpOp_step (o := sw0o16) rfl (fun K hK => ?_); replace hK := hid hK; simp only [sw0o16, sw0T, sel_t, sel_f]
   go_simp
   exact hK.out _ _ (sw0M uu rfl rfl ⟨hg, hq, hf, hk⟩)
 · obtain rfl : sw0o17 = o := Option.some.inj ho
   obtain rfl : b17 = false := h0
   have hn := wN9 hC (i := 17) rfl [(18, 17), (19, 18), (20, 19), (22, 20), (23, 22), (24, 20), (25, 20), (26, 17), (27, 17)] [] nk rfl; repeat (obtain ⟨rfl, hn⟩ := hn)
   obtain ⟨hg, hq, hf, hk⟩ := hF; refine wpOp_step (o := sw0o17) rfl (fun K hK => ?_); replace hK := hid hK; simp only [sw0o17, sw0T, sel_f]
   go_simp
   exact hK.out _ _ (sw0M uu rfl rfl ⟨hg, hq, hf, hk⟩)
 · obtain rfl : sw0o18 = o := Option.some.inj ho
   obtain rfl : b18 = false := h0
   have hn := wP9 (o := sw0o18) hC h1 [(17, none)] [] nk rfl; repeat (obtain ⟨rfl, hn⟩ := hn)
   have hn := wN9 hC (i := 18) rfl [(19, 18), (20, 19), (22, 20), (23, 22), (24, 20), (25, 20), (26, 18), (27, 18)] [] nk rfl; repeat (obtain ⟨rfl, hn⟩ := hn)
   obtain ⟨hg, hq, hf, hk⟩ := hF; refine wpOp_step (o := sw0o18) rfl (fun K hK => ?_); replace hK := hid hK; simp only [sw0o18, sw0T, sel_t, sel_f]
   go_simp
   exact hK.out _ _ (sw0M uu rfl rfl ⟨hg, hq, hf, hk⟩)
 · obtain rfl : sw0o19 = o := Option.some.inj ho
   obtain rfl : b19 = false := h0
   have hn := wP9 (o := sw0o19) hC h1 [(18, none), (17, some 18)] [] nk rfl; repeat (obtain ⟨rfl, hn⟩ := hn)
   have hn := wN9 hC (i := 19) rfl [(20, 19), (22, 20), (23, 22), (24, 20), (25, 20), (26, 19), (27, 19)] [] nk rfl; repeat (obtain ⟨rfl, hn⟩ := hn)
   obtain ⟨hg, hq, hf, hk⟩ := hF; refine wpOp_step (o := sw0o19) rfl (fun K hK => ?_); replace hK := hid hK; simp only [sw0o19, sw0T, sel_t, sel_f]
   go_simp
   exact hK.out _ _ (sw0M uu rfl rfl ⟨hg, hq, hf, hk⟩)
 · obtain rfl : sw0o20 = o := Option.some.inj ho
   obtain rfl : b20 = false := h0
   have hn := wP9 (o := sw0o20) hC h1 [(19, none), (18, some 19), (17, some 18)] [] nk rfl; repeat (obtain ⟨rfl, hn⟩ := hn)
   have hn := wN9 hC (i := 20) rfl [(22, 20), (23, 22), (24, 20), (25, 20), (26, 20), (27, 20)] [] nk rfl; repeat (obtain ⟨rfl, hn⟩ := hn)
   obtain ⟨hg, hq, hf, hk⟩ := hF; have c2 := hq.cell 1; refine wpOp_step (o := sw0o20) rfl (fun K hK => ?_); replace hK := hid hK; simp only [sw0o20, sw0T, sel_t, sel_f]
   go_simp
   exact hK.out _ _ (sw0M uu rfl rfl ⟨hg, hq, hf, hk⟩)
 · obtain rfl : sw0o21 = o := Option.some.inj ho
   obtain rfl : b21 = false := h0
   have hn := wN9 hC (i := 21) rfl [(22, 21), (23, 22), (24, 23), (25, 23), (26, 21), (27, 21)] [] nk rfl; repeat (obtain ⟨rfl, hn⟩ := hn)
   obtain ⟨hg, hq, hf, hk⟩ := hF; refine wpOp_step (o := sw0o21) rfl (fun K hK => ?_); replace hK := hid hK; simp only [sw0o21, sw0T, sel_f]
   go_simp
   exact hK.out _ _ (sw0M uu rfl rfl ⟨hg, hq, hf, hk⟩)
 · obtain rfl : sw0o22 = o := Option.some.inj ho
   obtain rfl : b22 = false := h0
   have hn := wP9 (o := sw0o22) hC h1 [(21, none), (20, none), (19, some 20), (18, some 19), (17, some 18)] [] nk rfl; repeat (obtain ⟨rfl, hn⟩ := hn)
   have hn := wN9 hC (i := 22) rfl [(23, 22), (24, 23), (25, 23), (26, 22), (27, 22)] [] nk rfl; repeat (obtain ⟨rfl, hn⟩ := hn)
   obtain ⟨hg, hq, hf, hk⟩ := hF; have r1 : (P.IS : Int) < (P.NI : Int) := by omega
   refine wpOp_step (o := sw0o22) rfl (fun K hK => ?_); replace hK := hid hK; simp only [sw0o22, sw0T, sel_t, sel_f]
   go_simp
   exact hK.out _ _ (sw0M uu rfl rfl ⟨hg, hq, hf, hk⟩)
 · obtain rfl : sw0o23 = o := Option.some.inj ho
   obtain rfl : b23 = false := h0
   have hn := wP9 (o := sw0o23) hC h1 [(22, none), (20, some 22), (21, some 22), (19, some 20), (18, some 19), (17, some 18)] [] nk rfl; repeat (obtain ⟨rfl, hn⟩ := hn)
   have hn := wN9 hC (i := 23) rfl [(24, 23), (25, 23), (26, 23), (27, 23)] [] nk rfl; repeat (obtain ⟨rfl, hn⟩ := hn)
   obtain ⟨hg, hq, hf, hk⟩ := hF; have hf0 : FRow w P.GI 112 P.CI P.fS := hf; have c2 := hf0.at_ P.IS (by omega); rw [hk.2.2.2.2.1] at c2; refine wpOp_step (o := sw0o23) rfl (fun K hK => ?_); replace hK := hid hK; simp only [sw0o23, sw0T, sel_t, sel_f]
   go_simp
   exact hK.out _ _ (sw0M uu rfl rfl ⟨hg, hq, hf, hk⟩)
 · obtain rfl : sw0o24 = o := Option.some.inj ho
   obtain rfl : b24 = false := h0
   have hn := wP9 (o := sw0o24) hC h1 [(23, none), (20, none), (16, none), (15, none), (14, none), (13, none), (12, none), (11, none), (10, none), (8, none), (4, none), (3, none), (2, none), (1, none), (0, none), (22, some 23), (21, some 22), (19, some 20), (18, some 19), (17, some 18), (7, some 8), (6, some 7), (5, some 6)] [] nk rfl; repeat (obtain ⟨rfl, hn⟩ := hn)
   have hn := wN9 hC (i := 24) rfl [(25, 24), (26, 24), (27, 24)] [] nk rfl; repeat (obtain ⟨rfl, hn⟩ := hn)
   obtain ⟨hg, hq, hf, hk⟩ := hF; have r1 : (P.IS : Int) < (P.NI : Int) := by omega
   refine wpOp_step (o := sw0o24) rfl (fun K hK => ?_); replace hK := hid hK; simp only [sw0o24, sw0T, sel_t, sel_f]
   go_simp
   exact hK.out _ _ (sw0M uu rfl rfl ⟨hg, hq, hf, hk⟩)
 · obtain rfl : sw0o25 = o := Option.some.inj ho
   obtain rfl : b25 = false := h0
   have hn := wP9 (o := sw0o25) hC h1 [(24, none), (23, none), (20, none), (16, none), (15, none), (14, none), (13, none), (12, none), (11, none), (10, none), (8, none), (4, none), (3, none), (2, none), (1, none), (0, none), (22, some 23), (21, some 22), (19, some 20), (18, some 19), (17, some 18), (7, some 8), (6, some 7), (5, some 6)] [] nk rfl; repeat (obtain ⟨rfl, hn⟩ := hn)
   have hn := wN9 hC (i := 25) rfl [(26, 25), (27, 25)] [] nk rfl; repeat (obtain ⟨rfl, hn⟩ := hn)
   obtain ⟨hg, hq, hf, hk⟩ := hF; have hf0 : FRow w P.GI 112 P.CI P.fS := hf; have c2 := hf0.at_ P.IS (by omega); have f2 := hf0.free P.IS; refine wpOp_step (o := sw0o25) rfl (fun K hK => ?_); replace hK := hid hK; simp only [sw0o25, sw0T, sel_t, sel_f]
   go_simp
   exact hK.out _ _ (sw0M uu rfl rfl ⟨grown_trans hg (grown_setCellQ _ _ _ _), hq.other _ _ hk.2.2.2.1, hf0.set _ _, hk⟩)
 · obtain rfl : sw0o26 = o := Option.some.inj ho
   obtain rfl : b26 = false := h0
   have hn := wP9 (o := sw0o26) hC h1 [(25, none), (24, none), (23, none), (22, none), (21, none), (20, none), (19, none), (18, none), (17, none), (16, none), (15, none), (14, none), (13, none), (12, none), (11, none), (10, none), (9, none), (8, none), (7, none), (6, none), (5, none), (4, none), (3, none), (2, none), (1, none), (0, none)] [] nk rfl; repeat (obtain ⟨rfl, hn⟩ := hn)
   have hn := wN9 hC (i := 26) rfl [(27, 26)] [] nk rfl; repeat (obtain ⟨rfl, hn⟩ := hn)
   obtain ⟨hg, hq, hf, hk⟩ := hF; have r1 : (P.JS : Int) < (P.NI : Int) := by omega
   refine wpOp_step (o := sw0o26) rfl (fun K hK => ?_); replace hK := hid hK; simp only [sw0o26, sw0T, sel_t, sel_f]
   go_simp
   exact hK.out _ _ (sw0M uu rfl rfl ⟨hg, hq, hf, hk⟩)
 · obtain rfl : sw0o27 = o := Option.some.inj ho
   obtain rfl : b27 = false := h0
   have hn := wP9 (o := sw0o27) hC h1 [(26, none), (25, none), (24, none), (23, none), (22, none), (21, none), (20, none), (19, none), (18, none), (17, none), (16, none), (15, none), (14, none), (13, none), (12, none), (11, none), (10, none), (9, none), (8, none), (7, none), (6, none), (5, none), (4, none), (3, none), (2, none), (1, none), (0, none)] [] nk rfl; repeat (obtain ⟨rfl, hn⟩ := hn)
   obtain ⟨hg, hq, hf, hk⟩ := hF; have hf0 : FRow w P.GI 112 P.CI (putF P.fS P.IS (.pointer (some ⟨P.BJ, 0, none⟩))) := hf; have c2 := hf0.at_ P.JS (by omega); have f2 := hf0.free P.JS; refine wpOp_step (o := sw0o27) rfl (fun K hK => ?_); replace hK := hid hK; simp only [sw0o27, sw0T, sel_t]
   go_simp
   exact hK.out _ _ (sw0M uu rfl rfl ⟨grown_trans hg (grown_setCellQ _ _ _ _), hq.other _ _ hk.2.2.2.1, hf0.set _ _, hk⟩)
set_option maxRecDepth 20000 in
set_option maxHeartbeats 4000000 in
theorem sw0_wp {Q : Exit → Act → World → Prop} {rid : Nat} (W1 : World) (QB GI NI CI IS JS BI BJ : Nat) (fS : Nat → Value) (vC : Value) {s3 s4 s5 s6 s7 s8 s9 s10 s11 s12 s13 s14 s15 s16 s17 s18 s19 s20 s21 s22 s23 s24 s25 s26 s27 s28 s29 s30 s31 : Value} (w : World) (hg : W1.grownBy w (some GI)) (hq : RA w QB 109 #[vC, .slice (some ⟨GI, 0, none⟩) NI CI]) (hf : FRow w GI 112 CI fS) (hk : IS < NI ∧ JS < NI ∧ NI ≤ CI ∧ QB ≠ GI ∧ fS IS = .pointer (some ⟨BI, 0, none⟩) ∧ fS JS = .pointer (some ⟨BJ, 0, none⟩))
 (fin : ∀ (uu : Nat) (w' : World), (W1.grownBy w' (some GI)) → (RA w' QB 109 #[vC, .slice (some ⟨GI, 0, none⟩) NI CI]) → (FRow w' GI 112 CI (putF (putF fS IS (.pointer (some ⟨BJ, 0, none⟩))) JS (.pointer (some ⟨BI, 0, none⟩)))) → (IS < NI ∧ JS < NI ∧ NI ≤ CI ∧ QB ≠ GI ∧ fS IS = .pointer (some ⟨BI, 0, none⟩) ∧ fS JS = .pointer (some ⟨BJ, 0, none⟩)) → Q .normal { tmps := #[.pointer (some ⟨QB, 0, none⟩), .int .i64 (IS : Int), .int .i64 (JS : Int), s3, s4, s5, .pointer (some ⟨QB, 0, none⟩), .pointer (some ⟨QB, 0, none⟩), .pointer (some ⟨QB, 1, none⟩), .slice (some ⟨GI, 0, none⟩) NI CI, .int .i64 (IS : Int), .pointer (some ⟨QB, 0, none⟩), .pointer (some ⟨QB, 0, none⟩), .pointer (some ⟨QB, 1, none⟩), .slice (some ⟨GI, 0, none⟩) NI CI, .int .i64 (JS : Int), .pointer (some ⟨QB, 0, none⟩), .pointer (some ⟨QB, 0, none⟩), .pointer (some ⟨QB, 1, none⟩), .slice (some ⟨GI, 0, none⟩) NI CI, .int .i64 (JS : Int), .pointer (some ⟨GI, JS, none⟩), .pointer (some ⟨BJ, 0, none⟩), .pointer (some ⟨QB, 0, none⟩), .pointer (some ⟨QB, 0, none⟩), .pointer (some ⟨QB, 1, none⟩), .slice (some ⟨GI, 0, none⟩) NI CI, .int .i64 (IS : Int), .pointer (some ⟨GI, IS, none⟩), .pointer (some ⟨BI, 0, none⟩), .pointer (some ⟨GI, IS, none⟩), .pointer (some ⟨GI, JS, none⟩)], defers := [] } w') :
 (Code.region rid sw0O true).wp Tryz.prog Q { tmps := #[.pointer (some ⟨QB, 0, none⟩), .int .i64 (IS : Int), .int .i64 (JS : Int), s3, s4, s5, s6, s7, s8, s9, s10, s11, s12, s13, s14, s15, s16, s17, s18, s19, s20, s21, s22, s23, s24, s25, s26, s27, s28, s29, s30, s31], defers := [] } w := by
 refine wp_region_invG (ops := sw0O) (sw0I ⟨W1, QB, GI, NI, CI, IS, JS, BI, BJ, fS, vC, s3, s4, s5, s6, s7, s8, s9, s10, s11, s12, s13, s14, s15, s16, s17, s18, s19, s20, s21, s22, s23, s24, s25, s26, s27, s28, s29, s30, s31⟩) (by kernel_rfl) (by kernel_rfl) (fun l f v hI => ?_) (fun l f v hC hI i h0 o ho h1 => sw0_step ⟨W1, QB, GI, NI, CI, IS, JS, BI, BJ, fS, vC, s3, s4, s5, s6, s7, s8, s9, s10, s11, s12, s13, s14, s15, s16, s17, s18, s19, s20, s21, s22, s23, s24, s25, s26, s27, s28, s29, s30, s31⟩ l f v hC hI i h0 o ho h1) (fun l f v hI hall => ?_) ?_
 · obtain ⟨_, _, _, _, _, _, _, _, _, _, _, _, _, _, _, _, _, _, _, _, _, _, _, _, _, _, _, _, _, rfl, _⟩ := hI; rfl
 · obtain ⟨b0, b1, b2, b3, b4, b5, b6, b7, b8, b9, b10, b11, b12, b13, b14, b15, b16, b17, b18, b19, b20, b21, b22, b23, b24, b25, b26, b27, uu, rfl, rfl, hg, hq, hf, hk⟩ := hI
   have hn := allT hall [0, 1, 2, 3, 4, 5, 6, 7, 8, 9, 10, 11, 12, 13, 14, 15, 16, 17, 18, 19, 20, 21, 22, 23, 24, 25, 26, 27] rfl; repeat (obtain ⟨rfl, hn⟩ := hn)
   exact fin uu v hg hq hf hk
 · exact ⟨false, false, false, false, false, false, false, false, false, false, false, false, false, false, false, false, false, false, false, false, false, false, false, false, false, false, false, false, 0, rfl, rfl, grown_trans hg (grown_drewQ _ _), hq.drew, hf.drew, hk⟩
end Go.Proofs.YtcbmgpdpjagaoaaGreat
