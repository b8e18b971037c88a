import Derived.Test.YtcbmgpdpjagaoaaGreatQ1
namespace Go.Proofs.YtcbmgpdpjagaoaaGreat
open Go.RowKit
set_option linter.unusedVariables false
def pu0o0 : Oper := ⟨some 4, .move (.tmp 0), 105, "l08_runs.go:194", #[], none⟩
def pu0o1 : Oper := ⟨some 5, .move (.tmp 0), 105, "l08_runs.go:194", #[], none⟩
def pu0o2 : Oper := ⟨some 6, .nilCheck (.tmp 5), 0, "l08_runs.go:194", #[⟨1, .data⟩], none⟩
def pu0o3 : Oper := ⟨some 7, .fieldAddr 109 (.tmp 6) 1, 0, "l08_runs.go:194", #[⟨2, .data⟩], none⟩
def pu0o4 : Oper := ⟨some 8, .load 107 (.tmp 7), 107, "l08_runs.go:194", #[⟨3, .data⟩], none⟩
def pu0o5 : Oper := ⟨some 9, .move (.tmp 1), 20, "l08_runs.go:194", #[], none⟩
def pu0o6 : Oper := ⟨some 10, .typeAssert (.tmp 9) 20 112 false, 112, "l08_runs.go:194", #[⟨5, .data⟩], none⟩
def pu0o7 : Oper := ⟨some 11, .buildSlice 107 1 #[(0, .tmp 10)], 107, "l08_runs.go:194", #[⟨6, .data⟩], none⟩
def pu0o8 : Oper := ⟨some 12, .call { callee := .builtin Builtin.append, args := #[.tmp 8, .tmp 11], argTypes := #[107, 107] }, 107, "l08_runs.go:194", #[⟨4, .data⟩, ⟨7, .data⟩], none⟩
def pu0o9 : Oper := ⟨some 13, .nilCheck (.tmp 4), 0, "l08_runs.go:194", #[⟨0, .data⟩, ⟨0, .phase⟩, ⟨1, .phase⟩, ⟨2, .phase⟩, ⟨3, .phase⟩, ⟨4, .phase⟩, ⟨5, .phase⟩, ⟨6, .phase⟩, ⟨7, .phase⟩, ⟨8, .phase⟩], none⟩
def pu0o10 : Oper := ⟨some 14, .fieldAddr 109 (.tmp 13) 1, 0, "l08_runs.go:194", #[⟨9, .data⟩, ⟨0, .phase⟩, ⟨1, .phase⟩, ⟨2, .phase⟩, ⟨3, .phase⟩, ⟨4, .phase⟩, ⟨5, .phase⟩, ⟨6, .phase⟩, ⟨7, .phase⟩, ⟨8, .phase⟩], none⟩
def pu0o11 : Oper := ⟨none, .store 107 (.tmp 14) (.tmp 12), 0, "l08_runs.go:194", #[⟨10, .data⟩, ⟨8, .data⟩, ⟨8, .chain⟩, ⟨0, .phase⟩, ⟨1, .phase⟩, ⟨2, .phase⟩, ⟨3, .phase⟩, ⟨4, .phase⟩, ⟨5, .phase⟩, ⟨6, .phase⟩, ⟨7, .phase⟩, ⟨8, .phase⟩], none⟩
def pu0O : Array Oper := #[pu0o0, pu0o1, pu0o2, pu0o3, pu0o4, pu0o5, pu0o6, pu0o7, pu0o8, pu0o9, pu0o10, pu0o11]
structure pu0P where
 (W0 W1 : World)
 (QB BX nS cS : Nat)
 (aS : Option Addr)
 (LS : List Nat)
 (vC : Value)
 (s2 s3 s4 s5 s6 s7 s8 s9 s10 s11 s12 s13 s14 : Value)
def pu0T (P : pu0P) (X7 : Nat) (G : Nat) (CP : Nat) (b0 b1 b2 b3 b4 b5 b6 b7 b8 b9 b10 b11 : Bool) : Array Value := #[.pointer (some ⟨P.QB, 0, none⟩), .iface 112 (.pointer (some ⟨P.BX, 0, none⟩)), P.s2, P.s3, sel b0 (.pointer (some ⟨P.QB, 0, none⟩)) (P.s4), sel b1 (.pointer (some ⟨P.QB, 0, none⟩)) (P.s5), sel b2 (.pointer (some ⟨P.QB, 0, none⟩)) (P.s6), sel b3 (.pointer (some ⟨P.QB, 1, none⟩)) (P.s7), sel b4 (.slice P.aS P.nS P.cS) (P.s8), sel b5 (.iface 112 (.pointer (some ⟨P.BX, 0, none⟩))) (P.s9), sel b6 (.pointer (some ⟨P.BX, 0, none⟩)) (P.s10), sel b7 (.slice (some ⟨X7, 0, none⟩) 1 1) (P.s11), sel b8 (.slice (some ⟨G, 0, none⟩) (P.nS + 1) CP) (P.s12), sel b9 (.pointer (some ⟨P.QB, 0, none⟩)) (P.s13), sel b10 (.pointer (some ⟨P.QB, 1, none⟩)) (P.s14)]
def pu0F (P : pu0P) (X7 : Nat) (G : Nat) (CP : Nat) (b0 b1 b2 b3 b4 b5 b6 b7 b8 b9 b10 b11 : Bool) (w : World) : Prop := (RQ P.W1 w) ∧ (Below P.W0.heap.size P.W0 w) ∧ (RA w P.QB 109 #[P.vC, cond b11 (.slice (some ⟨G, 0, none⟩) (P.nS + 1) CP) (.slice P.aS P.nS P.cS)]) ∧ (∀ b cs, RA P.W1 b 114 cs → RA w b 114 cs) ∧ (b8 = false → OwnPt w P.W0.heap.size (.slice P.aS P.nS P.cS) P.LS) ∧ (b8 = true → OwnPt w P.W0.heap.size (.slice (some ⟨G, 0, none⟩) (P.nS + 1) CP) (P.LS ++ [P.BX])) ∧ (b7 = true → b8 = false → RA w X7 112 #[.pointer (some ⟨P.BX, 0, none⟩)]) ∧ (P.LS.length = P.nS ∧ P.nS ≤ 1000000 ∧ P.W0.heap.size ≤ P.QB)
def pu0I (P : pu0P) (l : Array Bool) (f : Act) (w : World) : Prop :=
 ∃ (b0 b1 b2 b3 b4 b5 b6 b7 b8 b9 b10 b11 : Bool) (X7 : Nat) (G : Nat) (CP : Nat), l = #[b0, b1, b2, b3, b4, b5, b6, b7, b8, b9, b10, b11] ∧ f = { tmps := pu0T P X7 G CP b0 b1 b2 b3 b4 b5 b6 b7 b8 b9 b10 b11, defers := [] } ∧ pu0F P X7 G CP b0 b1 b2 b3 b4 b5 b6 b7 b8 b9 b10 b11 w
theorem pu0M {P : pu0P} {b0 b1 b2 b3 b4 b5 b6 b7 b8 b9 b10 b11 : Bool} (X7 : Nat) (G : Nat) (CP : Nat) {l : Array Bool} {f : Act} {w : World} (hl : l = #[b0, b1, b2, b3, b4, b5, b6, b7, b8, b9, b10, b11]) (hf : f = { tmps := pu0T P X7 G CP b0 b1 b2 b3 b4 b5 b6 b7 b8 b9 b10 b11, defers := [] }) (h : pu0F P X7 G CP b0 b1 b2 b3 b4 b5 b6 b7 b8 b9 b10 b11 w) : pu0I P l f w := ⟨b0, b1, b2, b3, b4, b5, b6, b7, b8, b9, b10, b11, X7, G, CP, hl, hf, h⟩
set_option maxRecDepth 20000 in
set_option maxHeartbeats 20000000 in
theorem pu0_step {Q : Exit → Act → World → Prop} (P : pu0P) (l : Array Bool) (f : Act) (w : World) (hC : Closed pu0O l) (hI : pu0I P l f w) (i : Nat) (h0 : l.getD i true = false) (o : Oper) (ho : pu0O[i]? = some o) (h1 : ∀ e ∈ o.after, Region.binds .any e = true → l.getD e.on false = true) : wpOp Tryz.prog pu0O Q i (pu0I P (l.setIfInBounds i true)) f w := by
 obtain ⟨b0, b1, b2, b3, b4, b5, b6, b7, b8, b9, b10, b11, X7, G, CP, rfl, rfl, hF⟩ := hI
 have hi : i < 12 := by
  rcases Nat.lt_or_ge i 12 with h | h
  · exact h
  · rw [show pu0O[i]? = none from Array.getElem?_eq_none h] at ho; cases ho
 rcases (by omega : i = 0 ∨ i = 1 ∨ i = 2 ∨ i = 3 ∨ i = 4 ∨ i = 5 ∨ i = 6 ∨ i = 7 ∨ i = 8 ∨ i = 9 ∨ i = 10 ∨ i = 11) with rfl | rfl | rfl | rfl | rfl | rfl | rfl | rfl | rfl | rfl | rfl | rfl
 · obtain rfl : pu0o0 = o := Option.some.inj ho
   obtain rfl : b0 = false := h0
   have hn := wN9 hC (i := 0) rfl [(9, 0), (10, 0), (11, 0)] [] nk rfl; repeat (obtain ⟨rfl, hn⟩ := hn)
   obtain ⟨hg, ho, hq, hc, hO1, hO2, hT, hk⟩ := hF; refine wpOp_step (o := pu0o0) rfl (fun K hK => ?_); replace hK := hid hK; simp only [pu0o0, pu0T, sel_f]
   go_simp
   exact hK.out _ _ (pu0M X7 G CP rfl rfl ⟨hg, ho, hq, hc, hO1, hO2, hT, hk⟩)
 · obtain rfl : pu0o1 = o := Option.some.inj ho
   obtain rfl : b1 = false := h0
   have hn := wN9 hC (i := 1) rfl [(2, 1), (3, 2), (4, 3), (8, 4), (9, 1), (10, 1), (11, 1)] [] nk rfl; repeat (obtain ⟨rfl, hn⟩ := hn)
   obtain ⟨hg, ho, hq, hc, hO1, hO2, hT, hk⟩ := hF; refine wpOp_step (o := pu0o1) rfl (fun K hK => ?_); replace hK := hid hK; simp only [pu0o1, pu0T, sel_f]
   go_simp
   exact hK.out _ _ (pu0M X7 G CP rfl rfl ⟨hg, ho, hq, hc, hO1, hO2, hT, hk⟩)
 · obtain rfl : pu0o2 = o := Option.some.inj ho
   obtain rfl : b2 = false := h0
   have hn := wP9 (o := pu0o2) hC h1 [(1, none)] [] nk rfl; repeat (obtain ⟨rfl, hn⟩ := hn)
   have hn := wN9 hC (i := 2) rfl [(3, 2), (4, 3), (8, 4), (9, 2), (10, 2), (11, 2)] [] nk rfl; repeat (obtain ⟨rfl, hn⟩ := hn)
   obtain ⟨hg, ho, hq, hc, hO1, hO2, hT, hk⟩ := hF; refine wpOp_step (o := pu0o2) rfl (fun K hK => ?_); replace hK := hid hK; simp only [pu0o2, pu0T, sel_t, sel_f]
   go_simp
   exact hK.out _ _ (pu0M X7 G CP rfl rfl ⟨hg, ho, hq, hc, hO1, hO2, hT, hk⟩)
 · obtain rfl : pu0o3 = o := Option.some.inj ho
   obtain rfl : b3 = false := h0
   have hn := wP9 (o := pu0o3) hC h1 [(2, none), (1, some 2)] [] nk rfl; repeat (obtain ⟨rfl, hn⟩ := hn)
   have hn := wN9 hC (i := 3) rfl [(4, 3), (8, 4), (9, 3), (10, 3), (11, 3)] [] nk rfl; repeat (obtain ⟨rfl, hn⟩ := hn)
   obtain ⟨hg, ho, hq, hc, hO1, hO2, hT, hk⟩ := hF; refine wpOp_step (o := pu0o3) rfl (fun K hK => ?_); replace hK := hid hK; simp only [pu0o3, pu0T, sel_t, sel_f]
   go_simp
   exact hK.out _ _ (pu0M X7 G CP rfl rfl ⟨hg, ho, hq, hc, hO1, hO2, hT, hk⟩)
 · obtain rfl : pu0o4 = o := Option.some.inj ho
   obtain rfl : b4 = false := h0
   have hn := wP9 (o := pu0o4) hC h1 [(3, none), (2, some 3), (1, some 2)] [] nk rfl; repeat (obtain ⟨rfl, hn⟩ := hn)
   have hn := wN9 hC (i := 4) rfl [(8, 4), (9, 4), (10, 4), (11, 4)] [] nk rfl; repeat (obtain ⟨rfl, hn⟩ := hn)
   obtain ⟨hg, ho, hq, hc, hO1, hO2, hT, hk⟩ := hF; have hq0 : RA w P.QB 109 #[P.vC, .slice P.aS P.nS P.cS] := hq; have c2 := hq0.cell 1; refine wpOp_step (o := pu0o4) rfl (fun K hK => ?_); replace hK := hid hK; simp only [pu0o4, pu0T, sel_t, sel_f]
   go_simp
   exact hK.out _ _ (pu0M X7 G CP rfl rfl ⟨hg, ho, hq, hc, hO1, hO2, hT, hk⟩)
 · obtain rfl : pu0o5 = o := Option.some.inj ho
   obtain rfl : b5 = false := h0
   have hn := wN9 hC (i := 5) rfl [(6, 5), (7, 6), (8, 7), (9, 5), (10, 5), (11, 5)] [] nk rfl; repeat (obtain ⟨rfl, hn⟩ := hn)
   obtain ⟨hg, ho, hq, hc, hO1, hO2, hT, hk⟩ := hF; refine wpOp_step (o := pu0o5) rfl (fun K hK => ?_); replace hK := hid hK; simp only [pu0o5, pu0T, sel_f]
   go_simp
   exact hK.out _ _ (pu0M X7 G CP rfl rfl ⟨hg, ho, hq, hc, hO1, hO2, hT, hk⟩)
 · obtain rfl : pu0o6 = o := Option.some.inj ho
   obtain rfl : b6 = false := h0
   have hn := wP9 (o := pu0o6) hC h1 [(5, none)] [] nk rfl; repeat (obtain ⟨rfl, hn⟩ := hn)
   have hn := wN9 hC (i := 6) rfl [(7, 6), (8, 7), (9, 6), (10, 6), (11, 6)] [] nk rfl; repeat (obtain ⟨rfl, hn⟩ := hn)
   obtain ⟨hg, ho, hq, hc, hO1, hO2, hT, hk⟩ := hF; have ta := taQ P.BX; refine wpOp_step (o := pu0o6) rfl (fun K hK => ?_); replace hK := hid hK; simp only [pu0o6, pu0T, sel_t, sel_f]
   go_simp
   exact hK.out _ _ (pu0M X7 G CP rfl rfl ⟨hg, ho, hq, hc, hO1, hO2, hT, hk⟩)
 · obtain rfl : pu0o7 = o := Option.some.inj ho
   obtain rfl : b7 = false := h0
   have hn := wP9 (o := pu0o7) hC h1 [(6, none), (5, some 6)] [] nk rfl; repeat (obtain ⟨rfl, hn⟩ := hn)
   have hn := wN9 hC (i := 7) rfl [(8, 7), (9, 7), (10, 7), (11, 7)] [] nk rfl; repeat (obtain ⟨rfl, hn⟩ := hn)
   obtain ⟨hg, ho, hq, hc, hO1, hO2, hT, hk⟩ := hF; refine wpOp_step (o := pu0o7) rfl (fun K hK => ?_); replace hK := hid hK; simp only [pu0o7, pu0T, sel_t, sel_f]
   go_simp
   exact hK.out _ _ (pu0M w.heap.size G CP rfl rfl ⟨hg.trans (RQ.below ((Below.refl _ _).alloc (Nat.le_refl _) _)), ho.alloc ho.size _, hq.alloc _, fun b cs r => (hc b cs r).alloc _, fun h => World.ownsRow.alloc (hO1 h) _, fun h => Bool.noConfusion h, fun _ _ => RA.new w _ _, hk⟩)
 · obtain rfl : pu0o8 = o := Option.some.inj ho
   obtain rfl : b8 = false := h0
   have hn := wP9 (o := pu0o8) hC h1 [(7, none), (4, none), (6, some 7), (5, some 6), (3, some 4), (2, some 3), (1, some 2)] [] nk rfl; repeat (obtain ⟨rfl, hn⟩ := hn)
   have hn := wN9 hC (i := 8) rfl [(9, 8), (10, 8), (11, 8)] [] nk rfl; repeat (obtain ⟨rfl, hn⟩ := hn)
   obtain ⟨hg, ho, hq, hc, hO1, hO2, hT, hk⟩ := hF; refine wpOp_step (o := pu0o8) rfl (fun K hK => ?_); replace hK := hid hK; have hO := hO1 rfl; have hq0 : RA w P.QB 109 #[P.vC, .slice P.aS P.nS P.cS] := hq; obtain ⟨kl, kn, kq⟩ := hk; have hk : P.LS.length = P.nS ∧ P.nS ≤ 1000000 ∧ P.W0.heap.size ≤ P.QB := ⟨kl, kn, kq⟩; refine step_append_ptE P.W0.heap.size _ (by rfl) _ _ (by rfl) _ P.LS P.nS kl P.BX (by rfl) hO ho.size X7 (hT rfl rfl) (by rfl) (by omega) ?_; intro g3 c3 w3 hO3 hg3; exact hK.out _ _ (pu0M X7 g3 c3 rfl rfl ⟨hg.trans (RQ.own hO hg3), ho.grown hg3 ho.size (fun k e => (ownPt_row hO e).1), (hg3.block P.QB hq0.lt (fun e => by obtain ⟨_, _, ds, hd⟩ := ownPt_row hO e.symm; exact rowApartQ hq0 hd (by decide) rfl)).trans hq, fun b cs r => (hg3.block b (hc b cs r).lt (fun e => by obtain ⟨_, _, ds, hd⟩ := ownPt_row hO e.symm; exact rowApartQ (hc b cs r) hd (by decide) rfl)).trans (hc b cs r), fun h => Bool.noConfusion h, fun _ => hO3, fun _ h => Bool.noConfusion h, hk⟩)
 · obtain rfl : pu0o9 = o := Option.some.inj ho
   obtain rfl : b9 = false := h0
   have hn := wP9 (o := pu0o9) hC h1 [(8, none), (7, none), (6, none), (5, none), (4, none), (3, none), (2, none), (1, none), (0, none)] [] nk rfl; repeat (obtain ⟨rfl, hn⟩ := hn)
   have hn := wN9 hC (i := 9) rfl [(10, 9), (11, 10)] [] nk rfl; repeat (obtain ⟨rfl, hn⟩ := hn)
   obtain ⟨hg, ho, hq, hc, hO1, hO2, hT, hk⟩ := hF; refine wpOp_step (o := pu0o9) rfl (fun K hK => ?_); replace hK := hid hK; simp only [pu0o9, pu0T, sel_t, sel_f]
   go_simp
   exact hK.out _ _ (pu0M X7 G CP rfl rfl ⟨hg, ho, hq, hc, hO1, hO2, hT, hk⟩)
 · obtain rfl : pu0o10 = o := Option.some.inj ho
   obtain rfl : b10 = false := h0
   have hn := wP9 (o := pu0o10) hC h1 [(9, none), (8, none), (7, none), (6, none), (5, none), (4, none), (3, none), (2, none), (1, none), (0, none)] [] nk rfl; repeat (obtain ⟨rfl, hn⟩ := hn)
   have hn := wN9 hC (i := 10) rfl [(11, 10)] [] nk rfl; repeat (obtain ⟨rfl, hn⟩ := hn)
   obtain ⟨hg, ho, hq, hc, hO1, hO2, hT, hk⟩ := hF; refine wpOp_step (o := pu0o10) rfl (fun K hK => ?_); replace hK := hid hK; simp only [pu0o10, pu0T, sel_t, sel_f]
   go_simp
   exact hK.out _ _ (pu0M X7 G CP rfl rfl ⟨hg, ho, hq, hc, hO1, hO2, hT, hk⟩)
 · obtain rfl : pu0o11 = o := Option.some.inj ho
   obtain rfl : b11 = false := h0
   have hn := wP9 (o := pu0o11) hC h1 [(10, none), (8, none), (7, none), (6, none), (5, none), (4, none), (3, none), (2, none), (1, none), (0, none), (9, some 10)] [] nk rfl; repeat (obtain ⟨rfl, hn⟩ := hn)
   obtain ⟨hg, ho, hq, hc, hO1, hO2, hT, hk⟩ := hF; have hq0 : RA w P.QB 109 #[P.vC, .slice P.aS P.nS P.cS] := hq; have c2 := hq0.cell 1; have f2 := hq0.free 1; have hO := hO2 rfl; refine wpOp_step (o := pu0o11) rfl (fun K hK => ?_); replace hK := hid hK; simp only [pu0o11, pu0T, sel_t]
   go_simp
   exact hK.out _ _ (pu0M X7 G CP rfl rfl ⟨hg.trans (RQ.grown (grown_setCellQ _ _ _ _) hq0 (.inl rfl)), ho.grown (grown_setCellQ _ _ _ _) ho.size (fun k e => by have := Option.some.inj e; omega), hq0.set 1 _, fun b cs r => (hc b cs r).other _ _ (rowApartQ (hc b cs r) hq0 (by decide)), fun h => Bool.noConfusion h, fun _ => hO.setQ (fun g e => by obtain ⟨_, _, ds, hd⟩ := ownPt_row hO e; exact rowApartQ hd hq0 (by decide)), fun _ h => Bool.noConfusion h, hk⟩)
set_option maxRecDepth 20000 in
set_option maxHeartbeats 4000000 in
theorem pu0_wp {Q : Exit → Act → World → Prop} {rid : Nat} (W0 W1 : World) (QB BX nS cS : Nat) (aS : Option Addr) (LS : List Nat) (vC : Value) {s2 s3 s4 s5 s6 s7 s8 s9 s10 s11 s12 s13 s14 : Value} (w : World) (hg : RQ W1 w) (ho : Below W0.heap.size W0 w) (hq : RA w QB 109 #[vC, .slice aS nS cS]) (hc : ∀ b cs, RA W1 b 114 cs → RA w b 114 cs) (hO1 : OwnPt w W0.heap.size (.slice aS nS cS) LS) (hk : LS.length = nS ∧ nS ≤ 1000000 ∧ W0.heap.size ≤ QB)
 (fin : ∀ (X7 : Nat) (G : Nat) (CP : Nat) (w' : World), (RQ W1 w') → (Below W0.heap.size W0 w') → (RA w' QB 109 #[vC, .slice (some ⟨G, 0, none⟩) (nS + 1) CP]) → (∀ b cs, RA W1 b 114 cs → RA w' b 114 cs) → (OwnPt w' W0.heap.size (.slice (some ⟨G, 0, none⟩) (nS + 1) CP) (LS ++ [BX])) → (LS.length = nS ∧ nS ≤ 1000000 ∧ W0.heap.size ≤ QB) → Q .normal { tmps := #[.pointer (some ⟨QB, 0, none⟩), .iface 112 (.pointer (some ⟨BX, 0, none⟩)), s2, s3, .pointer (some ⟨QB, 0, none⟩), .pointer (some ⟨QB, 0, none⟩), .pointer (some ⟨QB, 0, none⟩), .pointer (some ⟨QB, 1, none⟩), .slice aS nS cS, .iface 112 (.pointer (some ⟨BX, 0, none⟩)), .pointer (some ⟨BX, 0, none⟩), .slice (some ⟨X7, 0, none⟩) 1 1, .slice (some ⟨G, 0, none⟩) (nS + 1) CP, .pointer (some ⟨QB, 0, none⟩), .pointer (some ⟨QB, 1, none⟩)], defers := [] } w') :
 (Code.region rid pu0O true).wp Tryz.prog Q { tmps := #[.pointer (some ⟨QB, 0, none⟩), .iface 112 (.pointer (some ⟨BX, 0, none⟩)), s2, s3, s4, s5, s6, s7, s8, s9, s10, s11, s12, s13, s14], defers := [] } w := by
 refine wp_region_inv (ops := pu0O) (pu0I ⟨W0, W1, QB, BX, nS, cS, aS, LS, vC, s2, s3, s4, s5, s6, s7, s8, s9, s10, s11, s12, s13, s14⟩) (by kernel_rfl) (by kernel_rfl) (fun l f v hI => ?_) (fun l f v hC hI i h0 o ho h1 => pu0_step ⟨W0, W1, QB, BX, nS, cS, aS, LS, vC, s2, s3, s4, s5, s6, s7, s8, s9, s10, s11, s12, s13, s14⟩ l f v hC hI i h0 o ho h1) (fun l f v hI hall => ?_) ?_
 · obtain ⟨_, _, _, _, _, _, _, _, _, _, _, _, _, _, _, rfl, _⟩ := hI; rfl
 · obtain ⟨b0, b1, b2, b3, b4, b5, b6, b7, b8, b9, b10, b11, X7, G, CP, rfl, rfl, hg, ho, hq, hc, hO1, hO2, hT, hk⟩ := hI
   have hn := allT hall [0, 1, 2, 3, 4, 5, 6, 7, 8, 9, 10, 11] rfl; repeat (obtain ⟨rfl, hn⟩ := hn)
   exact fin X7 G CP v hg ho hq hc (hO2 rfl) hk
 · exact ⟨false, false, false, false, false, false, false, false, false, false, false, false, 0, 0, 0, rfl, rfl, hg.trans (RQ.below (Below.refl _ _).drew), ho.drew, hq.drew, fun b cs r => (hc b cs r).drew, fun _ => World.ownsRow.drew hO1, fun h => Bool.noConfusion h, fun h => Bool.noConfusion h, hk⟩
end Go.Proofs.YtcbmgpdpjagaoaaGreat
namespace Go.Proofs.YtcbmgpdpjagaoaaGreat
open Go.RowKit
set_option linter.unusedVariables false
structure QH (W0 w : World) (q n : Nat) (H : Nat → Nat) (cu : Nat → Cu) : Prop where
 old : Below W0.heap.size W0 w
 row : ∃ v, RA w q 109 #[.func (.func 69) #[] #[], v] ∧ OwnPt w W0.heap.size v ((List.range n).map H)
 bq : W0.heap.size ≤ q
 cus : ∀ i, i < n → RA w (H i) 114 #[.int .i64 ((cu (H i)).no : Int), .slice (cu (H i)).ad (cu (H i)).n (cu (H i)).cap] ∧ Ens W0 (cu (H i)).ad (cu (H i)).n (cu (H i)).cap (cu (H i)).o
theorem rangeD (H : Nat → Nat) {n i : Nat} (h : i < n) : ((List.range n).map H).getD i 0 = H i := by simp [List.getD_eq_getElem?_getD, h]
theorem QH.below {W0 w w' : World} {q n : Nat} {H : Nat → Nat} {cu : Nat → Cu} (h : QH W0 w q n H cu) (hb : Below w.heap.size w w') : QH W0 w' q n H cu := by
 obtain ⟨v, hr, ho⟩ := h.row; exact ⟨h.old.trans (hb.mono h.old.size), ⟨v, hr.below hb hr.lt, ho.below hb⟩, h.bq, fun i hi => ⟨(h.cus i hi).1.below hb (h.cus i hi).1.lt, (h.cus i hi).2⟩⟩
theorem QS.qh {W0 w : World} {q gI C n : Nat} {H : Nat → Nat} {cu : Nat → Cu} (h : QS W0 w q gI C n H cu) (hC : C ≤ maxLen) : QH W0 w q n H cu := by
 obtain ⟨f, hf, hh⟩ := h.itm; exact ⟨h.old, ⟨_, h.row, OwnPt.of hf hh h.le hC h.bg⟩, h.bq, h.cus⟩
set_option maxRecDepth 20000 in
set_option maxHeartbeats 2000000 in
theorem iPushM (W0 : World) (q b n c : Nat) (a : Option Addr) (L : List Nat) (hl : L.length = n) (hn : n ≤ 1000000) (vC : Value) (w : World) (hq : RA w q 109 #[vC, .slice a n c]) (ho : OwnPt w W0.heap.size (.slice a n c) L) (hB : Below W0.heap.size W0 w) (hb : W0.heap.size ≤ q) :
 Calls Tryz.prog 142 #[.pointer (some ⟨q, 0, none⟩), .iface 112 (.pointer (some ⟨b, 0, none⟩))] w fun e w' => (∃ v, e = .returned v) ∧ (∃ G CP, RA w' q 109 #[vC, .slice (some ⟨G, 0, none⟩) (n + 1) CP] ∧ OwnPt w' W0.heap.size (.slice (some ⟨G, 0, none⟩) (n + 1) CP) (L ++ [b])) ∧ Below W0.heap.size W0 w' ∧ (∀ x cs, RA w x 114 cs → RA w' x 114 cs) ∧ RQ w w' := by
 have Q := hid hq; have O := hid ho; have B := hid hB; clear hq ho hB
 go_enter Tryz.func142, Tryz.ntmps142
 go_upto_region 0 with fail
 refine pu0_wp W0 w q b n c a L vC w (RQ.refl _) B.out Q.out (fun _ _ r => r) O.out ⟨hl, hn, hb⟩ ?_; intro X7 G CP w1 hg ho1 hq1 hc1 hO2 _; have G1 := hid hg; have O1 := hid ho1; have Q1 := hid hq1; have C1 := hid hc1; have P1 := hid hO2; clear hg ho1 hq1 hc1 hO2
 go_wp2
 go_end0
 exact ⟨⟨_, rfl⟩, ⟨G, CP, Q1.out, P1.out⟩, O1.out, C1.out, G1.out⟩
theorem heap_congr {nb : Nat → Nat → Prop} {H H' : Nat → Nat} {n : Nat} (h : Heap nb H n) (e : ∀ i, i < n → H' i = H i) : Heap nb H' n := fun k k0 kn => by rw [e k kn, e _ (by omega)]; exact h k k0 kn
def snocH (H : Nat → Nat) (n b : Nat) (i : Nat) : Nat := if i < n then H i else b
theorem snocH_L (H : Nat → Nat) (n b : Nat) : (List.range (n + 1)).map (snocH H n b) = (List.range n).map H ++ [b] := by
 rw [List.range_succ, List.map_append]
 congr 1
 · exact List.map_congr_left fun i hi => by unfold snocH; rw [if_pos (List.mem_range.1 hi)]
 · simp [snocH]
set_option maxRecDepth 20000 in
set_option maxHeartbeats 4000000 in
theorem iHPush (W0 : World) (q n b : Nat) (hn : n ≤ 100000) (H : Nat → Nat) (cu : Nat → Cu) (w : World) (h : QH W0 w q n H cu) (hp : ∀ i, i < n → 0 < (cu (H i)).n) (hH : Heap (nbC cu) H n)
 (hb : RA w b 114 #[.int .i64 ((cu b).no : Int), .slice (cu b).ad (cu b).n (cu b).cap] ∧ Ens W0 (cu b).ad (cu b).n (cu b).cap (cu b).o ∧ 0 < (cu b).n) :
 Calls Tryz.prog 71 #[.iface 105 (.pointer (some ⟨q, 0, none⟩)), .iface 112 (.pointer (some ⟨b, 0, none⟩))] w fun e w' => (∃ v, e = .returned v) ∧ ∃ H', QH W0 w' q (n + 1) H' cu ∧ Heap (nbC cu) H' (n + 1) ∧ Pm (snocH H n b) H' (n + 1) ∧ RQ w w' := by
 obtain ⟨v, hr, ho⟩ := h.row; have hl : ((List.range n).map H).length = n := by simp
 obtain ⟨av, cv, hv⟩ := ho.slice; rw [hl] at hv; subst hv; have K := hid (iPushM W0 q b n cv av _ hl (by omega) _ w hr ho h.old h.bq); have HQ := hid h; have HH := hid hH; have HB := hid hb; have HP := hid hp; have m1 := mtPush q; have m2 := mtLen q; clear h hH hb hr ho hl hp
 go_enter Tryz.func71, Tryz.ntmps71
 go_wp2_with fail
 refine K.out.mono ?_
 rintro e w1 ⟨⟨v1, rfl⟩, ⟨G, CP, hq1, ho1⟩, hB1, hc1, hR1⟩
 obtain ⟨_, hbg, hnC, f, hf, hh⟩ := ho1.frow
 have S1 : Hid (QS W0 w1 q G CP (n + 1) (snocH H n b) cu) := by
  refine ⟨hB1, hq1, ⟨f, hf, fun i hi => ?_⟩, hnC, HQ.out.bq, hbg, fun i hi => ?_⟩
  · rw [hh i hi, ← snocH_L, rangeD _ hi]
  · unfold snocH
    by_cases e : i < n
    · rw [if_pos e]; exact ⟨hc1 _ _ (HQ.out.cus i e).1, (HQ.out.cus i e).2⟩
    · rw [if_neg e]; exact ⟨hc1 _ _ HB.out.1, HB.out.2.1⟩
 have CM : Hid (CP ≤ maxLen) := by
  rcases ho1.2 with ⟨h0, _⟩ | ⟨g', cap, cur, he, _, _, _, hm, _⟩
  · cases h0
  · injection he with _ _ e3
    rw [e3]; exact hm
 have U1 : Hid (UpI (nbC cu) (snocH H n b) (n + 1) n) := Heap.up_last (nbC cu) (heap_congr HH.out fun i hi => if_pos hi); have R1 := hid hR1; have KN := hid (iLen q G CP (n + 1) w1 _ hq1); have e1 : ((n + 1 : Nat) : Int) = (n : Int) + 1 := by omega
 rw [e1] at KN; clear e1
 have PS : ∀ i, i < n + 1 → 0 < (cu (snocH H n b i)).n := fun i hi => by
  unfold snocH
  by_cases e : i < n
  · rw [if_pos e]; exact HP.out i e
  · rw [if_neg e]; exact HB.out.2.2
 have KU := hid (iUp W0 q G CP (n + 1) (by omega) (snocH H n b) cu n w1 S1.out PS U1.out); clear PS; clear hq1 ho1 hB1 hc1 hR1 hf hh hnC hbg K
 go_wp2_with fail
 refine KN.out.mono ?_
 rintro e w2 ⟨rfl, rfl⟩
 go_wp2_with fail
 refine KU.out.mono ?_
 rintro e w3 ⟨⟨v3, rfl⟩, H', hQ, hHp, hP, hR⟩
 have Q3 := hid (hQ.qh CM.out); have H3 := hid hHp; have P3 := hid hP; have R3 := hid (R1.out.trans hR); clear hQ hHp hP hR
 go_wp2
 go_end0
 exact ⟨⟨_, rfl⟩, H', Q3.out, H3.out, P3.out, R3.out⟩
set_option maxRecDepth 20000 in
set_option maxHeartbeats 4000000 in
theorem iHFix (W0 : World) (q gI C n : Nat) (hn : n ≤ 1000000) (n0 : 0 < n) (H : Nat → Nat) (cu : Nat → Cu) (w : World) (h : QS W0 w q gI C n H cu) (hp : ∀ i, i < n → 0 < (cu (H i)).n) (hD : DnI (nbC cu) H n 0) :
 Calls Tryz.prog 73 #[.iface 105 (.pointer (some ⟨q, 0, none⟩)), .int .i64 0] w fun e w' => (∃ v, e = .returned v) ∧ ∃ H', QS W0 w' q gI C n H' cu ∧ Heap (nbC cu) H' n ∧ Pm H H' n ∧ RQ w w' := by
 have KN := hid (iLen q gI C n w _ h.row); have KD := hid (iDown W0 q gI C n n hn (Nat.le_refl _) H cu w h hp hD); have HP := hid hp; have m2 := mtLen q; clear h hD hp
 go_enter Tryz.func73, Tryz.ntmps73
 go_wp2_with fail
 refine KN.out.mono ?_
 rintro e w2 ⟨rfl, rfl⟩
 go_wp2_with fail
 refine KD.out.mono ?_
 rintro e w3 ⟨⟨b, rfl⟩, H', hQ, hHp, hP, _, hR⟩
 have Q3 := hid hQ; have H3 := hid hHp; have P3 := hid hP; have R3 := hid hR; clear hQ hHp hP hR KN KD
 cases b with
 | true =>
  go_wp2
  go_end0
  exact ⟨⟨_, rfl⟩, H', Q3.out, H3.out, P3.out, R3.out⟩
 | false =>
  have KU := hid (iUp W0 q gI C n hn H' cu 0 w3 Q3.out (fun i hi => by obtain ⟨t, ht, e⟩ := (P3.out.mem (H' i)).1 ⟨i, hi, rfl⟩; rw [← e]; exact HP.out t ht) ⟨n0, fun k k0 kn _ => H3.out k k0 kn, fun k k0 kn kp z => absurd z (Nat.lt_irrefl _)⟩)
  go_wp2_with fail
  refine KU.out.mono ?_
  rintro e w4 ⟨⟨v4, rfl⟩, H4', hQ4, hH4, hP4, hR4⟩
  have Q4 := hid hQ4; have H4 := hid hH4; have P4 := hid (P3.out.trans hP4); have R4 := hid (R3.out.trans hR4); clear hQ4 hH4 hP4 hR4
  go_wp2
  go_end0
  exact ⟨⟨_, rfl⟩, H4', Q4.out, H4.out, P4.out, R4.out⟩
set_option maxRecDepth 20000 in
set_option maxHeartbeats 4000000 in
theorem iPopM (W0 : World) (q gI C n : Nat) (n0 : 0 < n) (hn : n ≤ 1000000) (H : Nat → Nat) (cu : Nat → Cu) (w : World) (h : QS W0 w q gI C n H cu) :
 Calls Tryz.prog 141 #[.pointer (some ⟨q, 0, none⟩)] w fun e w' => (∃ v, e = .returned v) ∧ QS W0 w' q gI C (n - 1) H cu ∧ RQ w w' := by
 obtain ⟨f, hf, hh⟩ := h.itm; have nc := h.le; have c1 := h.row.cell 1; have f1 := h.row.free 1; have cl := hf.at_ (n - 1) (by omega); rw [hh (n - 1) (by omega)] at cl; have e1 : ((n - 1 : Nat) : Int) = (n : Int) - 1 := by omega
 have d0 : (0 : Int) ≤ (n : Int) - 1 := by omega
 have ne := h.ne; have QQ := hid h
 have D : Hid (QS W0 (w.setCell ⟨q, 1, none⟩ (.slice (some ⟨gI, 0, none⟩) (n - 1) C)) q gI C (n - 1) H cu) := by
  have hg := grown_setCellQ w q 1 (.slice (some ⟨gI, 0, none⟩) (n - 1) C); refine ⟨h.old.grown hg h.old.size (fun k e => by have := Option.some.inj e; have := h.bq; omega), h.row.set 1 _, ⟨f, hf.other _ _ (fun e => ne e.symm), fun i hi => hh i (by omega)⟩, by omega, h.bq, h.bg, fun i hi => ⟨(h.cus i (by omega)).1.other _ _ (rowApartQ (h.cus i (by omega)).1 h.row (by decide)), (h.cus i (by omega)).2⟩⟩
 have R : Hid (RQ w (w.setCell ⟨q, 1, none⟩ (.slice (some ⟨gI, 0, none⟩) (n - 1) C))) := RQ.grown (grown_setCellQ w q 1 _) h.row (.inl rfl); clear h hf hh
 go_enter Tryz.func141, Tryz.ntmps141
 go_wp2
 go_ret
 exact ⟨⟨_, rfl⟩, D.out, R.out⟩
set_option maxRecDepth 20000 in
set_option maxHeartbeats 4000000 in
theorem iHPop (W0 : World) (q gI C n : Nat) (n0 : 0 < n) (hn : n ≤ 1000000) (H : Nat → Nat) (cu : Nat → Cu) (w : World) (h : QS W0 w q gI C n H cu) (hp : ∀ i, 0 < i → i < n → 0 < (cu (H i)).n) (hH : ∀ k, 0 < k → k < n → (k - 1) / 2 ≠ 0 → nbC cu (H k) (H ((k - 1) / 2))) :
 Calls Tryz.prog 74 #[.iface 105 (.pointer (some ⟨q, 0, none⟩))] w fun e w' => (∃ v, e = .returned v) ∧ ∃ H', QS W0 w' q gI C (n - 1) H' cu ∧ Heap (nbC cu) H' (n - 1) ∧ (∀ x, (∃ i, i < n - 1 ∧ H' i = x) ↔ ∃ i, 0 < i ∧ i < n ∧ H i = x) ∧ (Inj H n → Inj H' (n - 1)) ∧ RQ w w' := by
 have KN := hid (iLen q gI C n w _ h.row); have KS := hid (iSwap W0 q gI C n H cu 0 (n - 1) n0 (by omega) w h); have e1 : ((n - 1 : Nat) : Int) = (n : Int) - 1 := by omega
 have e0 : ((0 : Nat) : Int) = 0 := rfl; rw [e1, e0] at KS; have HH := hid hH; have HP := hid hp; have GR : Hid (∀ w', w.grownBy w' (some gI) → RQ w w') := fun w' hg => h.gr hg; have m1 := mtLen q; have m2 := mtSwap q; have m3 := mtPop q; clear h hH hp
 go_enter Tryz.func74, Tryz.ntmps74
 go_wp2_with fail
 refine KN.out.mono ?_
 rintro e w1 ⟨rfl, rfl⟩
 go_wp2_with fail
 refine KS.out.mono ?_
 rintro e w2 ⟨⟨v2, rfl⟩, hQ2, hg2⟩
 have R2 := hid (GR.out w2 hg2)
 have D2 : Hid (DnI (nbC cu) (swH H 0 (n - 1)) (n - 1) 0) := Heap.dn0 _ fun k k0 kn kp => by
  rw [swH_o H (by omega) (by omega), swH_o H kp (by omega)]; exact HH.out k k0 (by omega) kp
 have PS : ∀ i, i < n - 1 → 0 < (cu (swH H 0 (n - 1) i)).n := fun i hi => by
  by_cases e : i = 0
  · rw [e, swH_i]; exact HP.out _ (by omega) (by omega)
  · rw [swH_o H e (by omega)]; exact HP.out _ (by omega) (by omega)
 have KD := hid (iDown W0 q gI C n (n - 1) hn (by omega) (swH H 0 (n - 1)) cu w2 hQ2 PS D2.out); clear PS; rw [e1] at KD; clear hQ2 hg2 KS KN
 go_wp2_with fail
 refine KD.out.mono ?_
 rintro e w3 ⟨⟨b3, rfl⟩, H3, hQ3, hH3, hP3, hK3, hR3⟩
 have KP := hid (iPopM W0 q gI C n n0 hn H3 cu w3 hQ3); have HP3 := hid hH3; have P3 := hid hP3; have R3 := hid (R2.out.trans hR3); clear hQ3 hH3 hP3 hK3 hR3 KD
 go_wp2_with fail
 refine KP.out.mono ?_
 rintro e w4 ⟨⟨v4, rfl⟩, hQ4, hR4⟩
 have Q4 := hid hQ4; have R4 := hid (R3.out.trans hR4); clear hQ4 hR4 KP
 go_wp2
 go_ret
 refine ⟨⟨_, rfl⟩, H3, Q4.out, HP3.out, fun x => ?_, fun q => P3.out.inj ?_, R4.out⟩
 · rw [P3.out.mem]
   constructor
   · rintro ⟨i, hi, rfl⟩
     by_cases e : i = 0
     · exact ⟨n - 1, by omega, by omega, by rw [e, swH_i]⟩
     · exact ⟨i, by omega, by omega, (swH_o H e (by omega)).symm⟩
   · rintro ⟨i, i0, hi, rfl⟩
     by_cases e : i = n - 1
     · exact ⟨0, by omega, by rw [swH_i, e]⟩
     · exact ⟨i, by omega, swH_o H (by omega) e⟩
 · intro a b ha hb e
   exact (Pm.sw H n0 (by omega : n - 1 < n)).inj q a b (by omega) (by omega) e
end Go.Proofs.YtcbmgpdpjagaoaaGreat
