import Derived.Test.YtekdphfifdfmbaaQuO
namespace Go.Proofs.Ytekdphfifdfmbaa
open Go.RowKit
set_option linter.unusedVariables false
/-! The drawn region of the queue's Push (by genq.py). -/
def pu0o0 : Oper := ⟨some 4, .move (.tmp 0), 103, "l08_runs.go:194", #[], none⟩
def pu0o1 : Oper := ⟨some 5, .move (.tmp 0), 103, "l08_runs.go:194", #[], none⟩
def pu0o2 : Oper := ⟨some 6, .nilCheck (.tmp 5), 0, "l08_runs.go:194", #[⟨1, .data⟩], none⟩
def pu0o3 : Oper := ⟨some 7, .fieldAddr 107 (.tmp 6) 1, 0, "l08_runs.go:194", #[⟨2, .data⟩], none⟩
def pu0o4 : Oper := ⟨some 8, .load 105 (.tmp 7), 105, "l08_runs.go:194", #[⟨3, .data⟩], none⟩
def pu0o5 : Oper := ⟨some 9, .move (.tmp 1), 20, "l08_runs.go:194", #[], none⟩
def pu0o6 : Oper := ⟨some 10, .typeAssert (.tmp 9) 20 110 false, 110, "l08_runs.go:194", #[⟨5, .data⟩], none⟩
def pu0o7 : Oper := ⟨some 11, .buildSlice 105 1 #[(0, .tmp 10)], 105, "l08_runs.go:194", #[⟨6, .data⟩], none⟩
def pu0o8 : Oper := ⟨some 12, .call { callee := .builtin Builtin.append, args := #[.tmp 8, .tmp 11], argTypes := #[105, 105] }, 105, "l08_runs.go:194", #[⟨4, .data⟩, ⟨7, .data⟩], none⟩
def pu0o9 : Oper := ⟨some 13, .nilCheck (.tmp 4), 0, "l08_runs.go:194", #[⟨0, .data⟩, ⟨0, .phase⟩, ⟨1, .phase⟩, ⟨2, .phase⟩, ⟨3, .phase⟩, ⟨4, .phase⟩, ⟨5, .phase⟩, ⟨6, .phase⟩, ⟨7, .phase⟩, ⟨8, .phase⟩], none⟩
def pu0o10 : Oper := ⟨some 14, .fieldAddr 107 (.tmp 13) 1, 0, "l08_runs.go:194", #[⟨9, .data⟩, ⟨0, .phase⟩, ⟨1, .phase⟩, ⟨2, .phase⟩, ⟨3, .phase⟩, ⟨4, .phase⟩, ⟨5, .phase⟩, ⟨6, .phase⟩, ⟨7, .phase⟩, ⟨8, .phase⟩], none⟩
def pu0o11 : Oper := ⟨none, .store 105 (.tmp 14) (.tmp 12), 0, "l08_runs.go:194", #[⟨10, .data⟩, ⟨8, .data⟩, ⟨8, .chain⟩, ⟨0, .phase⟩, ⟨1, .phase⟩, ⟨2, .phase⟩, ⟨3, .phase⟩, ⟨4, .phase⟩, ⟨5, .phase⟩, ⟨6, .phase⟩, ⟨7, .phase⟩, ⟨8, .phase⟩], none⟩
def pu0O : Array Oper := #[pu0o0, pu0o1, pu0o2, pu0o3, pu0o4, pu0o5, pu0o6, pu0o7, pu0o8, pu0o9, pu0o10, pu0o11]
structure pu0P where
  (W0 W1 : World)
  (QB BX nS cS : Nat)
  (aS : Option Addr)
  (LS : List Nat)
  (vC : Value)
  (s2 s3 s4 s5 s6 s7 s8 s9 s10 s11 s12 s13 s14 : Value)
def pu0T (P : pu0P) (X7 : Nat) (G : Nat) (CP : Nat) (b0 b1 b2 b3 b4 b5 b6 b7 b8 b9 b10 b11 : Bool) : Array Value := #[.pointer (some ⟨P.QB, 0, none⟩), .iface 110 (.pointer (some ⟨P.BX, 0, none⟩)), P.s2, P.s3, sel b0 (.pointer (some ⟨P.QB, 0, none⟩)) (P.s4), sel b1 (.pointer (some ⟨P.QB, 0, none⟩)) (P.s5), sel b2 (.pointer (some ⟨P.QB, 0, none⟩)) (P.s6), sel b3 (.pointer (some ⟨P.QB, 1, none⟩)) (P.s7), sel b4 (.slice P.aS P.nS P.cS) (P.s8), sel b5 (.iface 110 (.pointer (some ⟨P.BX, 0, none⟩))) (P.s9), sel b6 (.pointer (some ⟨P.BX, 0, none⟩)) (P.s10), sel b7 (.slice (some ⟨X7, 0, none⟩) 1 1) (P.s11), sel b8 (.slice (some ⟨G, 0, none⟩) (P.nS + 1) CP) (P.s12), sel b9 (.pointer (some ⟨P.QB, 0, none⟩)) (P.s13), sel b10 (.pointer (some ⟨P.QB, 1, none⟩)) (P.s14)]
def pu0F (P : pu0P) (X7 : Nat) (G : Nat) (CP : Nat) (b0 b1 b2 b3 b4 b5 b6 b7 b8 b9 b10 b11 : Bool) (w : World) : Prop := (RQ P.W1 w) ∧ (Below P.W0.heap.size P.W0 w) ∧ (RowAt w P.QB 107 #[P.vC, cond b11 (.slice (some ⟨G, 0, none⟩) (P.nS + 1) CP) (.slice P.aS P.nS P.cS)]) ∧ (∀ b cs, RowAt P.W1 b 112 cs → RowAt w b 112 cs) ∧ (b8 = false → OwnPt w P.W0.heap.size (.slice P.aS P.nS P.cS) P.LS) ∧ (b8 = true → OwnPt w P.W0.heap.size (.slice (some ⟨G, 0, none⟩) (P.nS + 1) CP) (P.LS ++ [P.BX])) ∧ (b7 = true → b8 = false → RowAt w X7 110 #[.pointer (some ⟨P.BX, 0, none⟩)]) ∧ (P.LS.length = P.nS ∧ P.nS ≤ 1000000 ∧ P.W0.heap.size ≤ P.QB)
def pu0I (P : pu0P) (l : Array Bool) (f : Act) (w : World) : Prop :=
  ∃ (b0 b1 b2 b3 b4 b5 b6 b7 b8 b9 b10 b11 : Bool) (X7 : Nat) (G : Nat) (CP : Nat), l = #[b0, b1, b2, b3, b4, b5, b6, b7, b8, b9, b10, b11] ∧ f = { tmps := pu0T P X7 G CP b0 b1 b2 b3 b4 b5 b6 b7 b8 b9 b10 b11, defers := [] } ∧ pu0F P X7 G CP b0 b1 b2 b3 b4 b5 b6 b7 b8 b9 b10 b11 w
theorem pu0M {P : pu0P} {b0 b1 b2 b3 b4 b5 b6 b7 b8 b9 b10 b11 : Bool} (X7 : Nat) (G : Nat) (CP : Nat) {l : Array Bool} {f : Act} {w : World} (hl : l = #[b0, b1, b2, b3, b4, b5, b6, b7, b8, b9, b10, b11]) (hf : f = { tmps := pu0T P X7 G CP b0 b1 b2 b3 b4 b5 b6 b7 b8 b9 b10 b11, defers := [] }) (h : pu0F P X7 G CP b0 b1 b2 b3 b4 b5 b6 b7 b8 b9 b10 b11 w) : pu0I P l f w := ⟨b0, b1, b2, b3, b4, b5, b6, b7, b8, b9, b10, b11, X7, G, CP, hl, hf, h⟩
set_option maxRecDepth 20000 in
set_option maxHeartbeats 20000000 in
theorem pu0_step {Q : Exit → Act → World → Prop} (P : pu0P) (l : Array Bool) (f : Act) (w : World) (hC : Closed pu0O l) (hI : pu0I P l f w) (i : Nat) (h0 : l.getD i true = false) (o : Oper) (ho : pu0O[i]? = some o) (h1 : ∀ e ∈ o.after, Region.binds .any e = true → l.getD e.on false = true) : wpOp Try.prog pu0O Q i (pu0I P (l.setIfInBounds i true)) f w := by
  obtain ⟨b0, b1, b2, b3, b4, b5, b6, b7, b8, b9, b10, b11, X7, G, CP, rfl, rfl, hF⟩ := hI
  have hi : i < 12 := by
    rcases Nat.lt_or_ge i 12 with h | h
    · exact h
    · rw [show pu0O[i]? = none from Array.getElem?_eq_none h] at ho; cases ho
  rcases (by omega : i = 0 ∨ i = 1 ∨ i = 2 ∨ i = 3 ∨ i = 4 ∨ i = 5 ∨ i = 6 ∨ i = 7 ∨ i = 8 ∨ i = 9 ∨ i = 10 ∨ i = 11) with rfl | rfl | rfl | rfl | rfl | rfl | rfl | rfl | rfl | rfl | rfl | rfl
  · obtain rfl : pu0o0 = o := Option.some.inj ho
    obtain rfl : b0 = false := h0
    have hn := wayN_all hC (i := 0) rfl [(9, 0), (10, 0), (11, 0)] [] nk rfl; repeat (obtain ⟨rfl, hn⟩ := hn)
    obtain ⟨hg, ho, hq, hc, hO1, hO2, hT, hk⟩ := hF
    refine wpOp_step (o := pu0o0) rfl (fun K hK => ?_)
    replace hK := hid hK
    simp only [pu0o0, pu0T, sel_f]
    go_simp
    exact hK.out _ _ (pu0M X7 G CP rfl rfl ⟨hg, ho, hq, hc, hO1, hO2, hT, hk⟩)
  · obtain rfl : pu0o1 = o := Option.some.inj ho
    obtain rfl : b1 = false := h0
    have hn := wayN_all hC (i := 1) rfl [(2, 1), (3, 2), (4, 3), (8, 4), (9, 1), (10, 1), (11, 1)] [] nk rfl; repeat (obtain ⟨rfl, hn⟩ := hn)
    obtain ⟨hg, ho, hq, hc, hO1, hO2, hT, hk⟩ := hF
    refine wpOp_step (o := pu0o1) rfl (fun K hK => ?_)
    replace hK := hid hK
    simp only [pu0o1, pu0T, sel_f]
    go_simp
    exact hK.out _ _ (pu0M X7 G CP rfl rfl ⟨hg, ho, hq, hc, hO1, hO2, hT, hk⟩)
  · obtain rfl : pu0o2 = o := Option.some.inj ho
    obtain rfl : b2 = false := h0
    have hn := wayP_all (o := pu0o2) hC h1 [(1, none)] [] nk rfl; repeat (obtain ⟨rfl, hn⟩ := hn)
    have hn := wayN_all hC (i := 2) rfl [(3, 2), (4, 3), (8, 4), (9, 2), (10, 2), (11, 2)] [] nk rfl; repeat (obtain ⟨rfl, hn⟩ := hn)
    obtain ⟨hg, ho, hq, hc, hO1, hO2, hT, hk⟩ := hF
    refine wpOp_step (o := pu0o2) rfl (fun K hK => ?_)
    replace hK := hid hK
    simp only [pu0o2, pu0T, sel_t, sel_f]
    go_simp
    exact hK.out _ _ (pu0M X7 G CP rfl rfl ⟨hg, ho, hq, hc, hO1, hO2, hT, hk⟩)
  · obtain rfl : pu0o3 = o := Option.some.inj ho
    obtain rfl : b3 = false := h0
    have hn := wayP_all (o := pu0o3) hC h1 [(2, none), (1, some 2)] [] nk rfl; repeat (obtain ⟨rfl, hn⟩ := hn)
    have hn := wayN_all hC (i := 3) rfl [(4, 3), (8, 4), (9, 3), (10, 3), (11, 3)] [] nk rfl; repeat (obtain ⟨rfl, hn⟩ := hn)
    obtain ⟨hg, ho, hq, hc, hO1, hO2, hT, hk⟩ := hF
    refine wpOp_step (o := pu0o3) rfl (fun K hK => ?_)
    replace hK := hid hK
    simp only [pu0o3, pu0T, sel_t, sel_f]
    go_simp
    exact hK.out _ _ (pu0M X7 G CP rfl rfl ⟨hg, ho, hq, hc, hO1, hO2, hT, hk⟩)
  · obtain rfl : pu0o4 = o := Option.some.inj ho
    obtain rfl : b4 = false := h0
    have hn := wayP_all (o := pu0o4) hC h1 [(3, none), (2, some 3), (1, some 2)] [] nk rfl; repeat (obtain ⟨rfl, hn⟩ := hn)
    have hn := wayN_all hC (i := 4) rfl [(8, 4), (9, 4), (10, 4), (11, 4)] [] nk rfl; repeat (obtain ⟨rfl, hn⟩ := hn)
    obtain ⟨hg, ho, hq, hc, hO1, hO2, hT, hk⟩ := hF
    have hq0 : RowAt w P.QB 107 #[P.vC, .slice P.aS P.nS P.cS] := hq
    have c2 := hq0.cell 1
    refine wpOp_step (o := pu0o4) rfl (fun K hK => ?_)
    replace hK := hid hK
    simp only [pu0o4, pu0T, sel_t, sel_f]
    go_simp
    exact hK.out _ _ (pu0M X7 G CP rfl rfl ⟨hg, ho, hq, hc, hO1, hO2, hT, hk⟩)
  · obtain rfl : pu0o5 = o := Option.some.inj ho
    obtain rfl : b5 = false := h0
    have hn := wayN_all hC (i := 5) rfl [(6, 5), (7, 6), (8, 7), (9, 5), (10, 5), (11, 5)] [] nk rfl; repeat (obtain ⟨rfl, hn⟩ := hn)
    obtain ⟨hg, ho, hq, hc, hO1, hO2, hT, hk⟩ := hF
    refine wpOp_step (o := pu0o5) rfl (fun K hK => ?_)
    replace hK := hid hK
    simp only [pu0o5, pu0T, sel_f]
    go_simp
    exact hK.out _ _ (pu0M X7 G CP rfl rfl ⟨hg, ho, hq, hc, hO1, hO2, hT, hk⟩)
  · obtain rfl : pu0o6 = o := Option.some.inj ho
    obtain rfl : b6 = false := h0
    have hn := wayP_all (o := pu0o6) hC h1 [(5, none)] [] nk rfl; repeat (obtain ⟨rfl, hn⟩ := hn)
    have hn := wayN_all hC (i := 6) rfl [(7, 6), (8, 7), (9, 6), (10, 6), (11, 6)] [] nk rfl; repeat (obtain ⟨rfl, hn⟩ := hn)
    obtain ⟨hg, ho, hq, hc, hO1, hO2, hT, hk⟩ := hF
    have ta := taQ P.BX
    refine wpOp_step (o := pu0o6) rfl (fun K hK => ?_)
    replace hK := hid hK
    simp only [pu0o6, pu0T, sel_t, sel_f]
    go_simp
    exact hK.out _ _ (pu0M X7 G CP rfl rfl ⟨hg, ho, hq, hc, hO1, hO2, hT, hk⟩)
  · obtain rfl : pu0o7 = o := Option.some.inj ho
    obtain rfl : b7 = false := h0
    have hn := wayP_all (o := pu0o7) hC h1 [(6, none), (5, some 6)] [] nk rfl; repeat (obtain ⟨rfl, hn⟩ := hn)
    have hn := wayN_all hC (i := 7) rfl [(8, 7), (9, 7), (10, 7), (11, 7)] [] nk rfl; repeat (obtain ⟨rfl, hn⟩ := hn)
    obtain ⟨hg, ho, hq, hc, hO1, hO2, hT, hk⟩ := hF
    refine wpOp_step (o := pu0o7) rfl (fun K hK => ?_)
    replace hK := hid hK
    simp only [pu0o7, pu0T, sel_t, sel_f]
    go_simp
    exact hK.out _ _ (pu0M w.heap.size G CP rfl rfl ⟨hg.trans (RQ.below ((Below.refl _ _).alloc (Nat.le_refl _) _)), ho.alloc ho.size _, hq.alloc _, fun b cs r => (hc b cs r).alloc _, fun h => World.ownsRow.alloc (hO1 h) _, fun h => Bool.noConfusion h, fun _ _ => RowAt.new w _ _, hk⟩)
  · obtain rfl : pu0o8 = o := Option.some.inj ho
    obtain rfl : b8 = false := h0
    have hn := wayP_all (o := pu0o8) hC h1 [(7, none), (4, none), (6, some 7), (5, some 6), (3, some 4), (2, some 3), (1, some 2)] [] nk rfl; repeat (obtain ⟨rfl, hn⟩ := hn)
    have hn := wayN_all hC (i := 8) rfl [(9, 8), (10, 8), (11, 8)] [] nk rfl; repeat (obtain ⟨rfl, hn⟩ := hn)
    obtain ⟨hg, ho, hq, hc, hO1, hO2, hT, hk⟩ := hF
    refine wpOp_step (o := pu0o8) rfl (fun K hK => ?_)
    replace hK := hid hK
    have hO := hO1 rfl
    have hq0 : RowAt w P.QB 107 #[P.vC, .slice P.aS P.nS P.cS] := hq
    obtain ⟨kl, kn, kq⟩ := hk
    have hk : P.LS.length = P.nS ∧ P.nS ≤ 1000000 ∧ P.W0.heap.size ≤ P.QB := ⟨kl, kn, kq⟩
    refine step_append_ptE P.W0.heap.size _ (by rfl) _ _ (by rfl) _ P.LS P.nS kl P.BX (by rfl) hO ho.size X7 (hT rfl rfl) (by rfl) (by omega) ?_
    intro g3 c3 w3 hO3 hg3
    exact hK.out _ _ (pu0M X7 g3 c3 rfl rfl ⟨hg.trans (RQ.own hO hg3), ho.grown hg3 ho.size (fun k e => (ownPt_row hO e).1), (hg3.block P.QB hq0.lt (fun e => by obtain ⟨_, _, ds, hd⟩ := ownPt_row hO e.symm; exact rowApartQ hq0 hd (by decide) rfl)).trans hq, fun b cs r => (hg3.block b (hc b cs r).lt (fun e => by obtain ⟨_, _, ds, hd⟩ := ownPt_row hO e.symm; exact rowApartQ (hc b cs r) hd (by decide) rfl)).trans (hc b cs r), fun h => Bool.noConfusion h, fun _ => hO3, fun _ h => Bool.noConfusion h, hk⟩)
  · obtain rfl : pu0o9 = o := Option.some.inj ho
    obtain rfl : b9 = false := h0
    have hn := wayP_all (o := pu0o9) hC h1 [(8, none), (7, none), (6, none), (5, none), (4, none), (3, none), (2, none), (1, none), (0, none)] [] nk rfl; repeat (obtain ⟨rfl, hn⟩ := hn)
    have hn := wayN_all hC (i := 9) rfl [(10, 9), (11, 10)] [] nk rfl; repeat (obtain ⟨rfl, hn⟩ := hn)
    obtain ⟨hg, ho, hq, hc, hO1, hO2, hT, hk⟩ := hF
    refine wpOp_step (o := pu0o9) rfl (fun K hK => ?_)
    replace hK := hid hK
    simp only [pu0o9, pu0T, sel_t, sel_f]
    go_simp
    exact hK.out _ _ (pu0M X7 G CP rfl rfl ⟨hg, ho, hq, hc, hO1, hO2, hT, hk⟩)
  · obtain rfl : pu0o10 = o := Option.some.inj ho
    obtain rfl : b10 = false := h0
    have hn := wayP_all (o := pu0o10) hC h1 [(9, none), (8, none), (7, none), (6, none), (5, none), (4, none), (3, none), (2, none), (1, none), (0, none)] [] nk rfl; repeat (obtain ⟨rfl, hn⟩ := hn)
    have hn := wayN_all hC (i := 10) rfl [(11, 10)] [] nk rfl; repeat (obtain ⟨rfl, hn⟩ := hn)
    obtain ⟨hg, ho, hq, hc, hO1, hO2, hT, hk⟩ := hF
    refine wpOp_step (o := pu0o10) rfl (fun K hK => ?_)
    replace hK := hid hK
    simp only [pu0o10, pu0T, sel_t, sel_f]
    go_simp
    exact hK.out _ _ (pu0M X7 G CP rfl rfl ⟨hg, ho, hq, hc, hO1, hO2, hT, hk⟩)
  · obtain rfl : pu0o11 = o := Option.some.inj ho
    obtain rfl : b11 = false := h0
    have hn := wayP_all (o := pu0o11) hC h1 [(10, none), (8, none), (7, none), (6, none), (5, none), (4, none), (3, none), (2, none), (1, none), (0, none), (9, some 10)] [] nk rfl; repeat (obtain ⟨rfl, hn⟩ := hn)
    obtain ⟨hg, ho, hq, hc, hO1, hO2, hT, hk⟩ := hF
    have hq0 : RowAt w P.QB 107 #[P.vC, .slice P.aS P.nS P.cS] := hq
    have c2 := hq0.cell 1
    have f2 := hq0.free 1
    have hO := hO2 rfl
    refine wpOp_step (o := pu0o11) rfl (fun K hK => ?_)
    replace hK := hid hK
    simp only [pu0o11, pu0T, sel_t]
    go_simp
    exact hK.out _ _ (pu0M X7 G CP rfl rfl ⟨hg.trans (RQ.grown (grown_setCellQ _ _ _ _) hq0 (.inl rfl)), ho.grown (grown_setCellQ _ _ _ _) ho.size (fun k e => by have := Option.some.inj e; omega), hq0.set 1 _, fun b cs r => (hc b cs r).other _ _ (rowApartQ (hc b cs r) hq0 (by decide)), fun h => Bool.noConfusion h, fun _ => hO.setQ (fun g e => by obtain ⟨_, _, ds, hd⟩ := ownPt_row hO e; exact rowApartQ hd hq0 (by decide)), fun _ h => Bool.noConfusion h, hk⟩)
set_option maxRecDepth 20000 in
set_option maxHeartbeats 4000000 in
theorem pu0_wp {Q : Exit → Act → World → Prop} {rid : Nat} (W0 W1 : World) (QB BX nS cS : Nat) (aS : Option Addr) (LS : List Nat) (vC : Value) {s2 s3 s4 s5 s6 s7 s8 s9 s10 s11 s12 s13 s14 : Value} (w : World) (hg : RQ W1 w) (ho : Below W0.heap.size W0 w) (hq : RowAt w QB 107 #[vC, .slice aS nS cS]) (hc : ∀ b cs, RowAt W1 b 112 cs → RowAt w b 112 cs) (hO1 : OwnPt w W0.heap.size (.slice aS nS cS) LS) (hk : LS.length = nS ∧ nS ≤ 1000000 ∧ W0.heap.size ≤ QB)
    (fin : ∀ (X7 : Nat) (G : Nat) (CP : Nat) (w' : World), (RQ W1 w') → (Below W0.heap.size W0 w') → (RowAt w' QB 107 #[vC, .slice (some ⟨G, 0, none⟩) (nS + 1) CP]) → (∀ b cs, RowAt W1 b 112 cs → RowAt w' b 112 cs) → (OwnPt w' W0.heap.size (.slice (some ⟨G, 0, none⟩) (nS + 1) CP) (LS ++ [BX])) → (LS.length = nS ∧ nS ≤ 1000000 ∧ W0.heap.size ≤ QB) → Q .normal { tmps := #[.pointer (some ⟨QB, 0, none⟩), .iface 110 (.pointer (some ⟨BX, 0, none⟩)), s2, s3, .pointer (some ⟨QB, 0, none⟩), .pointer (some ⟨QB, 0, none⟩), .pointer (some ⟨QB, 0, none⟩), .pointer (some ⟨QB, 1, none⟩), .slice aS nS cS, .iface 110 (.pointer (some ⟨BX, 0, none⟩)), .pointer (some ⟨BX, 0, none⟩), .slice (some ⟨X7, 0, none⟩) 1 1, .slice (some ⟨G, 0, none⟩) (nS + 1) CP, .pointer (some ⟨QB, 0, none⟩), .pointer (some ⟨QB, 1, none⟩)], defers := [] } w') :
    (Code.region rid pu0O true).wp Try.prog Q { tmps := #[.pointer (some ⟨QB, 0, none⟩), .iface 110 (.pointer (some ⟨BX, 0, none⟩)), s2, s3, s4, s5, s6, s7, s8, s9, s10, s11, s12, s13, s14], defers := [] } w := by
  refine wp_region_inv (ops := pu0O) (pu0I ⟨W0, W1, QB, BX, nS, cS, aS, LS, vC, s2, s3, s4, s5, s6, s7, s8, s9, s10, s11, s12, s13, s14⟩) (by kernel_rfl) (by kernel_rfl) (fun l f v hI => ?_) (fun l f v hC hI i h0 o ho h1 => pu0_step ⟨W0, W1, QB, BX, nS, cS, aS, LS, vC, s2, s3, s4, s5, s6, s7, s8, s9, s10, s11, s12, s13, s14⟩ l f v hC hI i h0 o ho h1) (fun l f v hI hall => ?_) ?_
  · obtain ⟨_, _, _, _, _, _, _, _, _, _, _, _, _, _, _, rfl, _⟩ := hI; rfl
  · obtain ⟨b0, b1, b2, b3, b4, b5, b6, b7, b8, b9, b10, b11, X7, G, CP, rfl, rfl, hg, ho, hq, hc, hO1, hO2, hT, hk⟩ := hI
    have hn := allT hall [0, 1, 2, 3, 4, 5, 6, 7, 8, 9, 10, 11] rfl; repeat (obtain ⟨rfl, hn⟩ := hn)
    exact fin X7 G CP v hg ho hq hc (hO2 rfl) hk
  · exact ⟨false, false, false, false, false, false, false, false, false, false, false, false, 0, 0, 0, rfl, rfl, hg.trans (RQ.below (Below.refl _ _).drew), ho.drew, hq.drew, fun b cs r => (hc b cs r).drew, fun _ => World.ownsRow.drew hO1, fun h => Bool.noConfusion h, fun h => Bool.noConfusion h, hk⟩
end Go.Proofs.Ytekdphfifdfmbaa
