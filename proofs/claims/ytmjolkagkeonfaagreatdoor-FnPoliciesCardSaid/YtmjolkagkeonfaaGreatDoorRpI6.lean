import Derived.Test.YtmjolkagkeonfaaGreatDoorRpI5
namespace Go.Proofs.YtmjolkagkeonfaaGreatDoor
open Go.RowKit
set_option linter.unusedVariables false
/-! The program's ReadPolicy. -/
/-- what is read: v stands for the statements -/
def AnsP (w : World) (t : ByteArray) (e : Ending) (w' : World) : Prop :=
  ∃ v, e = .returned (.agg #[.int .i64 (polO t).1, .int .i64 (polO t).2.1, v]) ∧ PolAt w' w.heap.size v (polO t).2.2 ∧ Below w.heap.size w w'
set_option maxRecDepth 20000 in
set_option maxHeartbeats 4000000 in
theorem iRpClo (bt bl : Nat) (t : ByteArray) (ht : t.size ≤ 10000) (w : World) (hv : RdV w) (c1 : w.cell? ⟨bt, 0, none⟩ = some (.string t)) (r2 : RowAt w bl 23 #[.slice none 0 0]) :
    Calls Tryz.prog 35 #[.pointer (some ⟨bt, 0, none⟩), .pointer (some ⟨bl, 0, none⟩)] w fun e w' =>
      (∃ v L, e = .returned (.tuple #[]) ∧ rdP 0 [] (splB 10 t) = (0, 0, L) ∧ PolAt w' w.heap.size v L ∧ RowAt w' bl 23 #[v] ∧ w.grownBy w' (some bl)) ∨ (∃ c l : Int, ThrownAt e c l ∧ ¬ c = 0 ∧ rdP 0 [] (splB 10 t) = (c, l, []) ∧ Below w.heap.size w w') := by
  have K := hid (iRdS t ht w hv)
  have R2 := hid r2
  clear hv r2
  go_enter Tryz.func35, Tryz.ntmps35
  go_wp2_with fail
  refine K.out.mono ?_
  rintro e w2 ⟨⟨v, L, rfl, hR, hP⟩ | ⟨c, l, hT, hc, hR⟩, hB⟩
  · obtain ⟨Rs, X, hP⟩ := hP
    obtain ⟨a3, c3, rfl⟩ := hP.own.slice
    have HR := hid hR
    have P2 := hid hP
    have B2 := hid hB
    have R3 := hid (R2.out.below hB R2.out.lt)
    have x0 := R3.out.cell 0
    have f0 := R3.out.free 0
    have hlt : Hid (bl < w.heap.size) := R2.out.lt
    obtain ⟨m, hm⟩ : ∃ m, m = Rs.length := ⟨_, rfl⟩
    rw [← hm] at P2 ⊢
    clear hR hP hB K c1 hm
    go_wp2
    go_end0
    refine .inl ⟨.slice a3 m c3, L, rfl, HR.out, ⟨Rs, X, ?_⟩, R3.out.set 0 _, grown_trans (below_grown B2.out _) grown_set⟩
    have gs : w2.grownBy (w2.setCell ⟨bl, 0, none⟩ (.slice a3 m c3)) (some bl) := grown_set
    have hl := hlt.out
    refine ⟨P2.out.own.keep fun g' cs' hb' hr' => ?_, P2.out.len, P2.out.lo, Nat.le_trans P2.out.hi gs.size, fun k hk => (P2.out.at_ k hk).keep fun g' t' cs' h1' h2' ht' hr' => ?_⟩
    · refine (gs.block g' hr'.lt fun e => ?_).trans hr'
      have e := Option.some.inj e
      have := (P2.out.own.row hb').1
      omega
    · refine (gs.block g' hr'.lt fun e => ?_).trans hr'
      have e := Option.some.inj e
      have := P2.out.mono 0 k (by omega) (by omega)
      have := P2.out.lo
      omega
  · unfold ThrownAt at hT
    subst hT
    have HC := hid hc
    have HR := hid hR
    have B2 := hid hB
    clear hc hR hB K
    go_wp2
    exact ⟨rfl, .inr ⟨c, l, rfl, HC.out, HR.out, B2.out⟩⟩
set_option maxRecDepth 20000 in
set_option maxHeartbeats 4000000 in
theorem iRpCaught (bt bl : Nat) (t : ByteArray) (ht : t.size ≤ 10000) (w : World) (hv : RdV w) (c1 : w.cell? ⟨bt, 0, none⟩ = some (.string t)) (r2 : RowAt w bl 23 #[.slice none 0 0]) :
    Calls Tryz.prog 31 #[.func (.func 35) #[] #[.pointer (some ⟨bt, 0, none⟩), .pointer (some ⟨bl, 0, none⟩)]] w fun e w' =>
      ∃ v, e = .returned (.agg #[.int .i64 (rdP 0 [] (splB 10 t)).1, .int .i64 (rdP 0 [] (splB 10 t)).2.1]) ∧ PolAt w' w.heap.size v (rdP 0 [] (splB 10 t)).2.2 ∧ RowAt w' bl 23 #[v] ∧ w.grownBy w' (some bl) := by
  have hmf : ∀ (fn : Fn) (first cap : Array Value) (w : World), (Instr.makeFunc fn first cap).run Tryz.prog w = .ok (.func fn first cap) w := fun _ _ _ _ => rfl
  obtain ⟨W0, hW0⟩ : ∃ W, W = w.alloc (.cells #[.int .i64 0, .int .i64 0] 86) := ⟨_, rfl⟩
  have B0 : Hid (Below w.heap.size w W0) := by rw [hW0]; exact balCn (Below.refl _ _) _
  have R0 : Hid (RowAt W0 w.heap.size 86 #[.int .i64 0, .int .i64 0]) := by rw [hW0]; exact RowAt.new _ _ _
  have K := hid (iRpClo bt bl t ht W0 (hv.below B0.out) ((B0.out.cell (p := ⟨bt, 0, none⟩) (cell_lt c1)).trans c1) (r2.below B0.out r2.lt))
  have R2w := hid r2
  have hbl : Hid (bl < w.heap.size) := r2.lt
  obtain ⟨RD, hRD⟩ : ∃ x, x = rdP 0 [] (splB 10 t) := ⟨_, rfl⟩
  rw [← hRD] at K ⊢
  clear hv c1 r2 hRD
  go_enter_defers Tryz.func31, Tryz.ntmps31
  go_wp2_with fail
  rw [← hW0]
  clear hW0
  refine K.out.mono ?_
  rintro e w2 (⟨v, L, rfl, hR, hP, hr, hg⟩ | ⟨c, l, hT, hc, hR, hB⟩)
  · have HR := hid hR
    have R2 : Hid (RowAt w2 w.heap.size 86 #[.int .i64 0, .int .i64 0]) := (hg.block _ R0.out.lt (fun e => by have := Option.some.inj e; have := hbl.out; omega)).trans R0.out
    have G2 := hid (grown_trans (below_grown B0.out (some bl)) hg)
    have P2 := hid hP
    have RL := hid hr
    have c0 := R2.out.cell 0
    have c1 := R2.out.cell 1
    have f0 := R2.out.free 0
    have f1 := (R2.out.set 0 (.int .i64 0)).free 1
    have Z0 : Hid (w.heap.size < W0.heap.size) := R0.out.lt
    clear hR hP hr hg K
    go_wp2
    refine leaves_cons (f := 68) (args := #[.pointer (some ⟨w.heap.size, 0, none⟩)]) (by simp) (by simp [go_sem]) ?_
    refine (catch_idle _ _).mono ?_
    rintro e u' w'' ⟨rfl, rfl, rfl⟩
    have R3 : RowAt ((w2.setCell ⟨w.heap.size, 0, none⟩ (.int .i64 0)).setCell ⟨w.heap.size, 1, none⟩ (.int .i64 0)) w.heap.size 86 #[.int .i64 0, .int .i64 0] := (R2.out.set 0 (.int .i64 0)).set 1 (.int .i64 0)
    have gs : w2.grownBy ((w2.setCell ⟨w.heap.size, 0, none⟩ (.int .i64 0)).setCell ⟨w.heap.size, 1, none⟩ (.int .i64 0)) (some w.heap.size) := grown_trans grown_set grown_set
    refine ⟨.agg #[.int .i64 0, .int .i64 0], results_cell_row Tryz.results31 _ _ w.heap.size _ _ _ _ rfl R3 Tryz.underlying86 rfl (by kernel_rfl), v, ?_, ?_, ?_, ?_⟩
    · rw [HR.out]
    · rw [HR.out]
      obtain ⟨Rs, X, P⟩ := P2.out
      have z0 := Z0.out
      refine PolAt.monoB (B := W0.heap.size) ⟨Rs, X, P.own.keep fun g' cs' hb' hr' => ?_, P.len, P.lo, Nat.le_trans P.hi gs.size, fun k hk => (P.at_ k hk).keep fun g' t' cs' h1' h2' ht' hr' => ?_⟩ (by omega)
      · refine (gs.block g' hr'.lt fun e => ?_).trans hr'
        have e := Option.some.inj e
        have := (P.own.row hb').1
        omega
      · refine (gs.block g' hr'.lt fun e => ?_).trans hr'
        have e := Option.some.inj e
        have := P.mono 0 k (by omega) (Nat.le_of_lt hk)
        have := P.lo
        omega
    · have hl := hbl.out
      exact (gs.block bl RL.out.lt (fun e => by have := Option.some.inj e; omega)).trans RL.out
    · exact grown_own G2.out gs (base := w.heap.size) (fun g e => by cases e; exact Nat.le_refl _) (Nat.le_refl _)
  · unfold ThrownAt at hT
    subst hT
    have HR := hid hR
    have R2 := hid (R0.out.below hB R0.out.lt)
    have B2 := hid (B0.out.trans (hB.mono B0.out.size))
    have RL := hid (R2w.out.below B2.out R2w.out.lt)
    clear hc hR hB K
    go_wp2
    refine leaves_cons (f := 68) (args := #[.pointer (some ⟨w.heap.size, 0, none⟩)]) (by simp) (by simp [go_sem]) ?_
    refine (catch_panicking w.heap.size c l [] w2 R2.out).mono ?_
    rintro e u' w'' ⟨rfl, rfl, rfl⟩
    have R3 : RowAt ((w2.setCell ⟨w.heap.size, 0, none⟩ (.int .i64 c)).setCell ⟨w.heap.size, 1, none⟩ (.int .i64 l)) w.heap.size 86 #[.int .i64 c, .int .i64 l] := (R2.out.set 0 (.int .i64 c)).set 1 (.int .i64 l)
    have gs : w2.grownBy ((w2.setCell ⟨w.heap.size, 0, none⟩ (.int .i64 c)).setCell ⟨w.heap.size, 1, none⟩ (.int .i64 l)) (some w.heap.size) := grown_trans grown_set grown_set
    refine ⟨.agg #[.int .i64 c, .int .i64 l], results_cell_row Tryz.results31 _ _ w.heap.size _ _ _ _ rfl R3 Tryz.underlying86 rfl (by kernel_rfl), .slice none 0 0, ?_, ?_, ?_, ?_⟩
    · rw [HR.out]
    · rw [HR.out]; exact PolAt.nil _ _ (Nat.le_trans B2.out.size gs.size)
    · have hl := hbl.out
      exact (gs.block bl RL.out.lt (fun e => by have := Option.some.inj e; omega)).trans RL.out
    · exact grown_own (below_grown B2.out (some bl)) gs (base := w.heap.size) (fun g e => by cases e; exact Nat.le_refl _) (Nat.le_refl _)
set_option maxRecDepth 20000 in
set_option maxHeartbeats 8000000 in
theorem iReadP (t : ByteArray) (ht : t.size ≤ 1048576) (w : World) (hv : RdV w) :
    Calls Tryz.prog 11 #[.string t] w fun e w' => AnsP w t e w' := by
  obtain ⟨W1, hW1⟩ : ∃ W, W = (w.alloc (.cells #[.string t] 9)).alloc (.cells #[.int .i64 0, .int .i64 0, .slice none 0 0] 28) := ⟨_, rfl⟩
  have B1 : Hid (Below w.heap.size w W1) := by rw [hW1]; exact ((Below.refl _ _).alloc (Nat.le_refl _) _).alloc (by rw [size_al]; omega) _
  have R0 : Hid (RowAt W1 w.heap.size 9 #[.string t]) := by rw [hW1]; exact (RowAt.new _ _ _).alloc _
  have R1 : Hid (RowAt W1 (w.heap.size + 1) 28 #[.int .i64 0, .int .i64 0, .slice none 0 0]) := by rw [hW1]; exact RowAt.next _ _ _ (by rw [size_al])
  have c0 := R0.out.cell 0
  by_cases h0 : t.size ≤ 10000
  case neg =>
    have hp : Hid (polO t = (2, 0, [])) := by show _ = _; unfold polO; rw [if_neg h0]
    have d0 : (10000 : Int) < (t.size : Int) := by omega
    clear h0
    go_enter Tryz.func11, Tryz.ntmps11
    go_upto_region 1 with fail
    rw [← hW1]
    clear hW1
    go_wp2_with (refine wpList_store_row rfl 28 (.tmp 2) (.tmp 8) rfl (w.heap.size + 1) #[.int .i64 2, .int .i64 0, .slice none 0 0] rfl rfl _ _ R1.out (by kernel_rfl) rfl (by simp [Value.oneCell']) ?_)
    refine bodyPost_ret (v := .agg #[.int .i64 2, .int .i64 0, .slice none 0 0]) ?_ rfl ⟨.slice none 0 0, ?_, ?_, ?_⟩
    · exact results_cell_row Tryz.results11 _ _ (w.heap.size + 1) _ _ _ _ rfl (R1.out.setRow _) Tryz.underlying28 rfl (by kernel_rfl)
    · rw [hp.out]
    · rw [hp.out]; exact PolAt.nil _ _ (by rw [setRow_size]; exact B1.out.size)
    · exact below_setRow B1.out _ _ (by omega)
  have hp : Hid (polO t = rdP 0 [] (splB 10 t)) := by show _ = _; unfold polO; rw [if_pos h0]
  have d0 : ¬ (10000 : Int) < (t.size : Int) := by omega
  obtain ⟨W2, hW2⟩ : ∃ W, W = W1.alloc (.cells #[.slice none 0 0] 23) := ⟨_, rfl⟩
  have B2 : Hid (Below w.heap.size w W2) := by rw [hW2]; exact B1.out.alloc B1.out.size _
  have b12 : Below W1.heap.size W1 W2 := by rw [hW2]; exact (Below.refl _ _).alloc (Nat.le_refl _) _
  have R1' := hid (R1.out.below b12 R1.out.lt)
  have RL : Hid (RowAt W2 W1.heap.size 23 #[.slice none 0 0]) := by rw [hW2]; exact RowAt.new _ _ _
  have Z1 : Hid (w.heap.size + 1 < W1.heap.size) := R1.out.lt
  have K := hid (iRpCaught w.heap.size W1.heap.size t h0 W2 (hv.below B2.out) ((b12.cell (p := ⟨w.heap.size, 0, none⟩) R0.out.lt).trans c0) RL.out)
  obtain ⟨RD, hRD⟩ : ∃ x, x = rdP 0 [] (splB 10 t) := ⟨_, rfl⟩
  rw [← hRD] at hp K
  clear hRD b12 h0 hv
  have hmf : ∀ (fn : Fn) (first cap : Array Value) (w : World), (Instr.makeFunc fn first cap).run Tryz.prog w = .ok (.func fn first cap) w := fun _ _ _ _ => rfl
  go_enter Tryz.func11, Tryz.ntmps11
  go_upto_region 1 with fail
  rw [← hW1]
  clear hW1
  go_upto_region 4 with fail
  rw [← hW2]
  clear hW2
  obtain ⟨XL, hXL⟩ : ∃ x, x = W1.heap.size := ⟨_, rfl⟩
  rw [← hXL] at K RL Z1 ⊢
  have HXL := hid hXL
  clear hXL
  go_wp2_with fail
  refine K.out.mono ?_
  rintro e w3 ⟨v, rfl, hP, hr, hg⟩
  have P3 := hid hP
  have RV := hid hr
  have R3 : Hid (RowAt w3 (w.heap.size + 1) 28 #[.int .i64 0, .int .i64 0, .slice none 0 0]) := (hg.block _ R1'.out.lt (fun e => by have := Option.some.inj e; have := Z1.out; omega)).trans R1'.out
  have B3 : Hid (Below w.heap.size w w3) := B2.out.grown hg B2.out.size (fun y hy => by have := Option.some.inj hy; have := Z1.out; omega)
  have G3 := hid hg.size
  clear hP hr hg K
  obtain ⟨rc, rl, rL⟩ := RD
  dsimp only at P3 hp ⊢
  obtain ⟨Rs, X, hP⟩ := P3.out
  obtain ⟨a3, c3, rfl⟩ := hP.own.slice
  have PP := hid hP
  obtain ⟨m, hm⟩ : ∃ m, m = Rs.length := ⟨_, rfl⟩
  rw [← hm] at PP RV
  clear hP P3 hm
  obtain ⟨W4, hW4⟩ : ∃ W, W = w3.alloc (.cells #[.int .i64 rc, .int .i64 rl] 86) := ⟨_, rfl⟩
  have b34 : Below w3.heap.size w3 W4 := by rw [hW4]; exact (Below.refl _ _).alloc (Nat.le_refl _) _
  have R4 : Hid (RowAt W4 w3.heap.size 86 #[.int .i64 rc, .int .i64 rl]) := by rw [hW4]; exact RowAt.new _ _ _
  have y0 := R4.out.cell 0
  have y1 := R4.out.cell 1
  have y2 := (RV.out.below b34 RV.out.lt).cell 0
  have R5 := hid (R3.out.below b34 R3.out.lt)
  have P5 := hid (PP.out.below b34)
  have B5 := hid (B3.out.trans (b34.mono B3.out.size))
  have Z2 : Hid (w.heap.size + 1 < W2.heap.size) := R1'.out.lt
  clear b34 PP R3
  go_upto_region 5 with ((refine wpList_store_row rfl 86 (.tmp 4) (.tmp 10) rfl w3.heap.size #[.int .i64 rc, .int .i64 rl] rfl rfl _ _ (RowAt.new w3 _ _) (by kernel_rfl) rfl (by simp [Value.oneCell']) ?_); rw [World.setRow_alloc_new])
  rw [← hW4]
  clear hW4
  go_wp2_with (refine wpList_store_row rfl 28 (.tmp 2) (.tmp 16) rfl (w.heap.size + 1) #[.int .i64 rc, .int .i64 rl, .slice a3 m c3] rfl rfl _ _ R5.out (by kernel_rfl) rfl (by simp [Value.oneCell']) ?_)
  refine bodyPost_ret (v := .agg #[.int .i64 rc, .int .i64 rl, .slice a3 m c3]) ?_ rfl ⟨.slice a3 m c3, ?_, ?_, ?_⟩
  · exact results_cell_row Tryz.results11 _ _ (w.heap.size + 1) _ _ _ _ rfl (R5.out.setRow _) Tryz.underlying28 rfl (by kernel_rfl)
  · rw [hp.out]
  · rw [hp.out]
    have gs : W4.grownBy (W4.setRow (w.heap.size + 1) #[.int .i64 rc, .int .i64 rl, .slice a3 m c3]) (some (w.heap.size + 1)) := grown_setRow
    have z2 := Z2.out
    refine PolAt.monoB (B := W2.heap.size) ⟨Rs, X, P5.out.own.keep fun g' cs' hb' hr' => ?_, P5.out.len, P5.out.lo, Nat.le_trans P5.out.hi gs.size, fun k hk => (P5.out.at_ k hk).keep fun g' t' cs' h1' h2' ht' hr' => ?_⟩ (by omega)
    · refine (gs.block g' hr'.lt fun e => ?_).trans hr'
      have e := Option.some.inj e
      have := (P5.out.own.row hb').1
      omega
    · refine (gs.block g' hr'.lt fun e => ?_).trans hr'
      have e := Option.some.inj e
      have := P5.out.mono 0 k (by omega) (Nat.le_of_lt hk)
      have := P5.out.lo
      omega
  · exact below_setRow B5.out _ _ (by omega)
end Go.Proofs.YtmjolkagkeonfaaGreatDoor
