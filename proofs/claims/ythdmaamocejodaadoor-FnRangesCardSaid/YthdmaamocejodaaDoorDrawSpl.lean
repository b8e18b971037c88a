import Derived.Test.YthdmaamocejodaaDoorDraw2
import Derived.Test.YthdmaamocejodaaDoorRows1
import Derived.Deep.CutRange
namespace Go.Proofs.YthdmaamocejodaaDoor
open Go.RowKit
/-! A drawn code, a drawn unit, a drawn object. -/
theorem RowAt.farD {w w' : World} {b : Nat} {t : TypeId} {c : Array Value} {r : Option Nat} (h : RowAt w b t c) (hg : w.grownBy w' r) (hne : some b ≠ r) : RowAt w' b t c := (hg.block b h.lt hne).trans h
theorem grown_setRowD (w : World) (b : Nat) (c : Array Value) : w.grownBy (w.setRow b c) (some b) := ⟨rfl, rfl, rfl, by rw [setRow_size]; exact Nat.le_refl _, fun k _ hk => setRow_other w b k c (fun e => hk (by rw [e]))⟩
theorem results_row_tmp2 {P : Program} {fn : Func} {p u u' : Tmp} {ty : TypeId} (h : fn.results = #[.cell p ty, .tmp u, .tmp u']) (tmps : Array Value) (w : World) (g : Nat) (t : TypeId) (cs : Array Value) (fr : Nat × Nat) (d : TypeDesc) (v v' : Value)
    (hp : tmps.getD p undef = .pointer (some ⟨g, 0, none⟩)) (hv : tmps.getD u undef = v) (hv2 : tmps.getD u' undef = v') (hg : w.heap[g]? = some (.cells cs t fr))
    (hu : P.underlying ty = some d) (hd : (match d with | .struct _ | .array _ _ => true | _ => false) = true) (hi : (P.info? ty).map (·.size) = some cs.size) :
    (results fn tmps).run P w = .ok (.tuple #[.agg cs, v, v']) w := by
  have hp' : tmps[p]?.getD undef = .pointer (some ⟨g, 0, none⟩) := by simpa using hp
  have hv' : tmps[u]?.getD undef = v := by simpa using hv
  have hv2' : tmps[u']?.getD undef = v' := by simpa using hv2
  simp [results, h, hp', hv', hv2', asAddr, run_loadVar_row w g t ty cs fr d hg hu hd hi]
theorem oneD (x y z : Int) : (#[.int .i64 x, .int .i64 y, .int .i64 z] : Array Value).all (·.oneCell') = true := by simp [Value.oneCell']
theorem grown_low {w w1 w2 : World} {c g : Nat} (h : w.grownBy w1 (some c)) (h2 : w1.grownBy w2 (some g)) (hg : w.heap.size ≤ g) : w.grownBy w2 (some c) :=
  ⟨h2.os.trans h.os, h2.tape.trans h.tape, h2.output.trans h.output, Nat.le_trans h.size h2.size, fun k hk hne => (h2.block k (Nat.lt_of_lt_of_le hk h.size) (fun e => by cases e; omega)).trans (h.block k hk hne)⟩
set_option maxRecDepth 20000 in
set_option maxHeartbeats 2000000 in
theorem code2_all (W0 w : World) (c : Nat) (a : Option Addr) (len cap p : Nat) (h : Src W0 w c a len cap p) (hp : p ≤ 1000000) :
    Calls Tryd.prog 10 #[.pointer (some ⟨c, 0, none⟩)] w fun e w' => (∃ k m g : Int, e = .returned (.agg #[.int .i64 k, .int .i64 m, .int .i64 g])) ∧ (∃ p', Src W0 w' c a len cap p' ∧ p' ≤ p + 4) ∧ w.grownBy w' (some c) := by
  have hcl := h.lt
  have R0 : Hid (RowAt (w.alloc (.cells #[.int .i64 0, .int .i64 0, .int .i64 0] 24)) w.heap.size 24 #[.int .i64 0, .int .i64 0, .int .i64 0]) := RowAt.new _ _ _
  have S0 : Hid (Src W0 (w.alloc (.cells #[.int .i64 0, .int .i64 0, .int .i64 0] 24)) c a len cap p) := h.far (World.grownBy_alloc w _ none) (by simp) (by intro g hg; cases hg)
  have hw0 := h.2.2.2.1.size
  go_enter Tryd.func10, Tryd.ntmps10
  go_wp2_with fail
  refine (n_all W0 _ c a len cap p 6 S0.out (by omega) (by omega) (by omega)).mono ?_
  rintro e w1 ⟨⟨r1, rfl, hr10, hr11⟩, hs1, hg1⟩
  have S1 := hid hs1
  have R1 := hid (RowAt.farD R0.out hg1 (by simp; omega))
  have G1 : Hid (w.grownBy w1 (some c)) := grown_trans (World.grownBy_alloc w _ _) hg1
  clear hs1 hg1 R0 S0
  go_wp2_with fail
  refine (n_all W0 _ c a len cap (p + 1) 4 S1.out (by omega) (by omega) (by omega)).mono ?_
  rintro e w2 ⟨⟨r2, rfl, hr20, hr21⟩, hs2, hg2⟩
  have R2 := hid (RowAt.farD R1.out hg2 (by simp; omega))
  have G2 : Hid (w.grownBy w2 (some c)) := grown_trans G1.out hg2
  obtain ⟨k, hk⟩ : ∃ k : Int, k = 1 + r1 := ⟨_, rfl⟩
  have ek : 1 + r1 = k := hk.symm
  have hk1 : 1 ≤ k ∧ k ≤ 7 := by omega
  have hz2 := R2.out.lt
  have R3 : Hid (RowAt (w2.alloc (.cells #[.int .i64 k, .int .i64 r2, .int .i64 0] 24)) w.heap.size 24 #[.int .i64 0, .int .i64 0, .int .i64 0]) := R2.out.alloc _
  have C3 : Hid (RowAt (w2.alloc (.cells #[.int .i64 k, .int .i64 r2, .int .i64 0] 24)) w2.heap.size 24 #[.int .i64 k, .int .i64 r2, .int .i64 0]) := RowAt.new _ _ _
  have S3 : Hid (Src W0 (w2.alloc (.cells #[.int .i64 k, .int .i64 r2, .int .i64 0] 24)) c a len cap (p + 2)) := hs2.far (World.grownBy_alloc w2 _ none) (by simp) (by intro g hg; cases hg)
  have G3 : Hid (w.grownBy (w2.alloc (.cells #[.int .i64 k, .int .i64 r2, .int .i64 0] 24)) (some c)) := grown_trans G2.out (World.grownBy_alloc w2 _ _)
  clear hs2 hg2 R1 R2 G1 G2 S1 hk
  go_wp2_with fail
  refine (one_all W0 _ c a len cap (p + 2) 2 S3.out (by omega) (by omega) (by omega)).mono ?_
  rintro e w4 ⟨⟨b, rfl⟩, hs4, hg4⟩
  have hz4 := hg4.size
  rw [World.size_alloc] at hz4
  have R4 := hid (RowAt.farD R3.out hg4 (by simp; omega))
  have C4 := hid (RowAt.farD C3.out hg4 (by simp; omega))
  have G4 : Hid (w.grownBy w4 (some c)) := grown_trans G3.out hg4
  have S4 := hid hs4
  clear hs4 hg4 R3 C3 S3 G3
  have fin : Hid (∀ (g : Int) (wx : World) (p' : Nat), Src W0 wx c a len cap p' → p' ≤ p + 4 → w.grownBy wx (some c) →
      (∃ k m g' : Int, Ending.returned (.agg #[.int .i64 k, .int .i64 r2, .int .i64 g]) = .returned (.agg #[.int .i64 k, .int .i64 m, .int .i64 g'])) ∧ (∃ p', Src W0 (wx.setRow w.heap.size #[.int .i64 k, .int .i64 r2, .int .i64 g]) c a len cap p' ∧ p' ≤ p + 4) ∧ w.grownBy (wx.setRow w.heap.size #[.int .i64 k, .int .i64 r2, .int .i64 g]) (some c)) := fun g wx p' hs hp' hg =>
    ⟨⟨k, r2, g, rfl⟩, ⟨p', hs.far (grown_setRowD _ _ _) (by simp; omega) (fun q e => by cases e; exact hw0), hp'⟩, grown_low hg (grown_setRowD _ _ _) (Nat.le_refl _)⟩
  cases b with
  | false =>
    have c0 := C4.out.cell 0
    have c1 := C4.out.cell 1
    have c2 := C4.out.cell 2
    go_wp2_with (refine wpList_store_row rfl 24 (.tmp 2) (.tmp 18) rfl w.heap.size #[.int .i64 k, .int .i64 r2, .int .i64 0] rfl rfl _ _ R4.out (by kernel_rfl) rfl (oneD _ _ _) ?_)
    refine bodyPost_ret (v := .agg #[.int .i64 k, .int .i64 r2, .int .i64 0]) ?_ rfl ⟨⟨k, r2, 0, rfl⟩, (fin.out 0 w4 (p + 3) S4.out (by omega) G4.out).2⟩
    exact results_cell_row Tryd.results10 _ _ w.heap.size _ _ _ _ rfl (R4.out.setRow _) Tryd.underlying24 rfl (by kernel_rfl)
  | true =>
    have c0 := C4.out.cell 0
    have ek1 : IntKind.i64.wrap (k + 1) = k + 1 := by rw [IntKind.wrap_i64]; omega
    go_wp2_with fail
    refine (n_all W0 _ c a len cap (p + 3) (k + 1) S4.out (by omega) (by omega) (by omega)).mono ?_
    rintro e w5 ⟨⟨r5, rfl, hr50, hr51⟩, hs5, hg5⟩
    have hz5 := hg5.size
    have hz9 := G4.out.size
    have R5 := hid (RowAt.farD R4.out hg5 (by simp; omega))
    have C5 := hid (RowAt.farD C4.out hg5 (by simp; omega))
    have G5 : Hid (w.grownBy w5 (some c)) := grown_trans G4.out hg5
    have S5 := hid hs5
    clear hs5 hg5 R4 C4 G4 S4 c0
    have c2 := C5.out.cell 2
    have f2 := C5.out.free 2
    obtain ⟨w6, hw6⟩ : ∃ w6, w6 = w5.setCell ⟨w2.heap.size, 2, none⟩ (.int .i64 r5) := ⟨_, rfl⟩
    have g6 : w5.grownBy w6 (some w2.heap.size) := by rw [hw6]; exact ⟨rfl, rfl, rfl, by rw [World.size_setCell]; exact Nat.le_refl _, fun k _ hk => Below.heap_setCell _ _ _ k (fun e => hk (by rw [e]))⟩
    have R6 := hid (RowAt.farD R5.out g6 (by simp; omega))
    have C6 : Hid (RowAt w6 w2.heap.size 24 #[.int .i64 k, .int .i64 r2, .int .i64 r5]) := by rw [hw6]; exact C5.out.set 2 _
    have G6 : Hid (w.grownBy w6 (some c)) := grown_low G5.out g6 (Nat.le_of_lt hz2)
    have S6 := hid (S5.out.far g6 (by simp; omega) (fun q e => by cases e; omega))
    have HW6 := hid hw6
    clear hw6 g6 R5 C5 G5 S5
    go_upto_region 4 with fail
    rw [← HW6.out]
    have d0 := C6.out.cell 0
    have d1 := C6.out.cell 1
    have d2 := C6.out.cell 2
    go_wp2_with (refine wpList_store_row rfl 24 (.tmp 2) (.tmp 18) rfl w.heap.size #[.int .i64 k, .int .i64 r2, .int .i64 r5] rfl rfl _ _ R6.out (by kernel_rfl) rfl (oneD _ _ _) ?_)
    refine bodyPost_ret (v := .agg #[.int .i64 k, .int .i64 r2, .int .i64 r5]) ?_ rfl ⟨⟨k, r2, r5, rfl⟩, (fin.out r5 w6 (p + 4) S6.out (by omega) G6.out).2⟩
    exact results_cell_row Tryd.results10 _ _ w.heap.size _ _ _ _ rfl (R6.out.setRow _) Tryd.underlying24 rfl (by kernel_rfl)
set_option maxRecDepth 20000 in
set_option maxHeartbeats 2000000 in
theorem unit_all (W0 w : World) (c : Nat) (a : Option Addr) (len cap p : Nat) (h : Src W0 w c a len cap p) (hp : p ≤ 1000000) :
    Calls Tryd.prog 11 #[.pointer (some ⟨c, 0, none⟩)] w fun e w' => (∃ u : Int, e = .returned (.int .i64 u)) ∧ (∃ p', Src W0 w' c a len cap p' ∧ p' ≤ p + 4) ∧ w.grownBy w' (some c) := by
  have hcl := h.lt
  have S0 := hid h
  go_enter Tryd.func11, Tryd.ntmps11
  go_wp2_with fail
  refine (one_all W0 _ c a len cap p 20 S0.out (by omega) (by omega) (by omega)).mono ?_
  rintro e w1 ⟨⟨b, rfl⟩, hs1, hg1⟩
  cases b with
  | false =>
    go_wp2_with fail
    refine (n_all W0 _ c a len cap (p + 1) 6 hs1 (by omega) (by omega) (by omega)).mono ?_
    rintro e w2 ⟨⟨r, rfl, hr0, hr1⟩, hs2, hg2⟩
    go_wp2
    go_ret
    exact ⟨⟨_, rfl⟩, ⟨p + 2, hs2, by omega⟩, grown_trans hg1 hg2⟩
  | true =>
    have S1 : Hid (Src W0 (w1.alloc (.cells #[.int .i64 0, .int .i64 4096, .int .i64 4097, .int .i64 (-1)] 2)) c a len cap (p + 1)) := hs1.far (World.grownBy_alloc w1 _ none) (by simp) (by intro g hg; cases hg)
    have B1 : Hid (RowAt (w1.alloc (.cells #[.int .i64 0, .int .i64 4096, .int .i64 4097, .int .i64 (-1)] 2)) w1.heap.size 2 #[.int .i64 0, .int .i64 4096, .int .i64 4097, .int .i64 (-1)]) := RowAt.new _ _ _
    have G1 : Hid (w.grownBy (w1.alloc (.cells #[.int .i64 0, .int .i64 4096, .int .i64 4097, .int .i64 (-1)] 2)) (some c)) := grown_trans hg1 (World.grownBy_alloc w1 _ _)
    have hz1 := hg1.size
    go_wp2_with fail
    refine (n_all W0 _ c a len cap (p + 1) 4 S1.out (by omega) (by omega) (by omega)).mono ?_
    rintro e w2 ⟨⟨r, rfl, hr0, hr1⟩, hs2, hg2⟩
    have B2 := RowAt.farD B1.out hg2 (by simp; omega)
    obtain ⟨q, rfl⟩ := Int.eq_ofNat_of_zero_le hr0
    have hq : q < 4 := by omega
    obtain ⟨u, hu⟩ : ∃ u : Int, w2.cell? ⟨w1.heap.size, q, none⟩ = some (.int .i64 u) := by
      rw [B2.cell]
      match q, hq with
      | 0, _ => exact ⟨_, rfl⟩
      | 1, _ => exact ⟨_, rfl⟩
      | 2, _ => exact ⟨_, rfl⟩
      | 3, _ => exact ⟨_, rfl⟩
    have GG := hid (grown_trans G1.out hg2)
    have S2 := hid hs2
    clear hs2 hg2 B2 B1 G1 S1 hs1 hg1
    go_wp2
    go_ret
    exact ⟨⟨_, rfl⟩, ⟨p + 2, S2.out, by omega⟩, GG.out⟩
set_option maxRecDepth 20000 in
set_option maxHeartbeats 2000000 in
theorem drawSplit_all (w : World) (a : Option Addr) (len cap : Nat) (hc : CodeOk w a len) (hlc : len ≤ cap) :
    Calls Tryd.prog 4 #[.slice a len cap] w fun e w' => (∃ (k m g u : Int) (d : ByteArray), e = .returned (.tuple #[.agg #[.int .i64 k, .int .i64 m, .int .i64 g], .int .i64 u, .string d]) ∧ d.size ≤ 60) ∧ Below w.heap.size w w' := by
  have R0 : Hid (RowAt (w.alloc (.cells #[.int .i64 0, .int .i64 0, .int .i64 0] 24)) w.heap.size 24 #[.int .i64 0, .int .i64 0, .int .i64 0]) := RowAt.new _ _ _
  have hb0 : Below w.heap.size w (w.alloc (.cells #[.int .i64 0, .int .i64 0, .int .i64 0] 24)) := (Below.refl _ _).alloc (Nat.le_refl _) _
  have HB0 := hid hb0
  have HC0 := hid (hc.below hb0)
  clear hb0
  go_enter Tryd.func4, Tryd.ntmps4
  go_wp2_with fail
  refine (source_all _ a len cap HC0.out hlc).mono ?_
  rintro e w1 ⟨rfl, hs1, hb1⟩
  rw [World.size_alloc] at hs1 hb1 ⊢
  have R1 := hid (R0.out.below hb1 (by omega))
  have B1 : Hid (Below w.heap.size w w1) := HB0.out.trans (hb1.mono (by omega))
  clear hb1 R0
  go_wp2_with fail
  refine (code2_all _ w1 _ a len cap 0 hs1 (by omega)).mono ?_
  rintro e w2 ⟨⟨k, m, g, rfl⟩, ⟨p2, hs2, hp2⟩, hg2⟩
  have R2 := hid (RowAt.farD R1.out hg2 (by simp))
  have B2 : Hid (Below w.heap.size w w2) := B1.out.grown hg2 B1.out.size (fun q e => by cases e; omega)
  clear hs1 hg2 R1 B1
  go_wp2_with fail
  refine (unit_all _ w2 _ a len cap p2 hs2 (by omega)).mono ?_
  rintro e w3 ⟨⟨u, rfl⟩, ⟨p3, hs3, hp3⟩, hg3⟩
  have R3 := hid (RowAt.farD R2.out hg3 (by simp))
  have B3 : Hid (Below w.heap.size w w3) := B2.out.grown hg3 B2.out.size (fun q e => by cases e; omega)
  clear hs2 hg3 R2 B2
  go_wp2_with fail
  refine (n_all _ w3 _ a len cap p3 60 hs3 (by omega) (by omega) (by omega)).mono ?_
  rintro e w4 ⟨⟨r, rfl, hr0, hr1⟩, hs4, hg4⟩
  obtain ⟨nn, rfl⟩ := Int.eq_ofNat_of_zero_le hr0
  have R4 := hid (RowAt.farD R3.out hg4 (by simp))
  have B4 : Hid (Below w.heap.size w w4) := B3.out.grown hg4 B3.out.size (fun q e => by cases e; omega)
  clear hs3 hg4 R3 B3
  go_wp2_with fail
  refine (bytes_all _ w4 _ a len cap (p3 + 1) nn hs4 (by omega) (by omega)).mono ?_
  rintro e w5 ⟨⟨t, rfl, ht⟩, ⟨p5, hs5, hp5⟩, hg5⟩
  have R5 := hid (RowAt.farD R4.out hg5 (by simp))
  have B5 : Hid (Below w.heap.size w w5) := B4.out.grown hg5 B4.out.size (fun q e => by cases e; omega)
  clear hs4 hs5 hg5 R4 B4
  go_wp2_with (refine wpList_store_row rfl 24 (.tmp 2) (.tmp 9) rfl w.heap.size #[.int .i64 k, .int .i64 m, .int .i64 g] rfl rfl _ _ R5.out (by kernel_rfl) rfl (oneD _ _ _) ?_)
  refine bodyPost_ret (v := .tuple #[.agg #[.int .i64 k, .int .i64 m, .int .i64 g], .int .i64 u, .string t]) ?_ rfl ⟨⟨k, m, g, u, t, rfl, by omega⟩, below_setRow B5.out _ _ (Nat.le_refl _)⟩
  exact results_row_tmp2 Tryd.results4 _ _ w.heap.size _ _ _ _ _ _ rfl rfl rfl (R5.out.setRow _) Tryd.underlying24 rfl (by kernel_rfl)
end Go.Proofs.YthdmaamocejodaaDoor
