import Derived.Test.YthdmaamocejodaaDoorIMult
namespace Go.Proofs.YthdmaamocejodaaDoor
open Go.RowKit
theorem i64_and_nat (a b : Nat) (ha : a < 9223372036854775808) (hb : b < 9223372036854775808) : bits .and .i64 (a : Int) (b : Int) = ((a &&& b : Nat) : Int) := by
  have hx : a &&& b < 2 ^ 63 := Nat.and_lt_two_pow (n := 63) _ (by omega)
  show IntKind.i64.wrap ((BitVec.ofInt 64 (a : Int) &&& BitVec.ofInt 64 (b : Int)).toNat : Int) = _
  rw [BitVec.toNat_and, ofInt_u64 a (by omega), ofInt_u64 b (by omega)]
  generalize a &&& b = c at *
  simp [IntKind.wrap, IntKind.bits, IntKind.signed]
  omega
theorem zero256 : Tryd.zeroCells132 = cells8 (List.replicate 256 0) := by kernel_rfl
theorem cells8_sizeOf {ts : List Nat} (h : ts.length = 256) : (Tryd.prog.info? 132).map (·.size) = some (cells8 ts).size := by rw [cells8_size, h]; kernel_rfl
set_option maxRecDepth 20000 in
set_option maxHeartbeats 4000000 in
theorem imultiples (f : Nat) (hf : f < 256) (w : World) (hT : Tab w) :
    Calls Tryd.prog 57 #[.int .u8 f] w fun e w' => ∃ ts : List Nat, e = .returned (.agg (cells8 ts)) ∧ ts.length = 256 ∧ (∀ i, i < 256 → ts.getD i 0 = gm 8 29 f i) ∧ Below w.heap.size w w' := by
  have HT := hid hT
  clear hT
  go_enter Tryd.func57, Tryd.ntmps57
  go_wp2_with fail
  rw [zero256]
  refine (field8 _).mono ?_
  rintro e w1 ⟨rfl, rfl⟩
  go_wp2_with fail
  refine (timesX8 f hf _).mono ?_
  rintro e w1 ⟨xs, rfl, hxl, hxs, hb1⟩
  have HXS := hid hxs
  simp only [size_al] at hb1
  have r0 : Hid (RowAt w1 w.heap.size 132 (cells8 (List.replicate 256 0))) := (((RowAt.new w _ _).alloc _).alloc _).below hb1 (by omega)
  have r1 : Hid (RowAt w1 (w.heap.size + 1) 132 (cells8 (List.replicate 256 0))) := ((RowAt.next (w.alloc _) _ _ (by rw [size_al])).alloc _).below hb1 (by omega)
  have L1 : Hid (Below w.heap.size w w1) := ((((Below.refl _ _).alloc (Nat.le_refl _) _).alloc (by rw [size_al]; omega) _).alloc (by rw [size_al, size_al]; omega) _).trans (hb1.mono (by omega))
  have HZ : Hid ((Tryd.prog.info? 135).map (·.size) = some (cells8 xs).size) := by show _ = _; rw [cells8_size, hxl]; kernel_rfl
  have hs1 : w.heap.size + 1 < w1.heap.size := r1.out.lt
  clear hxs hb1
  go_wp2_with ((refine wpList_store_row rfl 135 (.tmp 4) (.tmp 8) rfl w1.heap.size (cells8 xs) rfl rfl _ _ (RowAt.new w1 _ _) HZ.out (by rw [cells8_size, hxl]; rfl) (cells8_one xs) ?_); rw [World.setRow_alloc_new])
  go_loopw [5] (fun y wr => ∃ (k : Nat) (ts : List Nat), 1 ≤ k ∧ k ≤ 256 ∧ ts.length = 256 ∧ (∀ i, i < k → ts.getD i 0 = gm 8 29 f i) ∧ y = .int .i64 k ∧ RowAt wr w.heap.size 132 (cells8 (List.replicate 256 0)) ∧ RowAt wr (w.heap.size + 1) 132 (cells8 ts) ∧ RowAt wr w1.heap.size 135 (cells8 xs) ∧ Below w.heap.size w wr) (fun y _ => 256 - (intOf y).toNat)
  case atStart =>
    refine ⟨1, List.replicate 256 0, Nat.le_refl _, by omega, List.length_replicate, fun i hi => ?_, rfl, r0.out.alloc _, r1.out.alloc _, RowAt.new w1 _ _, L1.out.alloc L1.out.size _⟩
    have : i = 0 := by omega
    subst this; rw [gm_zero]; rfl
  case round =>
    obtain ⟨k, ts, hk1, hk, htl, hts, rfl, q0, q1, q2, hbel⟩ := hrel
    have HTS := hid hts
    have Q0 := hid q0
    have HB := hid hbel
    clear hts q0 hbel
    by_cases hlt : k < 256
    · have hlt' : (k : Int) < 256 := by omega
      obtain ⟨l1, l2, l3, _⟩ := low8 k hlt (by omega)
      have hgm := gm_low (f := f) hlt (show k ≠ 0 by omega)
      obtain ⟨A, hA⟩ : ∃ A, A = k &&& (k - 1) := ⟨_, rfl⟩
      obtain ⟨Z, hZ⟩ : ∃ Z, Z = tz8 k := ⟨_, rfl⟩
      obtain ⟨p, hp⟩ : ∃ p, p = k - 1 := ⟨_, rfl⟩
      rw [← hA] at l2 hgm
      rw [← hZ] at l1 hgm
      have e1 : IntKind.i64.wrap ((k : Int) - 1) = (p : Int) := by rw [wrap_small _ (by omega) (by omega)]; omega
      have e1' : (k : Int) - 1 = (p : Int) := by omega
      have e1'' : IntKind.i64.wrap (p : Int) = (p : Int) := wrap_small _ (by omega) (by omega)
      have e2 : bits .and .i64 (k : Int) (p : Int) = (A : Int) := by rw [hA, ← hp]; exact i64_and_nat _ _ (by omega) (by omega)
      have e3 : IntKind.u64.wrap (k : Int) = (k : Int) := by rw [IntKind.wrap_u64]; omega
      have tA : ts.getD A 0 = gm 8 29 f A := HTS.out A l2
      have cA := (q1.cell A).trans (cells8_getD (zs := ts) (by omega))
      have cZ := (q2.cell Z).trans (cells8_at (HXS.out Z l1))
      have fK := q1.free k
      have cK := (q1.cell k).trans (cells8_getD (zs := ts) (i := k) (by omega))
      obtain ⟨X, hX⟩ : ∃ X, X = gm 8 29 f A := ⟨_, rfl⟩
      obtain ⟨Y, hY⟩ : ∃ Y, Y = itx 8 29 Z f := ⟨_, rfl⟩
      have hXl : X < 256 := by rw [hX]; exact gm_lt fld8.toFld _ hf
      have hYl : Y < 256 := by rw [hY]; exact itx_lt fld8.toFld _ _ hf
      rw [tA, ← hX] at cA
      rw [← hY] at cZ
      have e4 : bits .xor .u8 (X : Int) (Y : Int) = ((X ^^^ Y : Nat) : Int) := u8_xor_nat _ _ hXl hYl
      obtain ⟨V, hV⟩ : ∃ V, V = X ^^^ Y := ⟨_, rfl⟩
      rw [← hV] at e4
      have HV : Hid (∀ i, i < k + 1 → (ts.set k V).getD i 0 = gm 8 29 f i) := fun i hi => by
        rw [List.getD_eq_getElem?_getD]
        by_cases e : i = k
        · subst e; rw [List.getElem?_set_self (by omega), hgm, hV, hX, hY]; rfl
        · rw [List.getElem?_set_ne (by omega), ← List.getD_eq_getElem?_getD]; exact HTS.out i (by omega)
      have HTk : Hid (tz8 k = Z) := hZ.symm
      have TB : Hid (Tab wr) := HT.out.below HB.out HT.out.lt
      have hk0 : k ≠ 0 := by omega
      clear tA hX hY hV hA hZ hp hgm l3
      have i1 : A < 256 := by omega
      have i2 : Z < 16 := by omega
      have i1' : (A : Int) < 256 := by omega
      have i2' : (Z : Int) < 16 := by omega
      have i3 : (0 : Int) ≤ (A : Int) := by omega
      have i4 : (0 : Int) ≤ (Z : Int) := by omega
      have i5 : (0 : Int) ≤ (k : Int) := by omega
      have N0 : Hid (RowAt (wr.drew.setCell ⟨w.heap.size + 1, k, none⟩ (.int .u8 V)) w.heap.size 132 (cells8 (List.replicate 256 0))) := Q0.out.drew.other _ _ (by dsimp only; omega)
      have N1 : Hid (RowAt (wr.drew.setCell ⟨w.heap.size + 1, k, none⟩ (.int .u8 V)) (w.heap.size + 1) 132 (cells8 (ts.set k V))) := by rw [← cells8_set]; exact q1.drew.set k _
      have N2 : Hid (RowAt (wr.drew.setCell ⟨w.heap.size + 1, k, none⟩ (.int .u8 V)) w1.heap.size 135 (cells8 xs)) := q2.drew.other _ _ (by dsimp only; omega)
      have N3 : Hid (Below w.heap.size w (wr.drew.setCell ⟨w.heap.size + 1, k, none⟩ (.int .u8 V))) := HB.out.drew.setCell (by show w.heap.size ≤ w.heap.size + 1; omega) _
      have HL : Hid (ts.length = 256) := htl
      have KA : Hid ((wr.setCell ⟨w.heap.size + 1, k, none⟩ (.int .u8 V)).drew.cell? ⟨w.heap.size + 1, A, none⟩ = some (.int .u8 X)) := by
        have h := (q1.set k (.int .u8 V)).cell A
        rw [Array.getElem?_setIfInBounds_ne (by omega), ← q1.cell A, cA] at h; exact h
      have KZ : Hid ((wr.setCell ⟨w.heap.size + 1, k, none⟩ (.int .u8 V)).drew.cell? ⟨w1.heap.size, Z, none⟩ = some (.int .u8 Y)) := by
        have h := (q2.other ⟨w.heap.size + 1, k, none⟩ (.int .u8 V) (by dsimp only; omega)).cell Z
        rw [← q2.cell Z, cZ] at h; exact h
      clear q1 q2 htl
      go_wp2_with fail
      go_region_held3 (fun wx => wx.cell? ⟨w.heap.size + 1, A, none⟩ = some (.int .u8 X) ∧ wx.cell? ⟨w1.heap.size, Z, none⟩ = some (.int .u8 Y)) ((first | (go_keep; done) | exact ⟨KA.out, KZ.out⟩)) ((go_at_call 60; refine (itz k hlt hk0 _ ?_).mono ?_; (first | exact TB.out.drew | exact TB.out); rw [HTk.out]; rintro e w4 ⟨rfl, rfl⟩))
      all_goals go_wp2
      all_goals
        go_roundw
        case rel => exact ⟨k + 1, ts.set k V, by omega, by omega, by rw [List.length_set]; exact HL.out, HV.out, by go_num, N0.out, N1.out, N2.out, N3.out⟩
        case measure => simp [intOf]; omega
    · have hke : k = 256 := by omega
      subst hke
      have Z1 := hid (cells8_sizeOf htl)
      go_wp2_with (first
        | refine wpList_load_row rfl 132 (.tmp 3) rfl (w.heap.size + 1) rfl _ _ _ _ q1 Tryd.underlying132 rfl Z1.out ?_
        | refine wpList_store_row rfl 132 (.tmp 2) (.tmp 27) rfl w.heap.size (cells8 ts) rfl rfl _ _ Q0.out Z1.out (by rw [cells8_size, cells8_size, htl]; rfl) (cells8_one ts) ?_)
      refine bodyPost_ret (v := .agg (cells8 ts)) ?_ rfl ⟨ts, rfl, htl, HTS.out, ?_⟩
      · exact results_cell_row Tryd.results57 _ _ w.heap.size _ _ _ _ rfl (Q0.out.setRow _) Tryd.underlying132 rfl Z1.out
      · exact below_setRow HB.out _ _ (Nat.le_refl _)
end Go.Proofs.YthdmaamocejodaaDoor
