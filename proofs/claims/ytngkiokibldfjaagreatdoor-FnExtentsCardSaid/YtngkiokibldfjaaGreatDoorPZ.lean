import Derived.Test.YtngkiokibldfjaaGreatDoorPW
import Derived.Test.YtngkiokibldfjaaGreatDoorPT
import Derived.Deep.CutRange
import Derived.Deep.RegionHeld3
import Derived.Test.YtngkiokibldfjaaGreatDoorPE
namespace Go.Proofs.YtngkiokibldfjaaGreatDoor
open Go.RowKit
set_option linter.unusedVariables false
/-! The last record of a key: the program's lastOf. -/
abbrev z7v : Array Value := #[.int .i64 0, .int .i64 0, .bool false, .int .i64 0, .int .i64 0, .int .i64 0, .int .i64 0]
/-- seven cells stand -/
def Sev (w : World) (g o : Nat) (a b : Int) (c : Bool) (x y z u : Int) : Prop :=
  w.cell? ⟨g, o, none⟩ = some (.int .i64 a) ∧ w.cell? ⟨g, o + 1, none⟩ = some (.int .i64 b) ∧ w.cell? ⟨g, o + 2, none⟩ = some (.bool c) ∧ w.cell? ⟨g, o + 3, none⟩ = some (.int .i64 x) ∧ w.cell? ⟨g, o + 4, none⟩ = some (.int .i64 y) ∧ w.cell? ⟨g, o + 5, none⟩ = some (.int .i64 z) ∧ w.cell? ⟨g, o + 6, none⟩ = some (.int .i64 u)
theorem Sev.below {w w' : World} {g o : Nat} {a b x y z u : Int} {c : Bool} (h : Sev w g o a b c x y z u) (hg : g < w.heap.size) (hb : Below w.heap.size w w') : Sev w' g o a b c x y z u := by
  obtain ⟨h0, h1, h2, h3, h4, h5, h6⟩ := h
  have kp : ∀ {i : Nat} {u : Value}, w.cell? ⟨g, i, none⟩ = some u → w'.cell? ⟨g, i, none⟩ = some u := fun {i u} hu => (hb.cell (p := ⟨g, i, none⟩) hg).trans hu
  exact ⟨kp h0, kp h1, kp h2, kp h3, kp h4, kp h5, kp h6⟩
set_option maxRecDepth 20000 in
set_option maxHeartbeats 4000000 in
theorem iLastNo (ea eb : Addr) (X : Nat) (d : ByteArray) (sy : Nat) (NK : List ByteArray) (ky : ByteArray) (hk : ky.size ≤ 1048576) (w : World) (h : ShAt ea eb X d sy NK w) (hno : lxA d ky = -1) :
    Calls Tryz.prog 73 #[.pointer (some ⟨X, 0, none⟩), .string ky] w fun e w' => LstQ d ky e ∧ Below w.heap.size w w' := by
  obtain ⟨hv, pv, rv, lv, n, m, mb, P, hS⟩ := h
  have TH := hid (lxA_no d ky hS.bd hno).2
  obtain ⟨W1, hW1⟩ : ∃ W, W = w.alloc (.cells z7v 110) := ⟨_, rfl⟩
  have b1 : Below w.heap.size w W1 := by rw [hW1]; exact (Below.refl _ _).alloc (Nat.le_refl _) _
  have B1 := hid b1
  have R1 : Hid (RowAt W1 w.heap.size 110 z7v) := by rw [hW1]; exact RowAt.new _ _ _
  have N1 := hS.nm.below b1
  obtain ⟨hnd, D, hD, hO⟩ := id N1
  have T1 := hS.tb.far b1
  have x5 : W1.cell? ⟨X, 5, none⟩ = some (.map (some mb)) := RowAt.cell T1.blk 5
  have x6 : W1.cell? ⟨X, 6, none⟩ = some lv := RowAt.cell T1.blk 6
  have L1 : OwnNums W1 (X + 1) 3 .i64 lv (NK.map (lxA d)) := orKeep hS.ls fun g cs _ q => q.below b1 q.lt
  have HKY : Hid (keyOf Tryz.prog 9 (.string ky) = some (nKey ky)) := WideMaps.keyOf_string_mk Tryz.underlying9 (by unfold maxLen; omega)
  have HZ : Hid ((zeroValue 3).run Tryz.prog W1 = .ok (.int .i64 0) W1) := by show (zeroValue 3).run Tryz.prog W1 = .ok (.int .i64 0) W1; kernel_rfl
  have MO := hid hO
  obtain ⟨W2, hW2⟩ : ∃ W, W = W1.setRow w.heap.size z7v := ⟨_, rfl⟩
  have R2 : Hid (RowAt W2 w.heap.size 110 z7v) := by rw [hW2]; exact R1.out.setRow _
  have B2 : Hid (Below w.heap.size w W2) := by rw [hW2]; exact below_setRow b1 _ _ (Nat.le_refl _)
  have HS := hid hS
  by_cases hm : ky ∈ NK
  · have HB : Hid (Maps.has D (nKey ky) = true) := (hD.has ky).2 hm
    obtain ⟨j, hj⟩ := List.mem_iff_getElem?.1 hm
    have hjl := (List.getElem?_eq_some_iff.1 hj).1
    have HAT : Hid (D.atKey (nKey ky) (.lit (.int .i64 0)) = .lit (.int .i64 (j : Int))) := hD.at_ j ky _ hj
    obtain ⟨aL, cL, hlv⟩ := orSlice L1
    rw [List.length_map] at hlv
    obtain ⟨g, rfl⟩ : ∃ g, aL = some ⟨g, 0, none⟩ := by
      rcases L1.2 with ⟨_, h0⟩ | ⟨g, cap, cur, h, _⟩
      · rw [List.length_map] at h0; omega
      · rw [hlv] at h; injection h with h; exact ⟨g, h⟩
    rw [hlv] at L1 x6
    have kt : W1.cell? ⟨g, j, none⟩ = some (.int .i64 (-1)) := by
      have := L1.at j (by rw [List.length_map]; exact hjl)
      rw [List.getD_eq_getElem?_getD, List.getElem?_map, hj] at this
      rw [← hno]
      exact this
    obtain ⟨N, hN⟩ : ∃ N, N = NK.length := ⟨_, rfl⟩
    have d0 : (0 : Int) ≤ (j : Int) := by omega
    have d1 : (j : Int) < (N : Int) := by omega
    rw [← hN] at x6
    unfold z7v at hW1 hW2
    clear hnd hD hO N1 T1 L1 hS hm hj hjl hlv hN hno b1
    go_enter Tryz.func73, Tryz.ntmps73
    go_upto_region 1 with fail
    rw [← hW1]
    clear hW1
    go_upto_region 2 with (first | (at_lookup; refine wpList_lookup_own_ok_int _ rfl _ _ 69 rfl 9 3 .i64 lawN Tryz.underlying69 Tryz.underlying3 HZ.out mb NK.length D rfl MO.out (.string ky) (nKey ky) rfl HKY.out ?_; intro c hat hwc; rw [HB.out]; rw [HAT.out] at hat; injection hat with hat; injection hat with _ hat; subst hat; clear hwc) | fail)
    clear x5
    go_wp2_with (first | (refine wpList_store_row rfl 110 (.tmp 4) (.tmp 30) rfl w.heap.size #[.int .i64 0, .int .i64 0, .bool false, .int .i64 0, .int .i64 0, .int .i64 0, .int .i64 0] rfl rfl _ _ R1.out (by kernel_rfl) rfl (by simp [Value.oneCell']) ?_) | fail)
    rw [← hW2]
    have q0 := R2.out.cell 0
    have q1 := R2.out.cell 1
    have q2 := R2.out.cell 2
    have q3 := R2.out.cell 3
    have q4 := R2.out.cell 4
    have q5 := R2.out.cell 5
    have q6 := R2.out.cell 6
    refine bodyPost_ret (v := .tuple #[frm0, .bool false]) (by simp [results, Tryz.results73, go_sem, frm0, q0, q1, q2, q3, q4, q5, q6]) rfl ⟨.inr ⟨TH.out, 0, 0, false, 0, 0, 0, 0, rfl⟩, B2.out⟩
  · have HB : Hid (Maps.has D (nKey ky) = false) := by
      show _ = _
      cases hh : Maps.has D (nKey ky) with
      | false => rfl
      | true => exact absurd ((hD.has ky).1 hh) hm
    unfold z7v at hW1 hW2
    clear hnd hD hO N1 T1 L1 hS hm hno b1 x6
    go_enter Tryz.func73, Tryz.ntmps73
    go_upto_region 1 with fail
    rw [← hW1]
    clear hW1
    go_upto_region 2 with (first | (at_lookup; refine wpList_lookup_own_ok_int _ rfl _ _ 69 rfl 9 3 .i64 lawN Tryz.underlying69 Tryz.underlying3 HZ.out mb NK.length D rfl MO.out (.string ky) (nKey ky) rfl HKY.out ?_; intro c hat hwc; rw [HB.out]; clear hat hwc) | fail)
    clear x5
    go_wp2_with (first | (refine wpList_store_row rfl 110 (.tmp 4) (.tmp 30) rfl w.heap.size #[.int .i64 0, .int .i64 0, .bool false, .int .i64 0, .int .i64 0, .int .i64 0, .int .i64 0] rfl rfl _ _ R1.out (by kernel_rfl) rfl (by simp [Value.oneCell']) ?_) | fail)
    rw [← hW2]
    have q0 := R2.out.cell 0
    have q1 := R2.out.cell 1
    have q2 := R2.out.cell 2
    have q3 := R2.out.cell 3
    have q4 := R2.out.cell 4
    have q5 := R2.out.cell 5
    have q6 := R2.out.cell 6
    refine bodyPost_ret (v := .tuple #[frm0, .bool false]) (by simp [results, Tryz.results73, go_sem, frm0, q0, q1, q2, q3, q4, q5, q6]) rfl ⟨.inr ⟨TH.out, 0, 0, false, 0, 0, 0, 0, rfl⟩, B2.out⟩
set_option maxRecDepth 20000 in
set_option maxHeartbeats 4000000 in
theorem iLastYes (ea eb : Addr) (X : Nat) (d : ByteArray) (sy : Nat) (NK : List ByteArray) (ky : ByteArray) (hk : ky.size ≤ 1048576) (w : World) (h : ShAt ea eb X d sy NK w) (hno : lxA d ky ≠ -1) :
    Calls Tryz.prog 73 #[.pointer (some ⟨X, 0, none⟩), .string ky] w fun e w' => LstQ d ky e ∧ Below w.heap.size w w' := by
  obtain ⟨hv, pv, rv, lv, n, m, mb, P, hS⟩ := h
  obtain ⟨kk, i, f, hl1, _, hl3, hAi, hsc, hth⟩ := lxA_yes d ky hS.bd hno
  have hm := lxA_key hS.bd hS.al hS.fk hno
  obtain ⟨W1, hW1⟩ : ∃ W, W = w.alloc (.cells z7v 110) := ⟨_, rfl⟩
  have b1 : Below w.heap.size w W1 := by rw [hW1]; exact (Below.refl _ _).alloc (Nat.le_refl _) _
  have B1 := hid b1
  have R1 : Hid (RowAt W1 w.heap.size 110 z7v) := by rw [hW1]; exact RowAt.new _ _ _
  have N1 := hS.nm.below b1
  obtain ⟨hnd, D, hD, hO⟩ := id N1
  have T1 := hS.tb.far b1
  have x5 : W1.cell? ⟨X, 5, none⟩ = some (.map (some mb)) := RowAt.cell T1.blk 5
  have x6 : W1.cell? ⟨X, 6, none⟩ = some lv := RowAt.cell T1.blk 6
  have x4 : W1.cell? ⟨X, 4, none⟩ = some rv := RowAt.cell T1.blk 4
  have L1 : OwnNums W1 (X + 1) 3 .i64 lv (NK.map (lxA d)) := orKeep hS.ls fun g cs _ q => q.below b1 q.lt
  have F1 := OwnFl.belowA hS.fl b1
  have HKY : Hid (keyOf Tryz.prog 9 (.string ky) = some (nKey ky)) := WideMaps.keyOf_string_mk Tryz.underlying9 (by unfold maxLen; omega)
  have HZ : Hid ((zeroValue 3).run Tryz.prog W1 = .ok (.int .i64 0) W1) := by show (zeroValue 3).run Tryz.prog W1 = .ok (.int .i64 0) W1; kernel_rfl
  have MO := hid hO
  have HB : Hid (Maps.has D (nKey ky) = true) := (hD.has ky).2 hm
  obtain ⟨j, hj⟩ := List.mem_iff_getElem?.1 hm
  have hjl := (List.getElem?_eq_some_iff.1 hj).1
  have HAT : Hid (D.atKey (nKey ky) (.lit (.int .i64 0)) = .lit (.int .i64 (j : Int))) := hD.at_ j ky _ hj
  obtain ⟨aL, cL, hlv⟩ := orSlice L1
  rw [List.length_map] at hlv
  obtain ⟨g, rfl⟩ : ∃ g, aL = some ⟨g, 0, none⟩ := by
    rcases L1.2 with ⟨_, h0⟩ | ⟨g, cap, cur, h, _⟩
    · rw [List.length_map] at h0; omega
    · rw [hlv] at h; injection h with h; exact ⟨g, h⟩
  rw [hlv] at L1 x6
  have kt : W1.cell? ⟨g, j, none⟩ = some (.int .i64 (i : Nat)) := by
    have := L1.at j (by rw [List.length_map]; exact hjl)
    rw [List.getD_eq_getElem?_getD, List.getElem?_map, hj] at this
    rw [← hl3]
    exact this
  have glt : g < W1.heap.size := (orRow L1 rfl).2.1
  have hPi : P[i]? = some (P.getD i fr0) := by
    have := congrArg (·[i]?) hS.al
    simp only [List.getElem?_map] at this
    rw [hAi] at this
    cases hp : P[i]? with
    | none => rw [hp] at this; cases this
    | some p => rw [List.getD_eq_getElem?_getD, hp]; rfl
  have hgo : (P.getD i fr0).1 = f := by
    have := congrArg (·[i]?) hS.al
    simp only [List.getElem?_map] at this
    rw [hAi, hPi] at this
    exact Option.some.inj this
  obtain ⟨gr, cr, hrv, grl, _, z0, z1, z2, z3, z4, z5, z6, _⟩ := F1.cells hPi
  have hil := (List.getElem?_eq_some_iff.1 hPi).1
  rw [hgo] at z0 z1 z2 z3 z4 z5 z6
  rw [hrv] at x4
  have FIN : Hid (∀ e, e = .returned (.tuple #[frmV f, .bool (!f.gone)]) → LstQ d ky e) := fun e he => by
    rw [he]
    cases hg : f.gone with
    | true => exact .inr ⟨by rw [hth, hg]; rfl, _, _, _, _, _, _, _, rfl⟩
    | false => exact .inl ⟨by rw [hth, hg]; rfl, f, by rw [hl1, Int.toNat_natCast]; exact hsc, rfl⟩
  obtain ⟨ka, ks, gn, ba, bs, fa, fx⟩ := f
  dsimp only at z0 z1 z2 z3 z4 z5 z6
  have XL : Hid (X < W1.heap.size) := T1.blk.lt
  have SS : Hid (∀ wx, Below W1.heap.size W1 wx → wx.cell? ⟨X, 4, none⟩ = some (.slice (some ⟨gr, 0, none⟩) P.length cr) ∧ wx.cell? ⟨X, 6, none⟩ = some (.slice (some ⟨g, 0, none⟩) NK.length cL) ∧ wx.cell? ⟨g, j, none⟩ = some (.int .i64 (i : Nat)) ∧ wx.cell? ⟨gr, i * 8, none⟩ = some (.int .i64 (ka : Nat)) ∧ wx.cell? ⟨gr, i * 8 + 1, none⟩ = some (.int .i64 (ks : Nat)) ∧ wx.cell? ⟨gr, i * 8 + 2, none⟩ = some (.bool gn) ∧ wx.cell? ⟨gr, i * 8 + 3, none⟩ = some (.int .i64 (ba : Nat)) ∧ wx.cell? ⟨gr, i * 8 + 4, none⟩ = some (.int .i64 (bs : Nat)) ∧ wx.cell? ⟨gr, i * 8 + 5, none⟩ = some (.int .i64 (fa : Nat)) ∧ wx.cell? ⟨gr, i * 8 + 6, none⟩ = some (.int .i64 (fx : Nat))) := fun wx hb =>
    ⟨(hb.cell (p := ⟨X, 4, none⟩) XL.out).trans x4, (hb.cell (p := ⟨X, 6, none⟩) XL.out).trans x6, (hb.cell (p := ⟨g, j, none⟩) glt).trans kt, (hb.cell (p := ⟨gr, i * 8, none⟩) grl).trans z0, (hb.cell (p := ⟨gr, i * 8 + 1, none⟩) grl).trans z1, (hb.cell (p := ⟨gr, i * 8 + 2, none⟩) grl).trans z2, (hb.cell (p := ⟨gr, i * 8 + 3, none⟩) grl).trans z3, (hb.cell (p := ⟨gr, i * 8 + 4, none⟩) grl).trans z4, (hb.cell (p := ⟨gr, i * 8 + 5, none⟩) grl).trans z5, (hb.cell (p := ⟨gr, i * 8 + 6, none⟩) grl).trans z6⟩
  have d0 : (0 : Int) ≤ (j : Int) := by omega
  have d1 : (j : Int) < (NK.length : Int) := by omega
  have d2 : (0 : Int) ≤ (i : Int) := by omega
  have d3 : (i : Int) < (P.length : Int) := by omega
  have e0 : ((i : Int) == -1) = false := by simp
  obtain ⟨NN, hNN⟩ : ∃ n, n = NK.length := ⟨_, rfl⟩
  obtain ⟨PN, hPN⟩ : ∃ n, n = P.length := ⟨_, rfl⟩
  rw [← hNN] at x6 d1 SS
  rw [← hPN] at x4 d3 SS
  unfold z7v at hW1
  clear hnd hD hO N1 T1 L1 hS hm hj hjl hlv hno b1 hAi hsc hth hl1 hl3 F1 hPi hgo hrv hil glt grl z0 z1 z2 z3 z4 z5 z6 hNN hPN
  go_enter Tryz.func73, Tryz.ntmps73
  go_upto_region 1 with fail
  rw [← hW1]
  clear hW1
  go_upto_region 2 with (first | (at_lookup; refine wpList_lookup_own_ok_int _ rfl _ _ 69 rfl 9 3 .i64 lawN Tryz.underlying69 Tryz.underlying3 HZ.out mb NK.length D rfl MO.out (.string ky) (nKey ky) rfl HKY.out ?_; intro c hat hwc; rw [HB.out]; rw [HAT.out] at hat; injection hat with hat; injection hat with _ hat; subst hat; clear hwc) | fail)
  clear x5
  go_upto_region 4 with fail
  clear x4 x6 kt
  go_region_held3 (fun wx => wx.cell? ⟨X, 4, none⟩ = some (.slice (some ⟨gr, 0, none⟩) PN cr) ∧ wx.cell? ⟨X, 6, none⟩ = some (.slice (some ⟨g, 0, none⟩) NN cL) ∧ wx.cell? ⟨g, j, none⟩ = some (.int .i64 (i : Nat)) ∧ wx.cell? ⟨gr, i * 8, none⟩ = some (.int .i64 (ka : Nat)) ∧ wx.cell? ⟨gr, i * 8 + 1, none⟩ = some (.int .i64 (ks : Nat)) ∧ wx.cell? ⟨gr, i * 8 + 2, none⟩ = some (.bool gn) ∧ wx.cell? ⟨gr, i * 8 + 3, none⟩ = some (.int .i64 (ba : Nat)) ∧ wx.cell? ⟨gr, i * 8 + 4, none⟩ = some (.int .i64 (bs : Nat)) ∧ wx.cell? ⟨gr, i * 8 + 5, none⟩ = some (.int .i64 (fa : Nat)) ∧ wx.cell? ⟨gr, i * 8 + 6, none⟩ = some (.int .i64 (fx : Nat))) (first | exact SS.out _ (Below.refl _ _) | exact SS.out _ (Below.refl _ _).drew | exact SS.out _ ((Below.refl _ _).alloc (Nat.le_refl _) _).drew | exact SS.out _ ((Below.refl _ _).drew.alloc (Nat.le_refl _) _) | (go_keep; done)) (fail)
  obtain ⟨W5, hW5⟩ : ∃ W, W = (W1.alloc (.cells #[.int .i64 (ka : Nat), .int .i64 (ks : Nat), .bool gn, .int .i64 (ba : Nat), .int .i64 (bs : Nat), .int .i64 (fa : Nat), .int .i64 (fx : Nat)] 110)).drew := ⟨_, rfl⟩
  obtain ⟨b8, hb8⟩ : ∃ b, b = W1.heap.size := ⟨_, rfl⟩
  have b5 : Below W1.heap.size W1 W5 := by rw [hW5]; exact ((Below.refl _ _).alloc (Nat.le_refl _) _).drew
  have R5 : Hid (RowAt W5 b8 110 #[.int .i64 (ka : Nat), .int .i64 (ks : Nat), .bool gn, .int .i64 (ba : Nat), .int .i64 (bs : Nat), .int .i64 (fa : Nat), .int .i64 (fx : Nat)]) := by rw [hW5, hb8]; exact (RowAt.new _ _ _).drew
  have T5 := hid (R1.out.below b5 R1.out.lt)
  have NE : Hid (b8 ≠ w.heap.size) := by have := R1.out.lt; show b8 ≠ _; omega
  have B5 : Hid (Below w.heap.size w W5) := B1.out.trans (b5.mono B1.out.size)
  rw [← hW5, ← hb8]
  clear hW5 hb8 b5 SS
  have R6 : Hid (RowAt (((((((W5.drew.setCell ⟨w.heap.size, 0, none⟩ (.int .i64 (ka : Nat))).setCell ⟨w.heap.size, 1, none⟩ (.int .i64 (ks : Nat))).setCell ⟨w.heap.size, 2, none⟩ (.bool gn)).setCell ⟨w.heap.size, 3, none⟩ (.int .i64 (ba : Nat))).setCell ⟨w.heap.size, 4, none⟩ (.int .i64 (bs : Nat))).setCell ⟨w.heap.size, 5, none⟩ (.int .i64 (fa : Nat))).setCell ⟨w.heap.size, 6, none⟩ (.int .i64 (fx : Nat))) b8 110 #[.int .i64 (ka : Nat), .int .i64 (ks : Nat), .bool gn, .int .i64 (ba : Nat), .int .i64 (bs : Nat), .int .i64 (fa : Nat), .int .i64 (fx : Nat)]) := ((((((R5.out.drew.other _ _ NE.out).other _ _ NE.out).other _ _ NE.out).other _ _ NE.out).other _ _ NE.out).other _ _ NE.out).other _ _ NE.out
  obtain ⟨W6, hW6⟩ : ∃ W, W = (((((((W5.setCell ⟨w.heap.size, 0, none⟩ (.int .i64 (ka : Nat))).setCell ⟨w.heap.size, 1, none⟩ (.int .i64 (ks : Nat))).setCell ⟨w.heap.size, 2, none⟩ (.bool gn)).setCell ⟨w.heap.size, 3, none⟩ (.int .i64 (ba : Nat))).setCell ⟨w.heap.size, 4, none⟩ (.int .i64 (bs : Nat))).setCell ⟨w.heap.size, 5, none⟩ (.int .i64 (fa : Nat))).setCell ⟨w.heap.size, 6, none⟩ (.int .i64 (fx : Nat))) := ⟨_, rfl⟩
  have T6 : Hid (RowAt W6 w.heap.size 110 #[.int .i64 (ka : Nat), .int .i64 (ks : Nat), .bool gn, .int .i64 (ba : Nat), .int .i64 (bs : Nat), .int .i64 (fa : Nat), .int .i64 (fx : Nat)]) := by rw [hW6]; exact RowAt.set7 T5.out _ _ _ _ _ _ _
  have B6 : Hid (Below w.heap.size w W6) := by rw [hW6]; exact ((((((B5.out.setCell (Nat.le_refl _) _).setCell (Nat.le_refl _) _).setCell (Nat.le_refl _) _).setCell (Nat.le_refl _) _).setCell (Nat.le_refl _) _).setCell (Nat.le_refl _) _).setCell (Nat.le_refl _) _
  have HW6 := hid hW6
  clear hW6
  have q0 := T5.out.cell 0
  have f0 := T5.out.free 0
  have q1 := T5.out.cell 1
  have f1 := T5.out.free 1
  have q2 := T5.out.cell 2
  have f2 := T5.out.free 2
  have q3 := T5.out.cell 3
  have f3 := T5.out.free 3
  have q4 := T5.out.cell 4
  have f4 := T5.out.free 4
  have q5 := T5.out.cell 5
  have f5 := T5.out.free 5
  have q6 := T5.out.cell 6
  have f6 := T5.out.free 6
  go_wp2_with fail
  have y0 := R5.out.cell 0
  have y1 := R5.out.cell 1
  have y2 := R5.out.cell 2
  have y3 := R5.out.cell 3
  have y4 := R5.out.cell 4
  have y5 := R5.out.cell 5
  have y6 := R5.out.cell 6
  have z2 : (((((((W5.setCell ⟨w.heap.size, 0, none⟩ (.int .i64 (ka : Nat))).setCell ⟨w.heap.size, 1, none⟩ (.int .i64 (ks : Nat))).setCell ⟨w.heap.size, 2, none⟩ (.bool gn)).setCell ⟨w.heap.size, 3, none⟩ (.int .i64 (ba : Nat))).setCell ⟨w.heap.size, 4, none⟩ (.int .i64 (bs : Nat))).setCell ⟨w.heap.size, 5, none⟩ (.int .i64 (fa : Nat))).setCell ⟨w.heap.size, 6, none⟩ (.int .i64 (fx : Nat))).cell? ⟨b8, 2, none⟩ = some (.bool gn) := (((((((R5.out.other _ _ NE.out).other _ _ NE.out).other _ _ NE.out).other _ _ NE.out).other _ _ NE.out).other _ _ NE.out).other _ _ NE.out).cell 2
  have z3 : (((((((W5.drew.setCell ⟨w.heap.size, 0, none⟩ (.int .i64 (ka : Nat))).setCell ⟨w.heap.size, 1, none⟩ (.int .i64 (ks : Nat))).setCell ⟨w.heap.size, 2, none⟩ (.bool gn)).setCell ⟨w.heap.size, 3, none⟩ (.int .i64 (ba : Nat))).setCell ⟨w.heap.size, 4, none⟩ (.int .i64 (bs : Nat))).setCell ⟨w.heap.size, 5, none⟩ (.int .i64 (fa : Nat))).setCell ⟨w.heap.size, 6, none⟩ (.int .i64 (fx : Nat))).cell? ⟨b8, 2, none⟩ = some (.bool gn) := R6.out.cell 2
  go_region_law (fail)
  all_goals (try simp [Act.put])
  all_goals go_wp2
  all_goals rw [← HW6.out]
  all_goals
    have r0 := T6.out.drew.cell 0
    have r1 := T6.out.drew.cell 1
    have r2 := T6.out.drew.cell 2
    have r3 := T6.out.drew.cell 3
    have r4 := T6.out.drew.cell 4
    have r5 := T6.out.drew.cell 5
    have r6 := T6.out.drew.cell 6
    refine bodyPost_ret (v := .tuple #[.agg #[.int .i64 (ka : Nat), .int .i64 (ks : Nat), .bool gn, .int .i64 (ba : Nat), .int .i64 (bs : Nat), .int .i64 (fa : Nat), .int .i64 (fx : Nat)], .bool (!gn)]) (by simp [results, Tryz.results73, go_sem, r0, r1, r2, r3, r4, r5, r6]) rfl ⟨FIN.out _ rfl, B6.out.drew⟩
theorem iLast (ea eb : Addr) (X : Nat) (d : ByteArray) (sy : Nat) (NK : List ByteArray) (ky : ByteArray) (hk : ky.size ≤ 1048576) (w : World) (h : ShAt ea eb X d sy NK w) :
    Calls Tryz.prog 73 #[.pointer (some ⟨X, 0, none⟩), .string ky] w fun e w' => LstQ d ky e ∧ Below w.heap.size w w' := by
  rcases Classical.em (lxA d ky = -1) with c | c
  · exact iLastNo ea eb X d sy NK ky hk w h c
  · exact iLastYes ea eb X d sy NK ky hk w h c
end Go.Proofs.YtngkiokibldfjaaGreatDoor
namespace Go.Proofs.YtngkiokibldfjaaGreatDoor
open Go.RowKit
set_option linter.unusedVariables false
/-! drop, readKey of the program's shelf. -/
set_option maxRecDepth 20000 in
set_option maxHeartbeats 4000000 in
theorem iDrop (ea eb : Addr) (X : Nat) (d : ByteArray) (sy : Nat) (NK : List ByteArray) (hNK : NK.length ≤ 900000000) (ky : ByteArray) (hk : ky.size ≤ 1048576) (w : World) (h : ShAt ea eb X d sy NK w) :
    Calls Tryz.prog 48 #[.pointer (some ⟨X, 0, none⟩), .string ky] w fun e w' => e = .returned (.int .i64 (putX d sy (recV ky true ⟨#[]⟩) (!thrB d ky)).2.2) ∧ ShQ ea eb X (putX d sy (recV ky true ⟨#[]⟩) (!thrB d ky)).1 sy NK w w' := by
  have H := hid h
  have XW : Hid (X ≤ w.heap.size) := by have := h.size; show _ ≤ _; omega
  have KP := hid (iPutRec ky true ⟨#[]⟩ hk (by show (0 : Nat) ≤ _; omega) w)
  have tb := recV_size ky true ⟨#[]⟩
  obtain ⟨T, hT⟩ : ∃ T, T = recV ky true ⟨#[]⟩ := ⟨_, rfl⟩
  rw [← hT] at KP tb ⊢
  have hd := h.bd
  have KR := fun W h => hid (iRoom X d T hd (by omega) W h)
  have KZ := fun W h => hid (iSize X d W h)
  have KL := fun W hW => hid (iLast ea eb X d sy NK ky hk W hW)
  clear hT h
  by_cases t0 : T.size = 0
  · rw [px1 sy _ t0]
    have E : rmN d T = 1 := if_pos t0
    rw [E] at KR
    clear t0 E
    go_enter Tryz.func48, Tryz.ntmps48
    go_wp2_with fail
    refine KP.out.mono ?_
    rintro e w1 ⟨rfl, hb1⟩
    have B1 := hid hb1
    have x0 := (H.out.below hb1).data
    go_wp2_with fail
    refine (KR _ x0).out.mono ?_
    rintro e w2 ⟨rfl, hw⟩
    obtain rfl := hw.symm
    go_wp2
    go_ret
    exact ⟨rfl, ShQ.id H.out B1.out⟩
  · by_cases t1 : 300000 < d.size + T.size
    · rw [px7 sy _ t0 t1]
      have E : rmN d T = 7 := by unfold rmN; rw [if_neg t0, if_pos t1]
      rw [E] at KR
      clear t0 t1 E
      go_enter Tryz.func48, Tryz.ntmps48
      go_wp2_with fail
      refine KP.out.mono ?_
      rintro e w1 ⟨rfl, hb1⟩
      have B1 := hid hb1
      have x0 := (H.out.below hb1).data
      go_wp2_with fail
      refine (KR _ x0).out.mono ?_
      rintro e w2 ⟨rfl, hw⟩
      obtain rfl := hw.symm
      go_wp2
      go_ret
      exact ⟨rfl, ShQ.id H.out B1.out⟩
    · have E : rmN d T = 0 := by unfold rmN; rw [if_neg t0, if_neg t1]
      rw [E] at KR
      obtain ⟨TB, hTB⟩ : ∃ b, b = thrB d ky := ⟨_, rfl⟩
      have HTB := hid hTB
      rw [← hTB]
      cases TB with
      | false =>
        rw [show (!false) = true from rfl, px5 sy t0 t1]
        clear t0 t1 E hTB
        go_enter Tryz.func48, Tryz.ntmps48
        go_wp2_with fail
        refine KP.out.mono ?_
        rintro e w1 ⟨rfl, hb1⟩
        have B1 := hid hb1
        have H1 := hid (H.out.below hb1)
        have x0 := (H.out.below hb1).data
        go_wp2_with fail
        refine (KR _ x0).out.mono ?_
        rintro e w2 ⟨rfl, hw⟩
        obtain rfl := hw.symm
        go_wp2_with fail
        refine (KL _ H1.out).out.mono ?_
        rintro e w3 ⟨hL, hb3⟩
        have B3 : Hid (Below w.heap.size w w3) := B1.out.trans (hb3.mono B1.out.size)
        rcases hL with ⟨ht, _⟩ | ⟨_, a, b, c, x, y, z, u, rfl⟩
        · rw [← HTB.out] at ht; cases ht
        · have B4 : Hid (Below w.heap.size w (w3.alloc (.cells #[.int .i64 a, .int .i64 b, .bool c, .int .i64 x, .int .i64 y, .int .i64 z, .int .i64 u] 110))) := B3.out.alloc B3.out.size _
          clear hb3 x0
          go_wp2
          go_ret
          exact ⟨rfl, ShQ.id H.out B4.out⟩
      | true =>
        rw [show (!true) = false from rfl, px0 sy t0 t1]
        have KC := fun W hW => hid (iChange ea eb X d (d ++ T) sy d.size 300000 NK hNK (by rw [ByteArray.size_append]; omega) (chg_app d T (by omega)) hd (Nat.le_refl _) (by rw [ByteArray.size_append]; omega) W hW)
        have zz : ¬ 9223372036854775807 < d.size + T.size := by omega
        clear t0 t1 E hTB
        go_enter Tryz.func48, Tryz.ntmps48
        go_wp2_with fail
        refine KP.out.mono ?_
        rintro e w1 ⟨rfl, hb1⟩
        have B1 := hid hb1
        have H1 := hid (H.out.below hb1)
        have x0 := (H.out.below hb1).data
        go_wp2_with fail
        refine (KR _ x0).out.mono ?_
        rintro e w2 ⟨rfl, hw⟩
        obtain rfl := hw.symm
        go_wp2_with fail
        refine (KL _ H1.out).out.mono ?_
        rintro e w3 ⟨hL, hb3⟩
        have B3 : Hid (Below w.heap.size w w3) := B1.out.trans (hb3.mono B1.out.size)
        rcases hL with ⟨_, f, _, rfl⟩ | ⟨ht, _⟩
        · obtain ⟨ka, ks, gn, ba, bs, fa, fx⟩ := f
          unfold frmV
          dsimp only
          obtain ⟨W4, hW4⟩ : ∃ W, W = w3.alloc (.cells #[.int .i64 (ka : Nat), .int .i64 (ks : Nat), .bool gn, .int .i64 (ba : Nat), .int .i64 (bs : Nat), .int .i64 (fa : Nat), .int .i64 (fx : Nat)] 110) := ⟨_, rfl⟩
          have B4 : Hid (Below w.heap.size w W4) := by rw [hW4]; exact B3.out.alloc B3.out.size _
          have H4 := hid (H.out.below B4.out)
          have xd : W4.drew.cell? ⟨X, 0, none⟩ = some (.string d) := H4.out.data
          have H5 := hid (H4.out.below (Below.refl _ _).drew)
          clear hb3 x0
          go_upto_region 8 with fail
          rw [← hW4]
          clear hW4
          go_region_law (first
            | (go_simp; go_at_call 69; refine (KZ W4.drew xd).out.mono ?_; rintro e5 w5 ⟨rfl, hw⟩; obtain rfl := hw.symm)
            | (go_simp; go_at_call 46; refine (KC W4.drew H5.out).out.mono ?_; rintro e5 w5 hQ5; obtain ⟨v5, rfl⟩ := hQ5.1; have Q5 := hid hQ5.q; clear hQ5))
          all_goals go_wp2
          all_goals go_ret
          all_goals exact ⟨rfl, (Q5.out.after (B4.out.drew) XW.out)⟩
        · rw [← HTB.out] at ht; cases ht
set_option maxRecDepth 20000 in
set_option maxHeartbeats 4000000 in
theorem iReadKey (ea eb : Addr) (X : Nat) (d : ByteArray) (sy : Nat) (NK : List ByteArray) (ky : ByteArray) (hk : ky.size ≤ 1048576) (w : World) (h : ShAt ea eb X d sy NK w) :
    Calls Tryz.prog 52 #[.pointer (some ⟨X, 0, none⟩), .string ky] w fun e w' => e = .returned (.tuple #[.string (if thrB d ky then datN d ky else ⟨#[]⟩), .int .i64 (if thrB d ky then 0 else 5)]) ∧ Below w.heap.size w w' := by
  have H := hid h
  have hd := h.bd
  have KL := hid (iLast ea eb X d sy NK ky hk w h)
  clear h
  obtain ⟨TB, hTB⟩ : ∃ b, b = thrB d ky := ⟨_, rfl⟩
  have HTB := hid hTB
  rw [← hTB]
  cases TB with
  | false =>
    rw [if_neg (by simp), if_neg (by simp)]
    clear hTB
    go_enter Tryz.func52, Tryz.ntmps52
    go_wp2_with fail
    refine KL.out.mono ?_
    rintro e w3 ⟨hL, hb3⟩
    have B3 := hid hb3
    rcases hL with ⟨ht, _⟩ | ⟨_, a, b, c, x, y, z, u, rfl⟩
    · rw [← HTB.out] at ht; cases ht
    · have B4 : Hid (Below w.heap.size w (w3.alloc (.cells #[.int .i64 a, .int .i64 b, .bool c, .int .i64 x, .int .i64 y, .int .i64 z, .int .i64 u] 110))) := B3.out.alloc B3.out.size _
      clear hb3
      go_wp2
      go_ret2
      exact ⟨rfl, B4.out⟩
  | true =>
    rw [if_pos rfl, if_pos rfl]
    obtain ⟨R, hR⟩ : ∃ R, R = datN d ky := ⟨_, rfl⟩
    have HR := hid hR
    rw [← hR]
    clear hTB hR
    go_enter Tryz.func52, Tryz.ntmps52
    go_wp2_with fail
    refine KL.out.mono ?_
    rintro e w3 ⟨hL, hb3⟩
    have B3 := hid hb3
    rcases hL with ⟨_, f, hf, rfl⟩ | ⟨ht, _⟩
    · have hin := getRec_in d f.at' f ((chn_sc d 0).drop _ f hf).1
      have ER : R = d.extract f.bat (f.bat + f.bsz) := by rw [HR.out]; unfold datN; rw [hf]; rfl
      have KO := fun W => hid (iOf d f.bat f.bsz (by omega) (by omega) W)
      rw [← ER] at KO
      have KC := fun W => hid (clone_any R W (by rw [ER, ByteArray.size_extract]; omega))
      clear ER
      obtain ⟨ka, ks, gn, ba, bs, fa, fx⟩ := f
      dsimp only at KO
      unfold frmV
      dsimp only
      obtain ⟨W4, hW4⟩ : ∃ W, W = w3.alloc (.cells #[.int .i64 (ka : Nat), .int .i64 (ks : Nat), .bool gn, .int .i64 (ba : Nat), .int .i64 (bs : Nat), .int .i64 (fa : Nat), .int .i64 (fx : Nat)] 110) := ⟨_, rfl⟩
      have B4 : Hid (Below w.heap.size w W4) := by rw [hW4]; exact B3.out.alloc B3.out.size _
      have R4 : Hid (RowAt W4 w3.heap.size 110 #[.int .i64 (ka : Nat), .int .i64 (ks : Nat), .bool gn, .int .i64 (ba : Nat), .int .i64 (bs : Nat), .int .i64 (fa : Nat), .int .i64 (fx : Nat)]) := by rw [hW4]; exact RowAt.new _ _ _
      obtain ⟨b4, hb4⟩ : ∃ b, b = w3.heap.size := ⟨_, rfl⟩
      rw [← hb4] at R4
      have H4 := hid (H.out.below B4.out)
      have SS : Hid (∀ wx, Below W4.heap.size W4 wx → wx.cell? ⟨b4, 3, none⟩ = some (.int .i64 (ba : Nat)) ∧ wx.cell? ⟨b4, 4, none⟩ = some (.int .i64 (bs : Nat)) ∧ wx.cell? ⟨X, 0, none⟩ = some (.string d)) := fun wx hb => ⟨(R4.out.below hb R4.out.lt).cell 3, (R4.out.below hb R4.out.lt).cell 4, (H4.out.below hb).data⟩
      clear hb3 hin hf
      go_upto_region 4 with fail
      rw [← hW4, ← hb4]
      clear hW4 hb4
      go_region_held3 (fun wx => wx.cell? ⟨b4, 3, none⟩ = some (.int .i64 (ba : Nat)) ∧ wx.cell? ⟨b4, 4, none⟩ = some (.int .i64 (bs : Nat)) ∧ wx.cell? ⟨X, 0, none⟩ = some (.string d)) (first | exact SS.out _ (Below.refl _ _) | exact SS.out _ (Below.refl _ _).drew | exact SS.out _ b5.out | exact SS.out _ b6.out | (go_keep; done))
        (first
          | (go_at_call 74; refine (KO _).out.mono ?_; rintro e5 w5 ⟨rfl, hb5⟩; have b5 : Hid (Below W4.heap.size W4 w5) := (by first | exact hb5 | exact (Below.refl _ _).drew.trans hb5); clear hb5)
          | (go_at_call 27; refine (KC _).out.mono ?_; rintro e6 w6 ⟨rfl, hb6⟩; have b6 : Hid (Below W4.heap.size W4 w6) := b5.out.trans (hb6.mono b5.out.size); clear hb6))
      all_goals (try simp [Act.put])
      all_goals go_wp2
      all_goals go_ret2
      all_goals exact ⟨rfl, B4.out.trans (b6.out.mono B4.out.size)⟩
    · rw [← HTB.out] at ht; cases ht
end Go.Proofs.YtngkiokibldfjaaGreatDoor
