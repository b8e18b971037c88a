import Derived.Test.YtekdphfifdfmbaaG2
namespace Go.Proofs.Ytekdphfifdfmbaa
open Go.RowKit
set_option linter.unusedVariables false
/-! Entries: marked, and their marks held. -/
def mkE (k0 p : Nat) : Value := if p % 4 = 1 then .int .i64 ((k0 + p : Nat) : Int) else if p % 4 = 2 then .bool (((k0 + p : Nat) : Int) % 3 == 0) else .string (markB (k0 + p))
def upE (k0 i : Nat) (f : Nat → Value) (p : Nat) : Value := if p < i then mkE k0 p else f p
theorem upE_0 (k0 : Nat) (f : Nat → Value) : upE k0 0 f = f := by funext p; unfold upE; rw [if_neg (by omega)]
theorem upE_put (k0 i : Nat) (f : Nat → Value) (p : Nat) : putF (upE k0 i f) i (mkE k0 i) p = upE k0 (i + 1) f p := by
  unfold putF upE
  by_cases e : p = i
  · rw [if_pos e, if_pos (by omega), e]
  · rw [if_neg e]
    by_cases h : p < i
    · rw [if_pos h, if_pos (by omega)]
    · rw [if_neg h, if_neg (by omega)]
theorem upE_at (k0 i : Nat) (f : Nat → Value) : upE k0 i f i = f i := if_neg (Nat.lt_irrefl _)
set_option maxRecDepth 20000 in
theorem markEn0 (a : Option Addr) (c k0 : Nat) (w : World) :
    Calls Try.prog 41 #[.slice a 0 c, .int .i64 (k0 : Int)] w fun e w' => e = .returned (.int .i64 (k0 : Int)) ∧ w' = w := by
  go_enter Try.func41, Try.ntmps41
  go_wp2_with fail
  go_loopw [1, 5] (fun y1 y5 wr => y1 = .int .i64 (k0 : Int) ∧ y5 = .int .i64 0 ∧ wr = w) (fun _ _ _ => 0)
  case atStart => exact ⟨rfl, rfl, rfl⟩
  case round =>
    obtain ⟨rfl, rfl, hw⟩ := hrel
    obtain rfl := hw.symm
    go_wp2
    go_ret
    exact ⟨rfl, rfl⟩
set_option maxRecDepth 20000 in
set_option maxHeartbeats 4000000 in
theorem markEn (g n c k0 : Nat) (f : Nat → Value) (hk1 : 1 ≤ k0) (hk : k0 + n * 4 ≤ 1073741824) (hn : n ≤ c) (hf : ∀ i, i < n → (∃ t : ByteArray, f (i * 4) = .string t) ∧ (∃ x : Int, f (i * 4 + 1) = .int .i64 x) ∧ (∃ b : Bool, f (i * 4 + 2) = .bool b) ∧ ∃ t : ByteArray, f (i * 4 + 3) = .string t) (w : World) (h : FRow w g 34 (c * 4) f) :
    Calls Try.prog 41 #[.slice (some ⟨g, 0, none⟩) n c, .int .i64 (k0 : Int)] w fun e w' => e = .returned (.int .i64 ((k0 + n * 4 : Nat) : Int)) ∧ FRow w' g 34 (c * 4) (upE k0 (n * 4) f) ∧ w.grownBy w' (some g) := by
  have H0 := hid h
  have HF := hid hf
  clear h hf
  go_enter Try.func41, Try.ntmps41
  go_wp2_with fail
  go_loopw [1, 5] (fun y1 y5 wr => ∃ i : Nat, i ≤ n ∧ y5 = .int .i64 (i : Int) ∧ y1 = .int .i64 ((k0 + i * 4 : Nat) : Int) ∧ FRow wr g 34 (c * 4) (upE k0 (i * 4) f) ∧ w.grownBy wr (some g)) (fun _ y5 _ => n - (intOf y5).toNat)
  case atStart => exact ⟨0, Nat.zero_le _, rfl, rfl, by rw [Nat.zero_mul, upE_0]; exact H0.out, below_grown (Below.refl _ _) _⟩
  case round =>
    obtain ⟨i, hi, rfl, rfl, hF, hG⟩ := hrel
    have FF := hid hF
    have GG := hid hG
    clear hF hG H0
    by_cases hlt : i < n
    · have hlt' : (i : Int) < (n : Int) := by omega
      have i0 : (0 : Int) ≤ (i : Int) := by omega
      obtain ⟨⟨t, ht⟩, ⟨x, hx⟩, ⟨y, hy⟩, ⟨z, hz⟩⟩ := HF.out i hlt
      obtain ⟨K, hK⟩ : ∃ K, K = k0 + i * 4 := ⟨_, rfl⟩
      rw [← hK]
      have HK := hid hK
      have hKb : K ≤ 1073741824 := by omega
      have KT : Hid (Calls Try.prog 62 #[.int .i64 (K : Int)] wr fun e w' => e = .returned (.string (markB K)) ∧ Below wr.heap.size wr w') := markT K (by omega) (by omega) wr
      have KT2 : Hid (∀ wx, Calls Try.prog 62 #[.int .i64 ((K : Int) + 1 + 1 + 1)] wx fun e w' => e = .returned (.string (markB (K + 3))) ∧ Below wx.heap.size wx w') := fun wx => by rw [show ((K : Nat) : Int) + 1 + 1 + 1 = ((K + 3 : Nat) : Int) by omega]; exact markT (K + 3) (by omega) (by omega) wx
      clear hK
      go_wp2_with fail
      refine KT.out.mono ?_
      rintro e w1 ⟨rfl, hb1⟩
      have F0 := hid (FF.out.below hb1 FF.out.lt)
      have G0 : Hid (w.grownBy w1 (some g)) := grown_trans GG.out (below_grown hb1 _)
      clear hb1 KT FF GG
      have c0 : w1.cell? ⟨g, i * 4, none⟩ = some (.string t) := (F0.out.cell (by omega)).trans (by rw [upE_at, ht])
      have f0 := F0.out.free (i * 4)
      obtain ⟨W1, hW1⟩ : ∃ W, W = w1.setCell ⟨g, i * 4, none⟩ (.string (markB K)) := ⟨_, rfl⟩
      have F1 : Hid (FRow W1 g 34 (c * 4) (upE k0 (i * 4 + 1) f)) := by
        rw [hW1]
        refine (F0.out.set (i * 4) _).congr fun p _ => ?_
        rw [← upE_put, show mkE k0 (i * 4) = .string (markB K) by unfold mkE; rw [if_neg (by omega), if_neg (by omega), HK.out]]
      have G1 : Hid (w.grownBy W1 (some g)) := by rw [hW1]; exact grown_trans G0.out grown_set
      have HW1 := hid hW1
      clear hW1 F0 G0
      go_upto_region 5 with fail
      rw [← HW1.out]
      clear HW1 c0 f0
      have c1 : W1.cell? ⟨g, i * 4 + 1, none⟩ = some (.int .i64 x) := (F1.out.cell (by omega)).trans (by rw [upE_at, hx])
      have f1 := F1.out.free (i * 4 + 1)
      obtain ⟨W2, hW2⟩ : ∃ W, W = W1.setCell ⟨g, i * 4 + 1, none⟩ (.int .i64 ((K : Int) + 1)) := ⟨_, rfl⟩
      have F2 : Hid (FRow W2 g 34 (c * 4) (upE k0 (i * 4 + 1 + 1) f)) := by
        rw [hW2]
        refine (F1.out.set (i * 4 + 1) _).congr fun p _ => ?_
        rw [← upE_put, show mkE k0 (i * 4 + 1) = .int .i64 ((K : Int) + 1) by unfold mkE; rw [if_pos (by omega), HK.out]; (congr 1 <;> omega)]
      have G2 : Hid (w.grownBy W2 (some g)) := by rw [hW2]; exact grown_trans G1.out grown_set
      have HW2 := hid hW2
      clear hW2 F1 G1
      go_upto_region 7 with fail
      rw [← HW2.out]
      clear HW2 c1 f1
      have c2 : W2.cell? ⟨g, i * 4 + 2, none⟩ = some (.bool y) := (F2.out.cell (by omega)).trans (by rw [show i * 4 + 2 = i * 4 + 1 + 1 from rfl, upE_at]; exact congrArg some hy)
      have f2 := F2.out.free (i * 4 + 2)
      obtain ⟨bb, hbb⟩ : ∃ b, b = (((K : Int) + 1 + 1) % 3 == 0) := ⟨_, rfl⟩
      have b1 : (((K : Int) + 1 + 1) % 3 == 0) = bb := hbb.symm
      have b2 : (((K : Int) + 1 + 1).tmod 3 == 0) = bb := by rw [Int.tmod_eq_emod_of_nonneg (by omega)]; exact b1
      obtain ⟨W3, hW3⟩ : ∃ W, W = W2.setCell ⟨g, i * 4 + 2, none⟩ (.bool bb) := ⟨_, rfl⟩
      have F3 : Hid (FRow W3 g 34 (c * 4) (upE k0 (i * 4 + 1 + 1 + 1) f)) := by
        rw [hW3]
        refine (F2.out.set (i * 4 + 2) _).congr fun p _ => ?_
        rw [← upE_put, show mkE k0 (i * 4 + 1 + 1) = .bool bb by unfold mkE; rw [if_neg (by omega), if_pos (by omega), hbb, HK.out, show ((k0 + (i * 4 + 1 + 1) : Nat) : Int) = ((k0 + i * 4 : Nat) : Int) + 1 + 1 by omega]]
      have G3 : Hid (w.grownBy W3 (some g)) := by rw [hW3]; exact grown_trans G2.out grown_set
      have HW3 := hid hW3
      clear hW3 F2 G2 hbb
      go_upto_region 9 with fail
      rw [← HW3.out]
      clear HW3 c2 f2
      go_wp2_with fail
      refine (KT2.out W3).mono ?_
      rintro e w4 ⟨rfl, hb4⟩
      have F4 := hid (F3.out.below hb4 F3.out.lt)
      have G4 : Hid (w.grownBy w4 (some g)) := grown_trans G3.out (below_grown hb4 _)
      clear hb4 KT2 F3 G3 b1 b2
      have c3 : w4.cell? ⟨g, i * 4 + 3, none⟩ = some (.string z) := (F4.out.cell (by omega)).trans (by rw [show i * 4 + 3 = i * 4 + 1 + 1 + 1 from rfl, upE_at]; exact congrArg some hz)
      have f3 := F4.out.free (i * 4 + 3)
      have F5 : Hid (FRow (w4.setCell ⟨g, i * 4 + 3, none⟩ (.string (markB (K + 3)))) g 34 (c * 4) (upE k0 ((i + 1) * 4) f)) := by
        refine (F4.out.set (i * 4 + 3) _).congr fun p _ => ?_
        rw [show (i + 1) * 4 = i * 4 + 1 + 1 + 1 + 1 by omega, ← upE_put, show mkE k0 (i * 4 + 1 + 1 + 1) = .string (markB (K + 3)) by unfold mkE; rw [if_neg (by omega), if_neg (by omega), HK.out, show k0 + (i * 4 + 1 + 1 + 1) = k0 + i * 4 + 3 by omega]]
      have G5 : Hid (w.grownBy (w4.setCell ⟨g, i * 4 + 3, none⟩ (.string (markB (K + 3)))) (some g)) := grown_trans G4.out grown_set
      clear F4 G4
      go_wp2
      go_roundw
      case rel => exact ⟨i + 1, by omega, by go_num, by have := HK.out; congr 1; omega, F5.out, G5.out⟩
      case measure => simp [intOf]; omega
    · have hlt' : ¬ (i : Int) < (n : Int) := by omega
      have ei : i = n := by omega
      have HE := hid ei
      clear ei
      go_wp2
      go_ret
      exact ⟨by rw [← HE.out]; rfl, by rw [← HE.out]; exact FF.out, GG.out⟩
set_option maxRecDepth 20000 in
theorem heldEn0 (a : Option Addr) (c k0 : Nat) (w : World) :
    Calls Try.prog 42 #[.slice a 0 c, .int .i64 (k0 : Int)] w fun e w' => e = .returned (.int .i64 (k0 : Int)) ∧ w' = w := by
  go_enter Try.func42, Try.ntmps42
  go_wp2_with fail
  go_loopw [1, 5] (fun y1 y5 wr => y1 = .int .i64 (k0 : Int) ∧ y5 = .int .i64 0 ∧ wr = w) (fun _ _ _ => 0)
  case atStart => exact ⟨rfl, rfl, rfl⟩
  case round =>
    obtain ⟨rfl, rfl, hw⟩ := hrel
    obtain rfl := hw.symm
    go_wp2
    go_ret
    exact ⟨rfl, rfl⟩
set_option maxRecDepth 20000 in
set_option maxHeartbeats 4000000 in
theorem heldEn (g n c k0 : Nat) (f : Nat → Value) (hk1 : 1 ≤ k0) (hk : k0 + n * 4 ≤ 1073741824) (hn : n ≤ c) (w : World) (h : FRow w g 34 (c * 4) (upE k0 (n * 4) f)) :
    Calls Try.prog 42 #[.slice (some ⟨g, 0, none⟩) n c, .int .i64 (k0 : Int)] w fun e w' => e = .returned (.int .i64 ((k0 + n * 4 : Nat) : Int)) ∧ Below w.heap.size w w' := by
  have H0 := hid h
  clear h
  go_enter Try.func42, Try.ntmps42
  go_wp2_with fail
  go_loopw [1, 5] (fun y1 y5 wr => ∃ i : Nat, i ≤ n ∧ y5 = .int .i64 (i : Int) ∧ y1 = .int .i64 ((k0 + i * 4 : Nat) : Int) ∧ Below w.heap.size w wr) (fun _ y5 _ => n - (intOf y5).toNat)
  case atStart => exact ⟨0, Nat.zero_le _, rfl, rfl, Below.refl _ _⟩
  case round =>
    obtain ⟨i, hi, rfl, rfl, hB⟩ := hrel
    have BB := hid hB
    clear hB
    by_cases hlt : i < n
    · have hlt' : (i : Int) < (n : Int) := by omega
      have i0 : (0 : Int) ≤ (i : Int) := by omega
      obtain ⟨K, hK⟩ : ∃ K, K = k0 + i * 4 := ⟨_, rfl⟩
      rw [← hK]
      have R := H0.out.below BB.out H0.out.lt
      have hgl : g < wr.heap.size := R.lt
      obtain ⟨bb, hbb⟩ : ∃ b, b = (((K : Int) + 1 + 1) % 3 == 0) := ⟨_, rfl⟩
      have b1 : (((K : Int) + 1 + 1) % 3 == 0) = bb := hbb.symm
      have b2 : (((K : Int) + 1 + 1).tmod 3 == 0) = bb := by rw [Int.tmod_eq_emod_of_nonneg (by omega)]; exact b1
      have c0 : wr.cell? ⟨g, i * 4, none⟩ = some (.string (markB K)) := (R.cell (by omega)).trans (by unfold upE mkE; rw [if_pos (by omega), if_neg (by omega), if_neg (by omega), hK])
      have c1 : wr.cell? ⟨g, i * 4 + 1, none⟩ = some (.int .i64 ((K : Int) + 1)) := (R.cell (by omega)).trans (by unfold upE mkE; rw [if_pos (by omega), if_pos (by omega), hK]; (congr 2 <;> omega))
      have c2 : wr.cell? ⟨g, i * 4 + 2, none⟩ = some (.bool bb) := (R.cell (by omega)).trans (by unfold upE mkE; rw [if_pos (by omega), if_neg (by omega), if_pos (by omega), hbb, hK, show ((k0 + (i * 4 + 2) : Nat) : Int) = ((k0 + i * 4 : Nat) : Int) + 1 + 1 by omega])
      have c3 : wr.cell? ⟨g, i * 4 + 3, none⟩ = some (.string (markB (K + 3))) := (R.cell (by omega)).trans (by unfold upE mkE; rw [if_pos (by omega), if_neg (by omega), if_neg (by omega), hK, Nat.add_assoc])
      have d1 : (((K : Int) + 1) != ((K : Int) + 1)) = false := by simp
      have d2 : (bb != bb) = false := by simp
      have hKb : K ≤ 1073741824 := by omega
      have hK1 : 1 ≤ K := by omega
      have HK := hid hK
      obtain ⟨m, hm⟩ : ∃ m, m = markB K := ⟨_, rfl⟩
      rw [← hm] at c0
      have KT : Hid (∀ wx, Calls Try.prog 62 #[.int .i64 (K : Int)] wx fun e w' => e = .returned (.string m) ∧ Below wx.heap.size wx w') := fun wx => by rw [hm]; exact markT K (by omega) (by omega) wx
      obtain ⟨m2, hm2⟩ : ∃ m, m = markB (K + 3) := ⟨_, rfl⟩
      rw [← hm2] at c3
      have KT2 : Hid (∀ wx, Calls Try.prog 62 #[.int .i64 ((K : Int) + 1 + 1 + 1)] wx fun e w' => e = .returned (.string m2) ∧ Below wx.heap.size wx w') := fun wx => by rw [hm2, show ((K : Nat) : Int) + 1 + 1 + 1 = ((K + 3 : Nat) : Int) by omega]; exact markT (K + 3) (by omega) (by omega) wx
      clear R hK hm hm2 hbb
      go_wp2_with fail
      go_region_held3 (fun wx => wx.cell? ⟨g, i * 4, none⟩ = some (.string m)) ((first | exact y1 | exact c0 | (go_keep; done))) ((go_at_call 62; refine (KT.out _).mono ?_; rintro e w2 ⟨rfl, hb2⟩; have y1 := (hb2.cell (p := ⟨g, i * 4, none⟩) hgl).trans (show wr.drew.cell? _ = _ from c0)))
      have N2 : Hid (Below w.heap.size w w2) := BB.out.drew.trans (hb2.mono BB.out.size)
      have hg2 : g < w2.heap.size := Nat.lt_of_lt_of_le hgl hb2.size
      have e1 := (hb2.cell (p := ⟨g, i * 4 + 1, none⟩) hgl).trans (show wr.drew.cell? _ = _ from c1)
      have e2 := (hb2.cell (p := ⟨g, i * 4 + 2, none⟩) hgl).trans (show wr.drew.cell? _ = _ from c2)
      have e3 := (hb2.cell (p := ⟨g, i * 4 + 3, none⟩) hgl).trans (show wr.drew.cell? _ = _ from c3)
      clear hb2 y1 c1 c0 c2 c3 BB KT
      go_upto_region 13 with fail
      go_region_held3 (fun wx => wx.cell? ⟨g, i * 4 + 3, none⟩ = some (.string m2)) ((first | exact y3 | exact e3 | (go_keep; done))) ((go_at_call 62; refine (KT2.out _).mono ?_; rintro e w4 ⟨rfl, hb4⟩; have y3 := (hb4.cell (p := ⟨g, i * 4 + 3, none⟩) hg2).trans (show w2.drew.cell? _ = _ from e3)))
      have N4 : Hid (Below w.heap.size w w4) := N2.out.drew.trans (hb4.mono N2.out.size)
      clear hb4 y3 e1 e2 e3 N2
      go_wp2
      go_roundw
      case rel => exact ⟨i + 1, by omega, by go_num, by have := HK.out; congr 1; omega, N4.out⟩
      case measure => simp [intOf]; omega
    · have hlt' : ¬ (i : Int) < (n : Int) := by omega
      have ei : i = n := by omega
      have HE := hid ei
      clear ei
      go_wp2
      go_ret
      exact ⟨by rw [← HE.out]; rfl, BB.out⟩
end Go.Proofs.Ytekdphfifdfmbaa
