import Derived.Test.YtmjolkagkeonfaaGreatDoorRRpO
import Derived.Test.YtmjolkagkeonfaaGreatDoorRStrM
namespace Go.Proofs.YtmjolkagkeonfaaGreatDoorR
open Go.RowKit
set_option linter.unusedVariables false
/-! Conditions: marked, and their marks held. -/
def mkC (k0 p : Nat) : Value := if p % 3 = 1 then .string (markB (k0 + p)) else .int .i64 ((k0 + p : Nat) : Int)
def upC (k0 i : Nat) (f : Nat → Value) (p : Nat) : Value := if p < i then mkC k0 p else f p
theorem upC_0 (k0 : Nat) (f : Nat → Value) : upC k0 0 f = f := by funext p; unfold upC; rw [if_neg (by omega)]
theorem upC_put (k0 i : Nat) (f : Nat → Value) (p : Nat) : putF (upC k0 i f) i (mkC k0 i) p = upC k0 (i + 1) f p := by
  unfold putF upC
  by_cases e : p = i
  · rw [if_pos e, if_pos (by omega), e]
  · rw [if_neg e]
    by_cases h : p < i
    · rw [if_pos h, if_pos (by omega)]
    · rw [if_neg h, if_neg (by omega)]
theorem upC_at (k0 i : Nat) (f : Nat → Value) : upC k0 i f i = f i := if_neg (Nat.lt_irrefl _)
set_option maxRecDepth 20000 in
theorem markCn0 (a : Option Addr) (c k0 : Nat) (w : World) :
    Calls Tryz.prog 58 #[.slice a 0 c, .int .i64 (k0 : Int)] w fun e w' => e = .returned (.int .i64 (k0 : Int)) ∧ w' = w := by
  go_enter Tryz.func58, Tryz.ntmps58
  go_wp2_with fail
  go_loopw [1, 5] (fun y1 y5 wr => y1 = .int .i64 (k0 : Int) ∧ y5 = .int .i64 0 ∧ wr = w) (fun _ _ _ => 0)
  case atStart => exact ⟨rfl, rfl, rfl⟩
  case round =>
    obtain ⟨rfl, rfl, hw⟩ := hrel
    obtain rfl := hw.symm
    go_wp2
    go_ret
    exact ⟨rfl, rfl⟩
set_option maxRecDepth 20000 in
set_option maxHeartbeats 4000000 in
theorem markCn (g n c k0 : Nat) (f : Nat → Value) (hk1 : 1 ≤ k0) (hk : k0 + n * 3 ≤ 1073741824) (hn : n ≤ c) (hf : ∀ i, i < n → (∃ x : Int, f (i * 3) = .int .i64 x) ∧ (∃ t : ByteArray, f (i * 3 + 1) = .string t) ∧ ∃ x : Int, f (i * 3 + 2) = .int .i64 x) (w : World) (h : FRow w g 55 (c * 3) f) :
    Calls Tryz.prog 58 #[.slice (some ⟨g, 0, none⟩) n c, .int .i64 (k0 : Int)] w fun e w' => e = .returned (.int .i64 ((k0 + n * 3 : Nat) : Int)) ∧ FRow w' g 55 (c * 3) (upC k0 (n * 3) f) ∧ w.grownBy w' (some g) := by
  have H0 := hid h
  have HF := hid hf
  clear h hf
  go_enter Tryz.func58, Tryz.ntmps58
  go_wp2_with fail
  go_loopw [1, 5] (fun y1 y5 wr => ∃ i : Nat, i ≤ n ∧ y5 = .int .i64 (i : Int) ∧ y1 = .int .i64 ((k0 + i * 3 : Nat) : Int) ∧ FRow wr g 55 (c * 3) (upC k0 (i * 3) f) ∧ w.grownBy wr (some g)) (fun _ y5 _ => n - (intOf y5).toNat)
  case atStart => exact ⟨0, Nat.zero_le _, rfl, rfl, by rw [Nat.zero_mul, upC_0]; exact H0.out, below_grown (Below.refl _ _) _⟩
  case round =>
    obtain ⟨i, hi, rfl, rfl, hF, hG⟩ := hrel
    have FF := hid hF
    have GG := hid hG
    clear hF hG H0
    by_cases hlt : i < n
    · have hlt' : (i : Int) < (n : Int) := by omega
      have i0 : (0 : Int) ≤ (i : Int) := by omega
      obtain ⟨⟨x, hx⟩, ⟨t, ht⟩, ⟨z, hz⟩⟩ := HF.out i hlt
      obtain ⟨K, hK⟩ : ∃ K, K = k0 + i * 3 := ⟨_, rfl⟩
      rw [← hK]
      have c0 : wr.cell? ⟨g, i * 3, none⟩ = some (.int .i64 x) := (FF.out.cell (by omega)).trans (by rw [upC_at, hx])
      have f0 := FF.out.free (i * 3)
      obtain ⟨W1, hW1⟩ : ∃ W, W = wr.setCell ⟨g, i * 3, none⟩ (.int .i64 (K : Int)) := ⟨_, rfl⟩
      have F1 : Hid (FRow W1 g 55 (c * 3) (upC k0 (i * 3 + 1) f)) := by
        rw [hW1]
        refine (FF.out.set (i * 3) _).congr fun p _ => ?_
        rw [← upC_put, show mkC k0 (i * 3) = .int .i64 (K : Int) by unfold mkC; rw [if_neg (by omega), hK]]
      have G1 : Hid (w.grownBy W1 (some g)) := by rw [hW1]; exact grown_trans GG.out grown_set
      have KT : Hid (Calls Tryz.prog 77 #[.int .i64 ((K : Int) + 1)] W1 fun e w' => e = .returned (.string (markB (K + 1))) ∧ Below W1.heap.size W1 w') := by rw [show ((K : Nat) : Int) + 1 = ((K + 1 : Nat) : Int) by omega]; exact markT (K + 1) (by omega) (by omega) W1
      have HW1 := hid hW1
      have HK := hid hK
      have hKb : K ≤ 1073741824 := by omega
      clear hW1 FF GG hK
      go_upto_region 5 with fail
      rw [← HW1.out]
      clear HW1 c0 f0
      go_wp2_with fail
      refine KT.out.mono ?_
      rintro e w2 ⟨rfl, hb2⟩
      have F2 := hid (F1.out.below hb2 F1.out.lt)
      have G2 : Hid (w.grownBy w2 (some g)) := grown_trans G1.out (below_grown hb2 _)
      clear hb2 KT F1 G1
      have c1 : w2.cell? ⟨g, i * 3 + 1, none⟩ = some (.string t) := (F2.out.cell (by omega)).trans (by rw [upC_at, ht])
      have f1 := F2.out.free (i * 3 + 1)
      obtain ⟨W3, hW3⟩ : ∃ W, W = w2.setCell ⟨g, i * 3 + 1, none⟩ (.string (markB (K + 1))) := ⟨_, rfl⟩
      have F3 : Hid (FRow W3 g 55 (c * 3) (upC k0 (i * 3 + 1 + 1) f)) := by
        rw [hW3]
        refine (F2.out.set (i * 3 + 1) _).congr fun p _ => ?_
        rw [← upC_put, show mkC k0 (i * 3 + 1) = .string (markB (K + 1)) by unfold mkC; rw [if_pos (by omega), HK.out, Nat.add_assoc]]
      have G3 : Hid (w.grownBy W3 (some g)) := by rw [hW3]; exact grown_trans G2.out grown_set
      have c2 : W3.cell? ⟨g, i * 3 + 2, none⟩ = some (.int .i64 z) := (F3.out.cell (by omega)).trans (by rw [show i * 3 + 2 = i * 3 + 1 + 1 from rfl, upC_at]; exact congrArg some hz)
      have f2 := F3.out.free (i * 3 + 2)
      have F4 : Hid (FRow (W3.setCell ⟨g, i * 3 + 2, none⟩ (.int .i64 ((K : Int) + 1 + 1))) g 55 (c * 3) (upC k0 ((i + 1) * 3) f)) := by
        refine (F3.out.set (i * 3 + 2) _).congr fun p _ => ?_
        rw [show (i + 1) * 3 = i * 3 + 1 + 1 + 1 by omega, ← upC_put, show mkC k0 (i * 3 + 1 + 1) = .int .i64 ((K : Int) + 1 + 1) by unfold mkC; rw [if_neg (by omega), HK.out]; (congr 1 <;> omega)]
      have G4 : Hid (w.grownBy (W3.setCell ⟨g, i * 3 + 2, none⟩ (.int .i64 ((K : Int) + 1 + 1))) (some g)) := grown_trans G3.out grown_set
      have HW3 := hid hW3
      clear hW3 F2 G2 F3 G3
      go_upto_region 7 with fail
      rw [← HW3.out]
      clear HW3 c1 f1
      go_wp2
      go_roundw
      case rel => exact ⟨i + 1, by omega, by go_num, by have := HK.out; congr 1; omega, F4.out, G4.out⟩
      case measure => simp [intOf]; omega
    · have hlt' : ¬ (i : Int) < (n : Int) := by omega
      have ei : i = n := by omega
      have HE := hid ei
      clear ei
      go_wp2
      go_ret
      exact ⟨by rw [← HE.out]; rfl, by rw [← HE.out]; exact FF.out, GG.out⟩
set_option maxRecDepth 20000 in
theorem heldCn0 (a : Option Addr) (c k0 : Nat) (w : World) :
    Calls Tryz.prog 60 #[.slice a 0 c, .int .i64 (k0 : Int)] w fun e w' => e = .returned (.int .i64 (k0 : Int)) ∧ w' = w := by
  go_enter Tryz.func60, Tryz.ntmps60
  go_wp2_with fail
  go_loopw [1, 5] (fun y1 y5 wr => y1 = .int .i64 (k0 : Int) ∧ y5 = .int .i64 0 ∧ wr = w) (fun _ _ _ => 0)
  case atStart => exact ⟨rfl, rfl, rfl⟩
  case round =>
    obtain ⟨rfl, rfl, hw⟩ := hrel
    obtain rfl := hw.symm
    go_wp2
    go_ret
    exact ⟨rfl, rfl⟩
set_option maxRecDepth 20000 in
set_option maxHeartbeats 4000000 in
theorem heldCn (g n c k0 : Nat) (f : Nat → Value) (hk1 : 1 ≤ k0) (hk : k0 + n * 3 ≤ 1073741824) (hn : n ≤ c) (w : World) (h : FRow w g 55 (c * 3) (upC k0 (n * 3) f)) :
    Calls Tryz.prog 60 #[.slice (some ⟨g, 0, none⟩) n c, .int .i64 (k0 : Int)] w fun e w' => e = .returned (.int .i64 ((k0 + n * 3 : Nat) : Int)) ∧ Below w.heap.size w w' := by
  have H0 := hid h
  clear h
  go_enter Tryz.func60, Tryz.ntmps60
  go_wp2_with fail
  go_loopw [1, 5] (fun y1 y5 wr => ∃ i : Nat, i ≤ n ∧ y5 = .int .i64 (i : Int) ∧ y1 = .int .i64 ((k0 + i * 3 : Nat) : Int) ∧ Below w.heap.size w wr) (fun _ y5 _ => n - (intOf y5).toNat)
  case atStart => exact ⟨0, Nat.zero_le _, rfl, rfl, Below.refl _ _⟩
  case round =>
    obtain ⟨i, hi, rfl, rfl, hB⟩ := hrel
    have BB := hid hB
    clear hB
    by_cases hlt : i < n
    · have hlt' : (i : Int) < (n : Int) := by omega
      have i0 : (0 : Int) ≤ (i : Int) := by omega
      obtain ⟨K, hK⟩ : ∃ K, K = k0 + i * 3 := ⟨_, rfl⟩
      rw [← hK]
      have R := H0.out.below BB.out H0.out.lt
      have hgl : g < wr.heap.size := R.lt
      have c0 : wr.cell? ⟨g, i * 3, none⟩ = some (.int .i64 (K : Int)) := (R.cell (by omega)).trans (by unfold upC mkC; rw [if_pos (by omega), if_neg (by omega), hK])
      have c1 : wr.cell? ⟨g, i * 3 + 1, none⟩ = some (.string (markB (K + 1))) := (R.cell (by omega)).trans (by unfold upC mkC; rw [if_pos (by omega), if_pos (by omega), hK, Nat.add_assoc])
      have c2 : wr.cell? ⟨g, i * 3 + 2, none⟩ = some (.int .i64 ((K : Int) + 1 + 1)) := (R.cell (by omega)).trans (by unfold upC mkC; rw [if_pos (by omega), if_neg (by omega), hK]; (congr 2 <;> omega))
      have d0 : ((K : Int) != (K : Int)) = false := by simp
      have d2 : (((K : Int) + 1 + 1) != ((K : Int) + 1 + 1)) = false := by simp
      have hKb : K ≤ 1073741824 := by omega
      have hK1 : 1 ≤ K := by omega
      have HK := hid hK
      obtain ⟨m, hm⟩ : ∃ m, m = markB (K + 1) := ⟨_, rfl⟩
      rw [← hm] at c1
      have KT : Hid (∀ wx, Calls Tryz.prog 77 #[.int .i64 ((K : Int) + 1)] wx fun e w' => e = .returned (.string m) ∧ Below wx.heap.size wx w') := fun wx => by rw [hm, show ((K : Nat) : Int) + 1 = ((K + 1 : Nat) : Int) by omega]; exact markT (K + 1) (by omega) (by omega) wx
      clear R hK hm
      go_upto_region 7 with fail
      go_region_held3 (fun wx => wx.cell? ⟨g, i * 3 + 1, none⟩ = some (.string m)) ((first | exact y1 | exact c1 | (go_keep; done))) ((go_at_call 77; refine (KT.out _).mono ?_; rintro e w2 ⟨rfl, hb2⟩; have y1 := (hb2.cell (p := ⟨g, i * 3 + 1, none⟩) hgl).trans (show wr.drew.cell? _ = _ from c1)))
      have N2 : Hid (Below w.heap.size w w2) := BB.out.drew.trans (hb2.mono BB.out.size)
      have e2 := (hb2.cell (p := ⟨g, i * 3 + 2, none⟩) hgl).trans (show wr.drew.cell? _ = _ from c2)
      clear hb2 y1 c1 c0 c2 BB
      go_wp2
      go_roundw
      case rel => exact ⟨i + 1, by omega, by go_num, by have := HK.out; congr 1; omega, N2.out⟩
      case measure => simp [intOf]; omega
    · have hlt' : ¬ (i : Int) < (n : Int) := by omega
      have ei : i = n := by omega
      have HE := hid ei
      clear ei
      go_wp2
      go_ret
      exact ⟨by rw [← HE.out]; rfl, BB.out⟩
end Go.Proofs.YtmjolkagkeonfaaGreatDoorR
