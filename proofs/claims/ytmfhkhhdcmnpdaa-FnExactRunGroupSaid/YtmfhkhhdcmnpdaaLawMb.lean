import Derived.Test.YtmfhkhhdcmnpdaaGrI19
import Derived.Test.YtmfhkhhdcmnpdaaLawGop2
namespace Go.Proofs.Ytmfhkhhdcmnpdaa
open Go.RowKit
set_option linter.unusedVariables false
/-! Marks on entries and outs (by genlawmb.py). -/
def mkE (k0 p : Nat) : Value := if p % 2 = 0 then .int .i64 ((k0 + p : Nat) : Int) else .string (markB (k0 + p))
def mkO (k0 p : Nat) : Value := .int .i64 ((k0 + p : Nat) : Int)
def upM (m : Nat → Nat → Value) (k0 i : Nat) (f : Nat → Value) (p : Nat) : Value := if p < i then m k0 p else f p
theorem upM_0 (m : Nat → Nat → Value) (k0 : Nat) (f : Nat → Value) : upM m k0 0 f = f := by funext p; unfold upM; rw [if_neg (by omega)]
theorem upM_put (m : Nat → Nat → Value) (k0 i : Nat) (f : Nat → Value) (p : Nat) : putF (upM m k0 i f) i (m k0 i) p = upM m k0 (i + 1) f p := by
  unfold putF upM
  by_cases e : p = i
  · rw [if_pos e, if_pos (by omega), e]
  · rw [if_neg e]
    by_cases h : p < i
    · rw [if_pos h, if_pos (by omega)]
    · rw [if_neg h, if_neg (by omega)]
theorem upM_at (m : Nat → Nat → Value) (k0 i : Nat) (f : Nat → Value) : upM m k0 i f i = f i := if_neg (Nat.lt_irrefl _)
set_option maxRecDepth 20000 in
theorem markGe0 (a : Option Addr) (c k0 : Nat) (w : World) :
    Calls Try.prog 68 #[.slice a 0 c, .int .i64 (k0 : Int)] w fun e w' => e = .returned (.int .i64 (k0 : Int)) ∧ w' = w := by
  go_enter Try.func68, Try.ntmps68
  go_wp2_with fail
  go_loopw [1, 5] (fun y1 y5 wr => y1 = .int .i64 (k0 : Int) ∧ y5 = .int .i64 0 ∧ wr = w) (fun _ _ _ => 0)
  case atStart => exact ⟨rfl, rfl, rfl⟩
  case round =>
    obtain ⟨rfl, rfl, hw⟩ := hrel
    obtain rfl := hw.symm
    go_wp2
    go_ret
    exact ⟨rfl, rfl⟩
set_option maxRecDepth 20000 in
set_option maxHeartbeats 4000000 in
theorem markGe (g n c k0 : Nat) (f : Nat → Value) (hk1 : 1 ≤ k0) (hk : k0 + n * 2 ≤ 1073741824) (hn : n ≤ c) (hf : ∀ i, i < n → (∃ x : Int, f (i * 2) = .int .i64 x) ∧ ∃ t : ByteArray, f (i * 2 + 1) = .string t) (w : World) (h : FRow w g 46 (c * 2) f) :
    Calls Try.prog 68 #[.slice (some ⟨g, 0, none⟩) n c, .int .i64 (k0 : Int)] w fun e w' => e = .returned (.int .i64 ((k0 + n * 2 : Nat) : Int)) ∧ FRow w' g 46 (c * 2) (upM mkE k0 (n * 2) f) ∧ w.grownBy w' (some g) := by
  have H0 := hid h
  have HF := hid hf
  clear h hf
  go_enter Try.func68, Try.ntmps68
  go_wp2_with fail
  go_loopw [1, 5] (fun y1 y5 wr => ∃ i : Nat, i ≤ n ∧ y5 = .int .i64 (i : Int) ∧ y1 = .int .i64 ((k0 + i * 2 : Nat) : Int) ∧ FRow wr g 46 (c * 2) (upM mkE k0 (i * 2) f) ∧ w.grownBy wr (some g)) (fun _ y5 _ => n - (intOf y5).toNat)
  case atStart => exact ⟨0, Nat.zero_le _, rfl, rfl, by rw [Nat.zero_mul, upM_0]; exact H0.out, below_grown (Below.refl _ _) _⟩
  case round =>
    obtain ⟨i, hi, rfl, rfl, hF, hG⟩ := hrel
    have FF := hid hF
    have GG := hid hG
    clear hF hG H0
    by_cases hlt : i < n
    · have hlt' : (i : Int) < (n : Int) := by omega
      have i0 : (0 : Int) ≤ (i : Int) := by omega
      obtain ⟨⟨x, hx⟩, ⟨t, ht⟩⟩ := HF.out i hlt
      obtain ⟨K, hK⟩ : ∃ K, K = k0 + i * 2 := ⟨_, rfl⟩
      rw [← hK]
      have c0 : wr.cell? ⟨g, i * 2, none⟩ = some (.int .i64 x) := (FF.out.cell (by omega)).trans (by rw [upM_at, hx])
      have f0 := FF.out.free (i * 2)
      obtain ⟨W1, hW1⟩ : ∃ W, W = wr.setCell ⟨g, i * 2, none⟩ (.int .i64 (K : Int)) := ⟨_, rfl⟩
      have F1 : Hid (FRow W1 g 46 (c * 2) (upM mkE k0 (i * 2 + 1) f)) := by
        rw [hW1]
        refine (FF.out.set (i * 2) _).congr fun p _ => ?_
        rw [← upM_put, show mkE k0 (i * 2) = .int .i64 (K : Int) by unfold mkE; rw [if_pos (by omega), hK]]
      have G1 : Hid (w.grownBy W1 (some g)) := by rw [hW1]; exact grown_trans GG.out grown_set
      have KT : Hid (Calls Try.prog 42 #[.int .i64 ((K : Int) + 1)] W1 fun e w' => e = .returned (.string (markB (K + 1))) ∧ Below W1.heap.size W1 w') := by rw [show ((K : Nat) : Int) + 1 = ((K + 1 : Nat) : Int) by omega]; exact markT (K + 1) (by omega) (by omega) W1
      have HW1 := hid hW1
      have HK := hid hK
      have hKb : K ≤ 1073741824 := by omega
      clear hW1 FF GG hK
      go_upto_region 5 with fail
      rw [← HW1.out]
      clear HW1 c0 f0
      go_wp2_with fail
      refine KT.out.mono ?_
      rintro e w2 ⟨rfl, hb2⟩
      have F2 := hid (F1.out.below hb2 F1.out.lt)
      have G2 : Hid (w.grownBy w2 (some g)) := grown_trans G1.out (below_grown hb2 _)
      clear hb2 KT F1 G1
      have c1 : w2.cell? ⟨g, i * 2 + 1, none⟩ = some (.string t) := (F2.out.cell (by omega)).trans (by rw [upM_at, ht])
      have f1 := F2.out.free (i * 2 + 1)
      have F3 : Hid (FRow (w2.setCell ⟨g, i * 2 + 1, none⟩ (.string (markB (K + 1)))) g 46 (c * 2) (upM mkE k0 ((i + 1) * 2) f)) := by
        refine (F2.out.set (i * 2 + 1) _).congr fun p _ => ?_
        rw [show (i + 1) * 2 = i * 2 + 1 + 1 by omega, ← upM_put, show mkE k0 (i * 2 + 1) = .string (markB (K + 1)) by unfold mkE; rw [if_neg (by omega), HK.out, Nat.add_assoc]]
      have G3 : Hid (w.grownBy (w2.setCell ⟨g, i * 2 + 1, none⟩ (.string (markB (K + 1)))) (some g)) := grown_trans G2.out grown_set
      clear F2 G2
      go_wp2
      go_roundw
      case rel => exact ⟨i + 1, by omega, by go_num, by have := HK.out; congr 1; omega, F3.out, G3.out⟩
      case measure => simp [intOf]; omega
    · have hlt' : ¬ (i : Int) < (n : Int) := by omega
      have ei : i = n := by omega
      have HE := hid ei
      clear ei
      go_wp2
      go_ret
      exact ⟨by rw [← HE.out]; rfl, by rw [← HE.out]; exact FF.out, GG.out⟩
set_option maxRecDepth 20000 in
theorem heldGe0 (a : Option Addr) (c k0 : Nat) (w : World) :
    Calls Try.prog 69 #[.slice a 0 c, .int .i64 (k0 : Int)] w fun e w' => e = .returned (.int .i64 (k0 : Int)) ∧ w' = w := by
  go_enter Try.func69, Try.ntmps69
  go_wp2_with fail
  go_loopw [1, 5] (fun y1 y5 wr => y1 = .int .i64 (k0 : Int) ∧ y5 = .int .i64 0 ∧ wr = w) (fun _ _ _ => 0)
  case atStart => exact ⟨rfl, rfl, rfl⟩
  case round =>
    obtain ⟨rfl, rfl, hw⟩ := hrel
    obtain rfl := hw.symm
    go_wp2
    go_ret
    exact ⟨rfl, rfl⟩
set_option maxRecDepth 20000 in
set_option maxHeartbeats 4000000 in
theorem heldGe (g n c k0 : Nat) (f : Nat → Value) (hk1 : 1 ≤ k0) (hk : k0 + n * 2 ≤ 1073741824) (hn : n ≤ c) (w : World) (h : FRow w g 46 (c * 2) (upM mkE k0 (n * 2) f)) :
    Calls Try.prog 69 #[.slice (some ⟨g, 0, none⟩) n c, .int .i64 (k0 : Int)] w fun e w' => e = .returned (.int .i64 ((k0 + n * 2 : Nat) : Int)) ∧ Below w.heap.size w w' := by
  have H0 := hid h
  clear h
  go_enter Try.func69, Try.ntmps69
  go_wp2_with fail
  go_loopw [1, 5] (fun y1 y5 wr => ∃ i : Nat, i ≤ n ∧ y5 = .int .i64 (i : Int) ∧ y1 = .int .i64 ((k0 + i * 2 : Nat) : Int) ∧ Below w.heap.size w wr) (fun _ y5 _ => n - (intOf y5).toNat)
  case atStart => exact ⟨0, Nat.zero_le _, rfl, rfl, Below.refl _ _⟩
  case round =>
    obtain ⟨i, hi, rfl, rfl, hB⟩ := hrel
    have BB := hid hB
    clear hB
    by_cases hlt : i < n
    · have hlt' : (i : Int) < (n : Int) := by omega
      have i0 : (0 : Int) ≤ (i : Int) := by omega
      obtain ⟨K, hK⟩ : ∃ K, K = k0 + i * 2 := ⟨_, rfl⟩
      rw [← hK]
      have FF := H0.out.below BB.out H0.out.lt
      have c0 : wr.cell? ⟨g, i * 2, none⟩ = some (.int .i64 (K : Int)) := (FF.cell (by omega)).trans (by unfold upM mkE; rw [if_pos (by omega), if_pos (by omega), hK])
      have c1 : wr.cell? ⟨g, i * 2 + 1, none⟩ = some (.string (markB (K + 1))) := (FF.cell (by omega)).trans (by unfold upM mkE; rw [if_pos (by omega), if_neg (by omega), hK, Nat.add_assoc])
      have d0 : ((K : Int) != (K : Int)) = false := by simp
      have eK : ((K : Nat) : Int) + 1 = ((K + 1 : Nat) : Int) := by omega
      have hKb : K ≤ 1073741824 := by omega
      obtain ⟨MB, hMB⟩ : ∃ b, b = markB (K + 1) := ⟨_, rfl⟩
      rw [← hMB] at c1
      have KT : Hid (∀ wx, Calls Try.prog 42 #[.int .i64 ((K : Int) + 1)] wx fun e w' => e = .returned (.string MB) ∧ Below wx.heap.size wx w') := fun wx => by rw [eK, hMB]; exact markT (K + 1) (by omega) (by omega) wx
      have HK := hid hK
      have lg := FF.lt
      clear FF hK hMB eK
      go_wp2_with fail
      go_region_law (go_simp; go_at_call 42; refine (KT.out _).mono ?_; rintro e w2 ⟨rfl, hb2⟩; have b2 : Hid (Below wr.heap.size wr w2) := (by first | exact hb2 | exact (Below.refl _ _).drew.trans hb2); have e1 := (b2.out.cell (p := ⟨g, i * 2 + 1, none⟩) lg).trans c1; have N2 : Hid (Below w.heap.size w w2) := BB.out.trans (b2.out.mono BB.out.size); clear hb2 b2; dsimp only)
      all_goals go_wp2
      all_goals go_roundw
      all_goals first | exact ⟨i + 1, by omega, by go_num, by have := HK.out; go_num, N2.out⟩ | exact ⟨i + 1, by omega, by go_num, by have := HK.out; congr 1; omega, N2.out⟩ | (simp [intOf]; omega)
    · have hlt' : ¬ (i : Int) < (n : Int) := by omega
      have ei : i = n := by omega
      have HE := hid ei
      clear ei
      go_wp2
      go_ret
      exact ⟨by rw [← HE.out]; rfl, BB.out⟩
set_option maxRecDepth 20000 in
theorem markGo0 (a : Option Addr) (c k0 : Nat) (w : World) :
    Calls Try.prog 43 #[.slice a 0 c, .int .i64 (k0 : Int)] w fun e w' => e = .returned (.int .i64 (k0 : Int)) ∧ w' = w := by
  go_enter Try.func43, Try.ntmps43
  go_wp2_with fail
  go_loopw [1, 5] (fun y1 y5 wr => y1 = .int .i64 (k0 : Int) ∧ y5 = .int .i64 0 ∧ wr = w) (fun _ _ _ => 0)
  case atStart => exact ⟨rfl, rfl, rfl⟩
  case round =>
    obtain ⟨rfl, rfl, hw⟩ := hrel
    obtain rfl := hw.symm
    go_wp2
    go_ret
    exact ⟨rfl, rfl⟩
set_option maxRecDepth 20000 in
set_option maxHeartbeats 4000000 in
theorem markGo (g n c k0 : Nat) (f : Nat → Value) (hk : k0 + n * 3 ≤ 1073741824) (hn : n ≤ c) (hf : ∀ p, p < n * 3 → ∃ x : Int, f p = .int .i64 x) (w : World) (h : FRow w g 34 (c * 3) f) :
    Calls Try.prog 43 #[.slice (some ⟨g, 0, none⟩) n c, .int .i64 (k0 : Int)] w fun e w' => e = .returned (.int .i64 ((k0 + n * 3 : Nat) : Int)) ∧ FRow w' g 34 (c * 3) (upM mkO k0 (n * 3) f) ∧ w.grownBy w' (some g) := by
  have H0 := hid h
  have HF := hid hf
  clear h hf
  go_enter Try.func43, Try.ntmps43
  go_wp2_with fail
  go_loopw [1, 5] (fun y1 y5 wr => ∃ i : Nat, i ≤ n ∧ y5 = .int .i64 (i : Int) ∧ y1 = .int .i64 ((k0 + i * 3 : Nat) : Int) ∧ FRow wr g 34 (c * 3) (upM mkO k0 (i * 3) f) ∧ w.grownBy wr (some g)) (fun _ y5 _ => n - (intOf y5).toNat)
  case atStart => exact ⟨0, Nat.zero_le _, rfl, rfl, by rw [Nat.zero_mul, upM_0]; exact H0.out, below_grown (Below.refl _ _) _⟩
  case round =>
    obtain ⟨i, hi, rfl, rfl, hF, hG⟩ := hrel
    have FF := hid hF
    have GG := hid hG
    clear hF hG H0
    by_cases hlt : i < n
    · have hlt' : (i : Int) < (n : Int) := by omega
      have i0 : (0 : Int) ≤ (i : Int) := by omega
      obtain ⟨x0, hx0⟩ := HF.out (i * 3) (by omega)
      obtain ⟨x1, hx1⟩ := HF.out (i * 3 + 1) (by omega)
      obtain ⟨x2, hx2⟩ := HF.out (i * 3 + 2) (by omega)
      obtain ⟨K, hK⟩ : ∃ K, K = k0 + i * 3 := ⟨_, rfl⟩
      rw [← hK]
      have c0 : wr.cell? ⟨g, i * 3, none⟩ = some (.int .i64 x0) := (FF.out.cell (by omega)).trans (by rw [upM_at, hx0])
      have f0 := FF.out.free (i * 3)
      have s1 := FF.out.set (i * 3) (.int .i64 (K : Int))
      have c1 : (wr.setCell ⟨g, i * 3, none⟩ (.int .i64 (K : Int))).cell? ⟨g, i * 3 + 1, none⟩ = some (.int .i64 x1) := (s1.cell (by omega)).trans (by unfold putF; rw [if_neg (by omega)]; unfold upM; rw [if_neg (by omega), hx1])
      have f1 := s1.free (i * 3 + 1)
      have s2 := s1.set (i * 3 + 1) (.int .i64 ((K : Int) + 1))
      have c2 : ((wr.setCell ⟨g, i * 3, none⟩ (.int .i64 (K : Int))).setCell ⟨g, i * 3 + 1, none⟩ (.int .i64 ((K : Int) + 1))).cell? ⟨g, i * 3 + 2, none⟩ = some (.int .i64 x2) := (s2.cell (by omega)).trans (by unfold putF; rw [if_neg (by omega), if_neg (by omega)]; unfold upM; rw [if_neg (by omega), hx2])
      have f2 := s2.free (i * 3 + 2)
      have F3 : Hid (FRow (((wr.setCell ⟨g, i * 3, none⟩ (.int .i64 (K : Int))).setCell ⟨g, i * 3 + 1, none⟩ (.int .i64 ((K : Int) + 1))).setCell ⟨g, i * 3 + 2, none⟩ (.int .i64 ((K : Int) + 1 + 1))) g 34 (c * 3) (upM mkO k0 ((i + 1) * 3) f)) := by
        refine (s2.set (i * 3 + 2) (.int .i64 ((K : Int) + 1 + 1))).congr fun p _ => ?_
        rw [show (i + 1) * 3 = i * 3 + 1 + 1 + 1 by omega, ← upM_put]
        rw [show mkO k0 (i * 3 + 1 + 1) = .int .i64 ((K : Int) + 1 + 1) by unfold mkO; congr 1; omega]
        unfold putF
        by_cases e2 : p = i * 3 + 1 + 1
        · rw [if_pos (by omega), if_pos e2]
        · rw [if_neg (by omega), if_neg e2, ← upM_put, show mkO k0 (i * 3 + 1) = .int .i64 ((K : Int) + 1) by unfold mkO; congr 1; omega]
          unfold putF
          by_cases e1 : p = i * 3 + 1
          · rw [if_pos e1, if_pos e1]
          · rw [if_neg e1, if_neg e1, ← upM_put, show mkO k0 (i * 3) = .int .i64 (K : Int) by unfold mkO; congr 1; omega]
            rfl
      have G3 : Hid (w.grownBy (((wr.setCell ⟨g, i * 3, none⟩ (.int .i64 (K : Int))).setCell ⟨g, i * 3 + 1, none⟩ (.int .i64 ((K : Int) + 1))).setCell ⟨g, i * 3 + 2, none⟩ (.int .i64 ((K : Int) + 1 + 1))) (some g)) := grown_trans (grown_trans (grown_trans GG.out grown_set) grown_set) grown_set
      have HK := hid hK
      have hKb : K ≤ 1073741824 := by omega
      clear s1 s2 FF GG hK
      go_wp2
      go_roundw
      case rel => exact ⟨i + 1, by omega, by go_num, by have := HK.out; congr 1; omega, F3.out, G3.out⟩
      case measure => simp [intOf]; omega
    · have hlt' : ¬ (i : Int) < (n : Int) := by omega
      have ei : i = n := by omega
      have HE := hid ei
      clear ei
      go_wp2
      go_ret
      exact ⟨by rw [← HE.out]; rfl, by rw [← HE.out]; exact FF.out, GG.out⟩
set_option maxRecDepth 20000 in
theorem heldGo0 (a : Option Addr) (c k0 : Nat) (w : World) :
    Calls Try.prog 45 #[.slice a 0 c, .int .i64 (k0 : Int)] w fun e w' => e = .returned (.int .i64 (k0 : Int)) ∧ w' = w := by
  go_enter Try.func45, Try.ntmps45
  go_wp2_with fail
  go_loopw [1, 5] (fun y1 y5 wr => y1 = .int .i64 (k0 : Int) ∧ y5 = .int .i64 0 ∧ wr = w) (fun _ _ _ => 0)
  case atStart => exact ⟨rfl, rfl, rfl⟩
  case round =>
    obtain ⟨rfl, rfl, hw⟩ := hrel
    obtain rfl := hw.symm
    go_wp2
    go_ret
    exact ⟨rfl, rfl⟩
set_option maxRecDepth 20000 in
set_option maxHeartbeats 4000000 in
theorem heldGo (g n c k0 : Nat) (f : Nat → Value) (hk : k0 + n * 3 ≤ 1073741824) (hn : n ≤ c) (w : World) (h : FRow w g 34 (c * 3) (upM mkO k0 (n * 3) f)) :
    Calls Try.prog 45 #[.slice (some ⟨g, 0, none⟩) n c, .int .i64 (k0 : Int)] w fun e w' => e = .returned (.int .i64 ((k0 + n * 3 : Nat) : Int)) ∧ w' = w := by
  have H0 := hid h
  clear h
  go_enter Try.func45, Try.ntmps45
  go_wp2_with fail
  go_loopw [1, 5] (fun y1 y5 wr => ∃ i : Nat, i ≤ n ∧ y5 = .int .i64 (i : Int) ∧ y1 = .int .i64 ((k0 + i * 3 : Nat) : Int) ∧ wr = w) (fun _ y5 _ => n - (intOf y5).toNat)
  case atStart => exact ⟨0, Nat.zero_le _, rfl, rfl, rfl⟩
  case round =>
    obtain ⟨i, hi, rfl, rfl, hw⟩ := hrel
    obtain rfl := hw.symm
    clear hw
    by_cases hlt : i < n
    · have hlt' : (i : Int) < (n : Int) := by omega
      have i0 : (0 : Int) ≤ (i : Int) := by omega
      obtain ⟨K, hK⟩ : ∃ K, K = k0 + i * 3 := ⟨_, rfl⟩
      rw [← hK]
      have c0 : w.cell? ⟨g, i * 3, none⟩ = some (.int .i64 (K : Int)) := (H0.out.cell (by omega)).trans (by unfold upM mkO; rw [if_pos (by omega), hK])
      have c1 : w.cell? ⟨g, i * 3 + 1, none⟩ = some (.int .i64 ((K : Int) + 1)) := (H0.out.cell (by omega)).trans (by unfold upM mkO; rw [if_pos (by omega)]; congr 2; omega)
      have c2 : w.cell? ⟨g, i * 3 + 2, none⟩ = some (.int .i64 ((K : Int) + 1 + 1)) := (H0.out.cell (by omega)).trans (by unfold upM mkO; rw [if_pos (by omega)]; congr 2; omega)
      have d0 : ((K : Int) != (K : Int)) = false := by simp
      have d1 : (((K : Int) + 1) != ((K : Int) + 1)) = false := by simp
      have d2 : (((K : Int) + 1 + 1) != ((K : Int) + 1 + 1)) = false := by simp
      have HK := hid hK
      have hKb : K ≤ 1073741824 := by omega
      clear hK
      go_wp2
      go_roundw
      case rel => exact ⟨i + 1, by omega, by go_num, by have := HK.out; congr 1; omega, trivial⟩
      case measure => simp [intOf]; omega
    · have hlt' : ¬ (i : Int) < (n : Int) := by omega
      have ei : i = n := by omega
      have HE := hid ei
      clear ei
      go_wp2
      go_ret
      exact ⟨by rw [← HE.out]; rfl, rfl⟩
end Go.Proofs.Ytmfhkhhdcmnpdaa
