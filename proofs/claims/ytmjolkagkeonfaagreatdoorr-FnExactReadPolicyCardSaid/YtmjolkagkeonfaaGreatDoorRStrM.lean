import Derived.Test.YtmjolkagkeonfaaGreatDoorRStrK
import Derived.Test.YtmjolkagkeonfaaGreatDoorRMarkT
namespace Go.Proofs.YtmjolkagkeonfaaGreatDoorR
open Go.RowKit
/-! Slices of texts: their marks (out of LawStr, for rows longer than what is shown). -/
set_option maxRecDepth 20000 in
set_option maxHeartbeats 2000000 in
theorem markStr0 (a : Option Addr) (cap k0 : Nat) (w : World) : Calls Tryz.prog 57 #[.slice a 0 cap, .int .i64 k0] w fun e w' => e = .returned (.int .i64 k0) ∧ w' = w := by
  go_enter Tryz.func57, Tryz.ntmps57
  go_wp2
  go_loopw [5, 1] (fun x y wr => x = .int .i64 0 ∧ y = .int .i64 k0 ∧ wr = w) (fun _ _ _ => 0)
  case atStart => exact ⟨rfl, rfl, rfl⟩
  case round =>
    obtain ⟨rfl, rfl, rfl⟩ := hrel
    go_wp2
    go_ret
    exact ⟨rfl, rfl⟩
set_option maxRecDepth 20000 in
set_option maxHeartbeats 2000000 in
theorem markStr (b len cap N k0 : Nat) (t : TypeId) (hN : len ≤ N) (f : Nat → Value) (h1 : 1 ≤ k0) (hl : len ≤ 1048576) (hk : k0 ≤ 536870912) (w : World) (h : FRow w b t N f) :
    Calls Tryz.prog 57 #[.slice (some ⟨b, 0, none⟩) len cap, .int .i64 k0] w fun e w' => e = .returned (.int .i64 ((k0 + len : Nat) : Int)) ∧ FRow w' b t N (fun i => if i < len then .string (markB (k0 + i)) else f i) ∧ w.grownBy w' (some b) := by
  have HH := hid h
  clear h
  go_enter Tryz.func57, Tryz.ntmps57
  go_wp2_with fail
  go_loopw [5, 1] (fun x y wr => ∃ (k : Nat), k ≤ len ∧ x = .int .i64 k ∧ y = .int .i64 ((k0 + k : Nat) : Int) ∧ FRow wr b t N (fun i => if i < k then .string (markB (k0 + i)) else f i) ∧ w.grownBy wr (some b)) (fun x _ _ => len - (intOf x).toNat)
  case atStart => exact ⟨0, Nat.zero_le _, rfl, rfl, HH.out.congr fun p _ => by rw [if_neg (by omega)], below_grown (Below.refl _ _) _⟩
  case round =>
    obtain ⟨k, hkl, rfl, rfl, hF, hG⟩ := hrel
    have HF := hid hF
    have HG := hid hG
    clear hF hG HH
    by_cases hlt : k < len
    · have hlt' : (k : Int) < (len : Int) := by omega
      have i0 : (0 : Int) ≤ (k : Int) := by omega
      go_wp2_with fail
      refine (markT (k0 + k) (by omega) (by omega) _).mono ?_
      rintro e w2 ⟨rfl, hb2⟩
      have F2 := hid (HF.out.below hb2 HF.out.lt)
      have G2 := hid (grown_trans HG.out (below_grown hb2 (some b)))
      have k1 := F2.out.cell (show k < N by omega)
      have f1 := F2.out.free k
      obtain ⟨x1, hx1⟩ : ∃ x : Value, x = (if k < k then .string (markB (k0 + k)) else f k) := ⟨_, rfl⟩
      rw [← hx1] at k1
      obtain ⟨m, hm⟩ : ∃ m, m = markB (k0 + k) := ⟨_, rfl⟩
      have N1 : Hid (FRow (w2.setCell ⟨b, k, none⟩ (.string m)) b t N (fun i => if i < k + 1 then .string (markB (k0 + i)) else f i)) := (F2.out.set _ _).congr fun p _ => by
        unfold putF
        by_cases e : p = k
        · rw [if_pos e, if_pos (show p < k + 1 by omega), e, hm]
        · rw [if_neg e]
          show (if p < k then _ else _) = if p < k + 1 then _ else _
          by_cases e2 : p < k
          · rw [if_pos e2, if_pos (show p < k + 1 by omega)]
          · rw [if_neg e2, if_neg (show ¬ p < k + 1 by omega)]
      have N2 : Hid (w.grownBy (w2.setCell ⟨b, k, none⟩ (.string m)) (some b)) := grown_trans G2.out grown_set
      rw [← hm]
      clear hx1 hm HF HG hb2 F2 G2
      go_wp2
      go_roundw
      case rel => exact ⟨k + 1, by omega, by go_num, by go_num, N1.out, N2.out⟩
      case measure => simp [intOf]; omega
    · have hke : k = len := by omega
      have FE : Hid (FRow wr b t N (fun i => if i < len then .string (markB (k0 + i)) else f i)) := HF.out.congr fun p hp => by rw [hke]
      have hlt' : ¬ (k : Int) < (len : Int) := by omega
      subst hke
      clear HF
      go_wp2
      go_ret
      exact ⟨rfl, FE.out, HG.out⟩
set_option maxRecDepth 20000 in
set_option maxHeartbeats 2000000 in
theorem heldStr (a : Option Addr) (len cap k0 : Nat) (h1 : 1 ≤ k0) (hl : len ≤ 1048576) (hk : k0 ≤ 536870912) (w : World) (h : Strs w a len cap (fun i => markB (k0 + i))) :
    Calls Tryz.prog 59 #[.slice a len cap, .int .i64 k0] w fun e w' => e = .returned (.int .i64 ((k0 + len : Nat) : Int)) ∧ Below w.heap.size w w' := by
  have HH := hid h
  clear h
  go_enter Tryz.func59, Tryz.ntmps59
  go_wp2_with fail
  go_loopw [5, 1] (fun x y wr => ∃ (k : Nat), k ≤ len ∧ x = .int .i64 k ∧ y = .int .i64 ((k0 + k : Nat) : Int) ∧ Below w.heap.size w wr) (fun x _ _ => len - (intOf x).toNat)
  case atStart => exact ⟨0, Nat.zero_le _, rfl, rfl, Below.refl _ _⟩
  case round =>
    obtain ⟨k, hkl, rfl, rfl, hB⟩ := hrel
    have HB := hid hB
    clear hB
    by_cases hlt : k < len
    · have hlt' : (k : Int) < (len : Int) := by omega
      have i0 : (0 : Int) ≤ (k : Int) := by omega
      rcases (HH.out.below HB.out).2 with h00 | ⟨b, off, rfl, hbl, hc⟩
      · omega
      have c1 := hc k hlt
      obtain ⟨m, hm⟩ : ∃ m, m = markB (k0 + k) := ⟨_, rfl⟩
      have HM := hid hm
      have c1 : wr.cell? ⟨b, off + k, none⟩ = some (.string m) := by rw [hm]; exact hc k hlt
      clear hc hm
      go_wp2_with fail
      go_region_held3 (fun wx => wx.cell? ⟨b, off + k, none⟩ = some (.string m)) ((first | exact y1 | exact c1 | (go_keep; done))) ((go_at_call 77; refine (markT (k0 + k) (by omega) (by omega) _).mono ?_; rintro e w2 ⟨rfl, hb2⟩; rw [← HM.out]; have y1 := (hb2.cell (p := ⟨b, off + k, none⟩) hbl).trans (show wr.drew.cell? _ = _ from c1)))
      have N2 : Hid (Below w.heap.size w w2) := HB.out.drew.trans (hb2.mono HB.out.size)
      clear hb2 y1 c1 HB
      go_wp2
      go_roundw
      case rel => exact ⟨k + 1, by omega, by go_num, by go_num, N2.out⟩
      case measure => simp [intOf]; omega
    · have hke : k = len := by omega
      have hlt' : ¬ (k : Int) < (len : Int) := by omega
      subst hke
      go_wp2
      go_ret
      exact ⟨rfl, HB.out⟩
end Go.Proofs.YtmjolkagkeonfaaGreatDoorR
