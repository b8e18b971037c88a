import Derived.Test.YtnchjcaclfcaiaaGreatDoorLawHp
namespace Go.Proofs.YtnchjcaclfcaiaaGreatDoor
open Go.RowKit
/-! Rows of Pair: what the laws do with them (by lawrow.py). -/
def hp0 : Hp := ⟨⟨#[]⟩, ⟨#[]⟩⟩
/-- the first k of them, then empty ones -/
def hpTo (o : Nat → Hp) (k i : Nat) : Hp := if i < k then o i else hp0
set_option maxRecDepth 20000 in
set_option maxHeartbeats 4000000 in
theorem eqHps (a : Option Addr) (n cap : Nat) (a' : Option Addr) (cap' : Nat) (o : Nat → Hp) (hl : n ≤ 1048576) (w : World) (h : Hps w a n cap o) (h' : Hps w a' n cap' o) :
    Calls Tryz.prog 78 #[.slice a n cap, .slice a' n cap'] w fun e w' => e = .returned (.bool true) ∧ Below w.heap.size w w' := by
  have HH := hid h
  have HH' := hid h'
  have dn : ((n : Int) != (n : Int)) = false := by simp
  clear h h'
  go_enter Tryz.func78, Tryz.ntmps78
  go_wp2_with fail
  go_loopw [5] (fun q wr => ∃ (k : Nat), k ≤ n ∧ q = .int .i64 k ∧ Below w.heap.size w wr) (fun q _ => n - (intOf q).toNat)
  case atStart => exact ⟨0, Nat.zero_le _, rfl, Below.refl _ _⟩
  case round =>
    obtain ⟨k, hk, rfl, hB⟩ := hrel
    have HB := hid hB
    clear hB
    by_cases hlt : k < n
    · have hlt' : (k : Int) < (n : Int) := by omega
      have k0 : (0 : Int) ≤ (k : Int) := by omega
      rcases (HH.out.below HB.out).2 with h00 | ⟨b, off, rfl, hbl, hc⟩
      · omega
      rcases (HH'.out.below HB.out).2 with h00 | ⟨b', off', rfl, hbl', hc'⟩
      · omega
      obtain ⟨c0, c1⟩ := hc k hlt
      obtain ⟨e0, e1⟩ := hc' k hlt
      obtain ⟨X0, hX0⟩ : ∃ v, v = (o k).nm := ⟨_, rfl⟩
      obtain ⟨X1, hX1⟩ : ∃ v, v = (o k).vl := ⟨_, rfl⟩
      rw [← hX0] at c0 e0
      rw [← hX1] at c1 e1
      clear hc hc' hX0 hX1
      go_wp2_with fail
      go_region_held3 (fun wx => (wx.cell? ⟨b, off + k * 2, none⟩ = some (.string X0) ∧ wx.cell? ⟨b, off + k * 2 + 1, none⟩ = some (.string X1)) ∧ wx.cell? ⟨b', off' + k * 2, none⟩ = some (.string X0) ∧ wx.cell? ⟨b', off' + k * 2 + 1, none⟩ = some (.string X1))
        (first | exact ⟨⟨c0, c1⟩, e0, e1⟩ | exact ⟨⟨(hb2.cell hbl).trans c0, (hb2.cell hbl).trans c1⟩, (hb2.cell hbl').trans e0, (hb2.cell hbl').trans e1⟩)
        ((go_at_call 102; refine (eqHp X0 X1 _).mono ?_; rintro e w2 ⟨rfl, hb2⟩))
      have N2 : Hid (Below w.heap.size w w2) := HB.out.drew.trans (hb2.mono HB.out.size)
      clear hb2 c0 e0 c1 e1 HB
      go_wp2
      go_roundw
      case rel => exact ⟨k + 1, by omega, by go_num, N2.out⟩
      case measure => simp [intOf]; omega
    · have hlt' : ¬ (k : Int) < (n : Int) := by omega
      go_wp2
      go_ret
      exact ⟨rfl, HB.out⟩
end Go.Proofs.YtnchjcaclfcaiaaGreatDoor
