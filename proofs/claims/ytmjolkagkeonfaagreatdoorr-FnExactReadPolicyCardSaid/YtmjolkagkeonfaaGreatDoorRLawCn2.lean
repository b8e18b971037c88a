import Derived.Test.YtmjolkagkeonfaaGreatDoorRLawCn
namespace Go.Proofs.YtmjolkagkeonfaaGreatDoorR
open Go.RowKit
/-! Rows of Condition: what the laws do with them (by lawrow.py). -/
def cn0 : Cn := ⟨0, ⟨#[]⟩, 0⟩
/-- the first k of them, then empty ones -/
def cnTo (o : Nat → Cn) (k i : Nat) : Cn := if i < k then o i else cn0
set_option maxRecDepth 20000 in
set_option maxHeartbeats 4000000 in
theorem eqCns (a : Option Addr) (n cap : Nat) (a' : Option Addr) (cap' : Nat) (o : Nat → Cn) (hl : n ≤ 1048576) (w : World) (h : Cns w a n cap o) (h' : Cns w a' n cap' o) :
    Calls Tryz.prog 76 #[.slice a n cap, .slice a' n cap'] w fun e w' => e = .returned (.bool true) ∧ Below w.heap.size w w' := by
  have HH := hid h
  have HH' := hid h'
  have dn : ((n : Int) != (n : Int)) = false := by simp
  clear h h'
  go_enter Tryz.func76, Tryz.ntmps76
  go_wp2_with fail
  go_loopw [5] (fun q wr => ∃ (k : Nat), k ≤ n ∧ q = .int .i64 k ∧ Below w.heap.size w wr) (fun q _ => n - (intOf q).toNat)
  case atStart => exact ⟨0, Nat.zero_le _, rfl, Below.refl _ _⟩
  case round =>
    obtain ⟨k, hk, rfl, hB⟩ := hrel
    have HB := hid hB
    clear hB
    by_cases hlt : k < n
    · have hlt' : (k : Int) < (n : Int) := by omega
      have k0 : (0 : Int) ≤ (k : Int) := by omega
      rcases (HH.out.below HB.out).2 with h00 | ⟨b, off, rfl, hbl, hc⟩
      · omega
      rcases (HH'.out.below HB.out).2 with h00 | ⟨b', off', rfl, hbl', hc'⟩
      · omega
      obtain ⟨c0, c1, c2⟩ := hc k hlt
      obtain ⟨e0, e1, e2⟩ := hc' k hlt
      obtain ⟨X0, hX0⟩ : ∃ v, v = (o k).kd := ⟨_, rfl⟩
      obtain ⟨X1, hX1⟩ : ∃ v, v = (o k).tx := ⟨_, rfl⟩
      obtain ⟨X2, hX2⟩ : ∃ v, v = (o k).tm := ⟨_, rfl⟩
      rw [← hX0] at c0 e0
      rw [← hX1] at c1 e1
      rw [← hX2] at c2 e2
      clear hc hc' hX0 hX1 hX2
      go_wp2_with fail
      go_region_held3 (fun wx => (wx.cell? ⟨b, off + k * 3, none⟩ = some (.int .i64 X0) ∧ wx.cell? ⟨b, off + k * 3 + 1, none⟩ = some (.string X1) ∧ wx.cell? ⟨b, off + k * 3 + 2, none⟩ = some (.int .i64 X2)) ∧ wx.cell? ⟨b', off' + k * 3, none⟩ = some (.int .i64 X0) ∧ wx.cell? ⟨b', off' + k * 3 + 1, none⟩ = some (.string X1) ∧ wx.cell? ⟨b', off' + k * 3 + 2, none⟩ = some (.int .i64 X2))
        (first | exact ⟨⟨c0, c1, c2⟩, e0, e1, e2⟩ | exact ⟨⟨(hb2.cell hbl).trans c0, (hb2.cell hbl).trans c1, (hb2.cell hbl).trans c2⟩, (hb2.cell hbl').trans e0, (hb2.cell hbl').trans e1, (hb2.cell hbl').trans e2⟩)
        ((go_at_call 89; refine (eqCn X0 X1 X2 _).mono ?_; rintro e w2 ⟨rfl, hb2⟩))
      have N2 : Hid (Below w.heap.size w w2) := HB.out.drew.trans (hb2.mono HB.out.size)
      clear hb2 c0 e0 c1 e1 c2 e2 HB
      go_wp2
      go_roundw
      case rel => exact ⟨k + 1, by omega, by go_num, N2.out⟩
      case measure => simp [intOf]; omega
    · have hlt' : ¬ (k : Int) < (n : Int) := by omega
      go_wp2
      go_ret
      exact ⟨rfl, HB.out⟩
end Go.Proofs.YtmjolkagkeonfaaGreatDoorR
