import Derived.Test.YtfkkkplmnanifabBkM
import Derived.BigQuiet
namespace Go.Proofs.Ytfkkkplmnanifab
open Go.RowKit
/-! The specification: BucketBytes, BucketFault (by genbk.py). -/
set_option maxRecDepth 20000 in
set_option maxHeartbeats 2000000 in
theorem sBytes (ni : Int) (kp : Bool) (q : Int) (a0 : Option Addr) (n0 c0 : Nat) (a : Option Addr) (m cap : Nat) (o : Nat → Ve) (hm : m ≤ 1048576) (hs : byN o m ≤ 1073741824) (w : World) (h : Ves w a m cap o) :
    Calls Try.prog 5 #[.agg #[.int .i64 ni, .bool kp, .int .i64 q, .slice a0 n0 c0, .slice a m cap]] w fun e w' => e = .returned (.int .i64 (byN o m : Nat)) ∧ Below w.heap.size w w' := by
  obtain ⟨W0, hW0⟩ : ∃ W, W = w.alloc (.cells #[.int .i64 ni, .bool kp, .int .i64 q, .slice a0 n0 c0, .slice a m cap] 31) := ⟨_, rfl⟩
  have A0 : Hid (RowAt W0 w.heap.size 31 #[.int .i64 ni, .bool kp, .int .i64 q, .slice a0 n0 c0, .slice a m cap]) := by rw [hW0]; exact RowAt.new _ _ _
  have B0 : Hid (Below w.heap.size w W0) := by rw [hW0]; exact balLr (Below.refl _ _) _
  have HH := hid (h.below B0.out)
  have HS := hid hs
  have x4 := A0.out.cell 4
  have HW0 := hid hW0
  clear h hs hW0
  go_enter Try.func5, Try.ntmps5
  go_wp2_with fail
  rw [← HW0.out]
  go_loopw [3, 4] (fun v q wr => ∃ k : Nat, k ≤ m ∧ v = .int .i64 (byN o k : Nat) ∧ q = .int .i64 (k : Int) ∧ wr = W0) (fun _ q _ => m - (intOf q).toNat)
  case atStart => exact ⟨0, Nat.zero_le _, rfl, rfl, rfl⟩
  case round =>
    obtain ⟨k, hk, rfl, rfl, hwr⟩ := hrel
    obtain rfl := hwr.symm
    clear hwr
    by_cases hlt : k < m
    · have d3 : (k : Int) < (m : Int) := by omega
      have k0 : (0 : Int) ≤ (k : Int) := by omega
      rcases HH.out.2 with h00 | ⟨b, off, rfl, hbl, hc⟩
      · omega
      obtain ⟨-, -, -, x3, -, -, -⟩ := hc k hlt
      have hkm := byN_mono o (show k + 1 ≤ m by omega)
      have hN : byN o k + (o k).dt.size ≤ 1073741824 := Nat.le_trans hkm HS.out
      have ST : Hid (byN o (k + 1) = byN o k + (o k).dt.size) := rfl
      generalize (o k).dt = D at x3 hN ST
      generalize byN o k = B at hN ST ⊢
      have hw : IntKind.i64.wrap ((B : Int) + (D.size : Int)) = ((B + D.size : Nat) : Int) := by simp [IntKind.wrap, IntKind.bits, IntKind.signed]; omega
      clear hc hkm
      go_wp2
      go_roundw
      case rel => exact ⟨k + 1, by omega, by rw [ST.out]; rfl, by go_num, trivial⟩
      case measure => simp [intOf]; omega
    · have d3 : ¬ (k : Int) < (m : Int) := by omega
      have hkm : k = m := by omega
      subst hkm
      go_wp2
      go_ret
      exact ⟨rfl, B0.out⟩
end Go.Proofs.Ytfkkkplmnanifab
