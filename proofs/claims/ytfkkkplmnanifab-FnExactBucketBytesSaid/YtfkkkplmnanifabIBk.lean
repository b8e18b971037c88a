import Derived.Test.YtfkkkplmnanifabBkM
import Derived.Deep.RegionHeld3
namespace Go.Proofs.Ytfkkkplmnanifab
open Go.RowKit
/-! The program: BucketBytes, BucketFault (by genbk.py). -/
set_option maxRecDepth 20000 in
set_option maxHeartbeats 2000000 in
theorem iBytesOf (a : Option Addr) (m cap : Nat) (o : Nat → Ve) (hm : m ≤ 1048576) (hs : byN o m ≤ 1073741824) (w : World) (h : Ves w a m cap o) :
    Calls Try.prog 13 #[.slice a m cap] w fun e w' => e = .returned (.int .i64 (byN o m : Nat)) ∧ Below w.heap.size w w' := by
  have HH := hid h
  have HS := hid hs
  clear h hs
  go_enter Try.func13, Try.ntmps13
  go_wp2_with fail
  go_loopw [8, 3] (fun q v wr => ∃ k : Nat, k ≤ m ∧ q = .int .i64 (k : Int) ∧ v = .int .i64 (byN o k : Nat) ∧ Below w.heap.size w wr) (fun q _ _ => m - (intOf q).toNat)
  case atStart => exact ⟨0, Nat.zero_le _, rfl, rfl, Below.refl _ _⟩
  case round =>
    obtain ⟨k, hk, rfl, rfl, hB⟩ := hrel
    have HB := hid hB
    clear hB
    by_cases hlt : k < m
    · have hlt' : (k : Int) < (m : Int) := by omega
      have k0 : (0 : Int) ≤ (k : Int) := by omega
      rcases (HH.out.below HB.out).2 with h00 | ⟨b, off, rfl, hbl, hc⟩
      · omega
      obtain ⟨y0, y1, y2, y3, y4, y5, y6⟩ := hc k hlt
      have hkm := byN_mono o (show k + 1 ≤ m by omega)
      have hN : byN o k + (o k).dt.size ≤ 1073741824 := Nat.le_trans hkm HS.out
      have ST : Hid (byN o (k + 1) = byN o k + (o k).dt.size) := rfl
      generalize o k = T at y0 y1 y2 y3 y4 y5 y6 hN ST
      obtain ⟨ky, id, mr, dt, tm, un, ho⟩ := T
      dsimp only at y0 y1 y2 y3 y4 y5 y6 hN ST
      generalize byN o k = B at hN ST ⊢
      have hw : IntKind.i64.wrap ((B : Int) + (dt.size : Int)) = ((B + dt.size : Nat) : Int) := by simp [IntKind.wrap, IntKind.bits, IntKind.signed]; omega
      obtain ⟨W1, hW1⟩ : ∃ W, W = wr.alloc (.cells #[.string ky, .int .i64 id, .bool mr, .string dt, .int .i64 tm, .int .i64 un, .bool ho] 38) := ⟨_, rfl⟩
      have z : Hid (RowAt W1 wr.heap.size 38 #[.string ky, .int .i64 id, .bool mr, .string dt, .int .i64 tm, .int .i64 un, .bool ho]) := by rw [hW1]; exact RowAt.new _ _ _
      have B1 : Hid (Below w.heap.size w W1) := by rw [hW1]; exact HB.out.alloc HB.out.size _
      have HW1 := hid hW1
      clear hc hW1 hkm
      go_upto_region 5 with ((refine wpList_store_row rfl 38 (.tmp 5) (.tmp 11) rfl wr.heap.size #[.string ky, .int .i64 id, .bool mr, .string dt, .int .i64 tm, .int .i64 un, .bool ho] rfl rfl _ _ (RowAt.new wr _ _) (by kernel_rfl) rfl (oneVe _ _ _ _ _ _ _) ?_); rw [World.setRow_alloc_new])
      rw [← HW1.out]
      clear y0 y1 y2 y3 y4 y5 y6
      have z3 := z.out.cell 3
      go_wp2
      go_roundw
      case rel => exact ⟨k + 1, by omega, by go_num, by rw [ST.out]; rfl, B1.out⟩
      case measure => simp [intOf]; omega
    · have hlt' : ¬ (k : Int) < (m : Int) := by omega
      have hke : k = m := by omega
      subst hke
      go_wp2
      go_ret
      exact ⟨rfl, HB.out⟩
set_option maxRecDepth 20000 in
theorem iBytes (ni : Int) (kp : Bool) (q : Int) (a0 : Option Addr) (n0 c0 : Nat) (a : Option Addr) (m cap : Nat) (o : Nat → Ve) (hm : m ≤ 1048576) (hs : byN o m ≤ 1073741824) (w : World) (h : Ves w a m cap o) :
    Calls Try.prog 7 #[.agg #[.int .i64 ni, .bool kp, .int .i64 q, .slice a0 n0 c0, .slice a m cap]] w fun e w' => e = .returned (.int .i64 (byN o m : Nat)) ∧ Below w.heap.size w w' := by
  obtain ⟨W0, hW0⟩ : ∃ W, W = w.alloc (.cells #[.int .i64 ni, .bool kp, .int .i64 q, .slice a0 n0 c0, .slice a m cap] 31) := ⟨_, rfl⟩
  have A0 : RowAt W0 w.heap.size 31 #[.int .i64 ni, .bool kp, .int .i64 q, .slice a0 n0 c0, .slice a m cap] := by rw [hW0]; exact RowAt.new _ _ _
  have B0 : Hid (Below w.heap.size w W0) := by rw [hW0]; exact balLr (Below.refl _ _) _
  have x4 := A0.cell 4
  have K := hid (iBytesOf a m cap o hm hs W0 (h.below B0.out))
  have HW := hid hW0
  clear A0 hW0 h hs
  go_enter Try.func7, Try.ntmps7
  go_upto_region 1 with fail
  rw [← HW.out]
  go_wp2_with fail
  refine K.out.mono ?_
  rintro e w1 ⟨rfl, hb1⟩
  have B1 := hid (B0.out.trans (hb1.mono B0.out.size))
  clear hb1
  go_wp2
  go_ret
  exact ⟨rfl, B1.out⟩
end Go.Proofs.Ytfkkkplmnanifab
