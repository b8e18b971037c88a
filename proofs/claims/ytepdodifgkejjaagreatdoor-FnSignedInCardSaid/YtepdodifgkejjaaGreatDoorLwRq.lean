import Derived.Test.YtepdodifgkejjaaGreatDoorG2
import Derived.Test.YtepdodifgkejjaaGreatDoorBase
import Derived.BigQuiet
namespace Go.Proofs.YtepdodifgkejjaaGreatDoor
open Go.RowKit
/-! lwPairs, lwRequest: requests that are alike. -/
theorem below_drewQ {W w : World} (h : Below W.heap.size W w) (n : Nat) : Below W.heap.size W (w.drewN n) := ⟨h.os, h.tape, h.output, h.size, h.block⟩
set_option maxRecDepth 20000 in
set_option maxHeartbeats 1000000 in
theorem lwPairs_eq (a : Option Addr) (n cap : Nat) (a' : Option Addr) (cap' : Nat) (o : Nat → Hp) (w : World) (h : Hps w a n cap o) (h' : Hps w a' n cap' o) (hl : n ≤ 1048576) :
    Calls Tryz.prog 53 #[.slice a n cap, .slice a' n cap'] w fun e w' => e = .returned (.bool true) ∧ Below w.heap.size w w' := by
  have d0 : ((n : Int) != (n : Int)) = false := by simp
  go_enter Tryz.func53, Tryz.ntmps53
  go_wp2
  go_loopw [5] (fun y wr => ∃ (k : Nat), k ≤ n ∧ y = .int .i64 k ∧ Below w.heap.size w wr) (fun y _ => n - (intOf y).toNat)
  case atStart => exact ⟨0, Nat.zero_le _, rfl, Below.refl _ _⟩
  case round =>
    obtain ⟨k, hk, rfl, hb⟩ := hrel
    by_cases hlt : k < n
    · rcases h.2 with h00 | ⟨b, off, rfl, hbl, hc⟩
      · omega
      · rcases h'.2 with h01 | ⟨b', off', rfl, hbl', hc'⟩
        · omega
        · have c1 : wr.cell? ⟨b, off + k * 2, none⟩ = some (.string (o k).nm) := (hb.cell (p := ⟨b, off + k * 2, none⟩) hbl).trans (hc k hlt).1
          have c2 : wr.cell? ⟨b, off + k * 2 + 1, none⟩ = some (.string (o k).vl) := (hb.cell (p := ⟨b, off + k * 2 + 1, none⟩) hbl).trans (hc k hlt).2
          have c3 : wr.cell? ⟨b', off' + k * 2, none⟩ = some (.string (o k).nm) := (hb.cell (p := ⟨b', off' + k * 2, none⟩) hbl').trans (hc' k hlt).1
          have c4 : wr.cell? ⟨b', off' + k * 2 + 1, none⟩ = some (.string (o k).vl) := (hb.cell (p := ⟨b', off' + k * 2 + 1, none⟩) hbl').trans (hc' k hlt).2
          have hlt' : (k : Int) < (n : Int) := by omega
          have i0 : (0 : Int) ≤ (k : Int) := by omega
          obtain ⟨x, hx⟩ : ∃ x, x = (o k).nm := ⟨_, rfl⟩
          obtain ⟨y, hy⟩ : ∃ y, y = (o k).vl := ⟨_, rfl⟩
          rw [← hx] at c1 c3
          rw [← hy] at c2 c4
          clear hx hy
          go_wp2_with fail
          go_quiet (fail)
          go_wp2
          go_roundw
          case rel => exact ⟨k + 1, by omega, by go_num, below_drewQ hb nq⟩
          case measure => simp [intOf]; omega
    · go_wp2
      go_ret
      exact ⟨rfl, hb⟩
set_option maxRecDepth 20000 in
set_option maxHeartbeats 2000000 in
theorem lwRequest_eq (m p : ByteArray) (a1 : Option Addr) (n1 c1 : Nat) (a2 : Option Addr) (n2 c2 : Nat) (b : ByteArray) (s1 : Option Addr) (d1 : Nat) (s2 : Option Addr) (d2 : Nat) (o1 o2 : Nat → Hp) (w : World) (h1 : Hps w a1 n1 c1 o1) (h2 : Hps w a2 n2 c2 o2) (h1' : Hps w s1 n1 d1 o1) (h2' : Hps w s2 n2 d2 o2) (hn1 : n1 ≤ 1048576) (hn2 : n2 ≤ 1048576) :
    Calls Tryz.prog 10 #[.agg #[.string m, .string p, .slice a1 n1 c1, .slice a2 n2 c2, .string b], .agg #[.string m, .string p, .slice s1 n1 d1, .slice s2 n2 d2, .string b]] w fun e w' => e = .returned (.bool true) ∧ Below w.heap.size w w' := by
  have K1 := fun wx (hx : Below w.heap.size w wx) => hid (lwPairs_eq a1 n1 c1 s1 d1 o1 wx (h1.below hx) (h1'.below hx) hn1)
  have K2 := fun wx (hx : Below w.heap.size w wx) => hid (lwPairs_eq a2 n2 c2 s2 d2 o2 wx (h2.below hx) (h2'.below hx) hn2)
  obtain ⟨W0, hW0⟩ : ∃ W, W = (w.alloc (.cells #[.string m, .string p, .slice a1 n1 c1, .slice a2 n2 c2, .string b] 25)).alloc (.cells #[.string m, .string p, .slice s1 n1 d1, .slice s2 n2 d2, .string b] 25) := ⟨_, rfl⟩
  have B0 : Hid (Below w.heap.size w W0) := by rw [hW0]; exact ((Below.refl _ _).alloc (Nat.le_refl _) _).alloc (by simp) _
  have R0 : Hid (RowAt W0 w.heap.size 25 #[.string m, .string p, .slice a1 n1 c1, .slice a2 n2 c2, .string b]) := by rw [hW0]; exact (RowAt.new _ _ _).alloc _
  have S0 : Hid (RowAt W0 (w.heap.size + 1) 25 #[.string m, .string p, .slice s1 n1 d1, .slice s2 n2 d2, .string b]) := by rw [hW0]; exact RowAt.next _ _ _ (by rw [World.size_alloc])
  have r0 := R0.out.cell 0
  have s0' := S0.out.cell 0
  have r1 := R0.out.cell 1
  have s1' := S0.out.cell 1
  have r2 := R0.out.cell 2
  have s2' := S0.out.cell 2
  have r3 := R0.out.cell 3
  have s3' := S0.out.cell 3
  have r4 := R0.out.cell 4
  have s4' := S0.out.cell 4
  clear h1 h2 h1' h2'
  go_enter Tryz.func10, Tryz.ntmps10
  go_upto_region 1 with fail
  rw [← hW0]
  clear hW0
  go_wp2_with fail
  refine (K1 _ B0.out).out.mono ?_
  rintro e w1 ⟨rfl, hb1⟩
  have B1 := hid (B0.out.trans (hb1.mono B0.out.size))
  have R1 := hid (R0.out.below hb1 R0.out.lt)
  have S1 := hid (S0.out.below hb1 S0.out.lt)
  clear hb1 r0 r1 r2 r3 r4 s0' s1' s2' s3' s4'
  have r3 := R1.out.cell 3
  have s3' := S1.out.cell 3
  go_wp2_with fail
  refine (K2 _ B1.out).out.mono ?_
  rintro e w2 ⟨rfl, hb2⟩
  have B2 := hid (B1.out.trans (hb2.mono B1.out.size))
  clear hb2 r3 s3'
  go_wp2
  go_ret
  exact ⟨rfl, B2.out⟩
end Go.Proofs.YtepdodifgkejjaaGreatDoor
