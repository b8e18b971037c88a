import Derived.Test.YtmjolkagkeonfaaGreatDoorG6
import Derived.Test.YtmjolkagkeonfaaGreatDoorBase
import Derived.Test.YtmjolkagkeonfaaGreatDoorG10
import Derived.BigQuiet
namespace Go.Proofs.YtmjolkagkeonfaaGreatDoor
open Go.RowKit
set_option linter.unusedVariables false
/-! lwTexts, lwStatements: statements that are alike. -/
theorem below_drewS {W w : World} (h : Below W.heap.size W w) (n : Nat) : Below W.heap.size W (w.drewN n) := ⟨h.os, h.tape, h.output, h.size, h.block⟩
set_option maxRecDepth 20000 in
set_option maxHeartbeats 1000000 in
theorem lwTexts_eq (a : Option Addr) (n cap : Nat) (a' : Option Addr) (cap' : Nat) (o : Nat → ByteArray) (w : World) (h : Strs w a n cap o) (h' : Strs w a' n cap' o) (hl : n ≤ 1048576) :
    Calls Tryz.prog 37 #[.slice a n cap, .slice a' n cap'] w fun e w' => e = .returned (.bool true) ∧ Below w.heap.size w w' := by
  have d0 : ((n : Int) != (n : Int)) = false := by simp
  go_enter Tryz.func37, Tryz.ntmps37
  go_wp2
  go_loopw [5] (fun y wr => ∃ (k : Nat), k ≤ n ∧ y = .int .i64 k ∧ Below w.heap.size w wr) (fun y _ => n - (intOf y).toNat)
  case atStart => exact ⟨0, Nat.zero_le _, rfl, Below.refl _ _⟩
  case round =>
    obtain ⟨k, hk, rfl, hb⟩ := hrel
    by_cases hlt : k < n
    · rcases h.2 with h00 | ⟨b, off, rfl, hbl, hc⟩
      · omega
      · rcases h'.2 with h01 | ⟨b', off', rfl, hbl', hc'⟩
        · omega
        · have c1 : wr.cell? ⟨b, off + k, none⟩ = some (.string (o k)) := (hb.cell (p := ⟨b, off + k, none⟩) hbl).trans (hc k hlt)
          have c3 : wr.cell? ⟨b', off' + k, none⟩ = some (.string (o k)) := (hb.cell (p := ⟨b', off' + k, none⟩) hbl').trans (hc' k hlt)
          have hlt' : (k : Int) < (n : Int) := by omega
          have i0 : (0 : Int) ≤ (k : Int) := by omega
          obtain ⟨x, hx⟩ : ∃ x, x = o k := ⟨_, rfl⟩
          rw [← hx] at c1 c3
          clear hx
          go_wp2_with fail
          go_quiet (fail)
          go_wp2
          go_roundw
          case rel => exact ⟨k + 1, by omega, by go_num, below_drewS hb nq⟩
          case measure => simp [intOf]; omega
    · go_wp2
      go_ret
      exact ⟨rfl, hb⟩
set_option maxRecDepth 20000 in
set_option maxHeartbeats 4000000 in
theorem lwSts_eq (a : Option Addr) (m cap : Nat) (a' : Option Addr) (cap' : Nat) (R R' : Nat → St) (w : World) (h : Sts w a m cap R) (h' : Sts w a' m cap' R') (hm : m ≤ 1048576) (hB : ∀ k, k < m → StB (R k) 1048576) (hE : ∀ k, k < m → StEq (R k) (R' k)) :
    Calls Tryz.prog 12 #[.slice a m cap, .slice a' m cap'] w fun e w' => e = .returned (.bool true) ∧ Below w.heap.size w w' := by
  have d0 : ((m : Int) != (m : Int)) = false := by simp
  have HH := hid h
  have HH' := hid h'
  have HB := hid hB
  have HE := hid hE
  clear h h' hB hE
  go_enter Tryz.func12, Tryz.ntmps12
  go_wp2
  go_loopw [5] (fun y wr => ∃ (k : Nat), k ≤ m ∧ y = .int .i64 k ∧ Below w.heap.size w wr) (fun y _ => m - (intOf y).toNat)
  case atStart => exact ⟨0, Nat.zero_le _, rfl, Below.refl _ _⟩
  case round =>
    obtain ⟨k, hk, rfl, hb⟩ := hrel
    have BW := hid hb
    clear hb
    by_cases hlt : k < m
    · obtain ⟨WR, hWR⟩ : ∃ v, v = wr := ⟨_, rfl⟩
      subst hWR
      have hlt' : (k : Int) < (m : Int) := by omega
      have i0 : (0 : Int) ≤ (k : Int) := by omega
      rcases (HH.out.below BW.out).2.1 with h00 | ⟨b, off, rfl, hbl, hc⟩
      · omega
      rcases (HH'.out.below BW.out).2.1 with h00 | ⟨b', off', rfl, hbl', hc'⟩
      · omega
      have IN := hid ((HH.out.below BW.out).2.2 k hlt)
      have IN' := hid ((HH'.out.below BW.out).2.2 k hlt)
      obtain ⟨x0, x1, x2, x3, x4⟩ := hc k hlt
      have y' := hc' k hlt
      have E := HE.out k hlt
      have SB := hid (HB.out k hlt)
      clear hc hc'
      generalize R k = S at x0 x1 x2 x3 x4 IN E SB
      generalize R' k = S' at y' IN' E
      obtain ⟨f, ⟨a1, n1, c1, t1⟩, ⟨a2, n2, c2, t2⟩, ⟨a3, n3, c3, t3⟩, ⟨a4, n4, c4, o4⟩⟩ := S
      obtain ⟨f', ⟨a1', n1', c1', t1'⟩, ⟨a2', n2', c2', t2'⟩, ⟨a3', n3', c3', t3'⟩, ⟨a4', n4', c4', o4'⟩⟩ := S'
      obtain ⟨e0, e1, e1t, e2, e2t, e3, e3t, e4, e4t⟩ := E
      dsimp only at e0 e1 e1t e2 e2t e3 e3t e4 e4t
      subst e0 e1 e1t e2 e2t e3 e3t e4 e4t
      obtain ⟨z1, z2, z3, z4⟩ := SB.out
      have m1 : n1 ≤ 1048576 := z1.1
      have m2 : n2 ≤ 1048576 := z2.1
      have m3 : n3 ≤ 1048576 := z3.1
      have m4 : n4 ≤ 1048576 := z4.1
      clear z1 z2 z3 z4 SB
      dsimp only at x0 x1 x2 x3 x4
      obtain ⟨W1, hW1⟩ : ∃ W, W = WR.alloc (.cells #[.int .i64 f, .slice a1 n1 c1, .slice a2 n2 c2, .slice a3 n3 c3, .slice a4 n4 c4] 73) := ⟨_, rfl⟩
      obtain ⟨W2, hW2⟩ : ∃ W, W = W1.alloc (.cells #[.int .i64 f, .slice a1' n1 c1', .slice a2' n2 c2', .slice a3' n3 c3', .slice a4' n4 c4'] 73) := ⟨_, rfl⟩
      have b1 : Hid (Below WR.heap.size WR W1) := by rw [hW1]; exact (Below.refl _ _).alloc (Nat.le_refl _) _
      have b2 : Hid (Below WR.heap.size WR W2) := by rw [hW2]; exact b1.out.alloc b1.out.size _
      have R1 : Hid (RowAt W2 WR.heap.size 73 #[.int .i64 f, .slice a1 n1 c1, .slice a2 n2 c2, .slice a3 n3 c3, .slice a4 n4 c4]) := by rw [hW2, hW1]; exact (RowAt.new _ _ _).alloc _
      have R2 : Hid (RowAt W2 W1.heap.size 73 #[.int .i64 f, .slice a1' n1 c1', .slice a2' n2 c2', .slice a3' n3 c3', .slice a4' n4 c4']) := by rw [hW2]; exact RowAt.new _ _ _
      have Y : Hid (StCell W1 b' (off' + k * 5) ⟨f, ⟨a1', n1, c1', t1⟩, ⟨a2', n2, c2', t2⟩, ⟨a3', n3, c3', t3⟩, ⟨a4', n4, c4', o4⟩⟩) := StCell.below y' b1.out hbl'
      have B2 : Hid (Below w.heap.size w W2) := BW.out.trans (b2.out.mono BW.out.size)
      clear y'
      go_upto_region 7 with fail
      rw [← hW1]
      clear hW1
      obtain ⟨y0, y1, y2, y3, y4⟩ := Y.out
      dsimp only at y0 y1 y2 y3 y4
      go_upto_region 8 with fail
      rw [← hW2]
      clear hW2 y0 y1 y2 y3 y4 Y x0 x1 x2 x3 x4
      have K1 := fun wx (hx : Below WR.heap.size WR wx) => hid (lwTexts_eq a1 n1 c1 a1' c1' t1 wx ((IN.out.below hx).wo) ((IN'.out.below hx).wo) m1)
      have K2 := fun wx (hx : Below WR.heap.size WR wx) => hid (lwTexts_eq a2 n2 c2 a2' c2' t2 wx ((IN.out.below hx).wa) ((IN'.out.below hx).wa) m2)
      have K3 := fun wx (hx : Below WR.heap.size WR wx) => hid (lwTexts_eq a3 n3 c3 a3' c3' t3 wx ((IN.out.below hx).wi) ((IN'.out.below hx).wi) m3)
      have d1 : (f != f) = false := by simp
      have r0 := R1.out.cell 0
      have s0 := R2.out.cell 0
      have r1 := R1.out.cell 1
      have s1 := R2.out.cell 1
      go_wp2_with fail
      refine (K1 W2 b2.out).out.mono ?_
      rintro e w3 ⟨rfl, hb3⟩
      have b3 : Hid (Below WR.heap.size WR w3) := b2.out.trans (hb3.mono b2.out.size)
      have B3 : Hid (Below W2.heap.size W2 w3) := hb3
      have R3 := hid (R1.out.below hb3 R1.out.lt)
      have T3 := hid (R2.out.below hb3 R2.out.lt)
      clear hb3 r0 s0 r1 s1
      have r2 := R3.out.cell 2
      have s2 := T3.out.cell 2
      go_wp2_with fail
      refine (K2 w3 b3.out).out.mono ?_
      rintro e w4 ⟨rfl, hb4⟩
      have b4 : Hid (Below WR.heap.size WR w4) := b3.out.trans (hb4.mono b3.out.size)
      have B4 : Hid (Below W2.heap.size W2 w4) := B3.out.trans (hb4.mono B3.out.size)
      have R4 := hid (R1.out.below B4.out R1.out.lt)
      have T4 := hid (R2.out.below B4.out R2.out.lt)
      clear hb4 r2 s2
      have r3 := R4.out.cell 3
      have s3 := T4.out.cell 3
      go_wp2_with fail
      refine (K3 w4 b4.out).out.mono ?_
      rintro e w5 ⟨rfl, hb5⟩
      have b5 : Hid (Below WR.heap.size WR w5) := b4.out.trans (hb5.mono b4.out.size)
      have B5 : Hid (Below W2.heap.size W2 w5) := B4.out.trans (hb5.mono B4.out.size)
      have R5 := hid (R1.out.below B5.out R1.out.lt)
      have T5 := hid (R2.out.below B5.out R2.out.lt)
      clear hb5 r3 s3 K1 K2 K3
      have r4 := R5.out.cell 4
      have s4 := T5.out.cell 4
      have d4 : ((n4 : Int) != (n4 : Int)) = false := by simp
      go_wp2_with fail
      clear r4 s4
      go_loopw [8] (fun y wr => ∃ (j : Nat), j ≤ n4 ∧ y = .int .i64 j ∧ Below w5.heap.size w5 wr) (fun y _ => n4 - (intOf y).toNat)
      case atStart => exact ⟨0, Nat.zero_le _, rfl, Below.refl _ _⟩
      case round =>
        obtain ⟨j, hj, rfl, hbq⟩ := hrel
        obtain ⟨WQ, hWQ⟩ : ∃ v, v = wr := ⟨_, rfl⟩
        subst hWQ
        have BQ := hid hbq
        clear hbq
        have B6 : Hid (Below W2.heap.size W2 WQ) := B5.out.trans (BQ.out.mono B5.out.size)
        have b6 : Hid (Below WR.heap.size WR WQ) := b5.out.trans (BQ.out.mono b5.out.size)
        have r4 := (R1.out.below B6.out R1.out.lt).cell 4
        have s4 := (R2.out.below B6.out R2.out.lt).cell 4
        have FB : Hid (Below w.heap.size w WQ) := B2.out.trans (B6.out.mono B2.out.size)
        by_cases hlj : j < n4
        · have hlj' : (j : Int) < (n4 : Int) := by omega
          have j0 : (0 : Int) ≤ (j : Int) := by omega
          rcases ((IN.out.below b6.out).cs).2 with h00 | ⟨g, og, rfl, hgl, hcc⟩
          · exact absurd h00 (by dsimp only; omega)
          rcases ((IN'.out.below b6.out).cs).2 with h00 | ⟨g', og', rfl, hgl', hcc'⟩
          · exact absurd h00 (by dsimp only; omega)
          obtain ⟨u0, u1, u2⟩ := hcc j hlj
          obtain ⟨v0, v1, v2⟩ := hcc' j hlj
          dsimp only at u0 u1 u2 v0 v1 v2
          clear hcc hcc'
          generalize o4 j = cj at u0 u1 u2 v0 v1 v2
          obtain ⟨kd, tx, tm⟩ := cj
          dsimp only at u0 u1 u2 v0 v1 v2
          go_wp2_with fail
          go_quiet (fail)
          go_wp2
          go_roundw
          case rel => exact ⟨j + 1, by omega, by go_num, below_drewS BQ.out nq⟩
          case measure => simp [intOf]; omega
        · have hlj' : ¬ (j : Int) < (n4 : Int) := by omega
          go_wp2
          go_roundw
          case rel => exact ⟨k + 1, by omega, by go_num, FB.out⟩
          case measure => simp [intOf]; omega
    · have hlt' : ¬ (k : Int) < (m : Int) := by omega
      go_wp2
      go_ret
      exact ⟨rfl, BW.out⟩
end Go.Proofs.YtmjolkagkeonfaaGreatDoor
