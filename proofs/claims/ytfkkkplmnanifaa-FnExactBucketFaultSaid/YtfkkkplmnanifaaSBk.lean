import Derived.Test.YtfkkkplmnanifaaBkM
import Derived.BigQuiet
namespace Go.Proofs.Ytfkkkplmnanifaa
open Go.RowKit
/-! The specification: BucketBytes, BucketFault (by genbk.py). -/
set_option maxRecDepth 20000 in
theorem sTimeB (t : Int) (w : World) :
    Calls Try.prog 14 #[.int .i64 t] w fun e w' => e = .returned (.bool (pb (tmB t))) ∧ w' = w := by
  by_cases h1 : 0 ≤ t
  · by_cases h2 : t ≤ 4102444800
    · have E : Hid (pb (tmB t) = true) := pb_t ⟨h1, h2⟩
      go_enter Try.func14, Try.ntmps14
      go_wp2
      go_ret
      exact ⟨by rw [E.out]; rfl, rfl⟩
    · have E : Hid (pb (tmB t) = false) := pb_f fun h => h2 h.2
      go_enter Try.func14, Try.ntmps14
      go_wp2
      go_ret
      exact ⟨by rw [E.out]; rfl, rfl⟩
  · have E : Hid (pb (tmB t) = false) := pb_f fun h => h1 h.1
    go_enter Try.func14, Try.ntmps14
    go_wp2
    go_ret
    exact ⟨by rw [E.out]; rfl, rfl⟩
set_option maxRecDepth 20000 in
theorem sKeyB (k : ByteArray) (hk : k.size ≤ 1048576) (w : World) :
    Calls Try.prog 13 #[.string k] w fun e w' => e = .returned (.bool (pb (kyB k))) ∧ w' = w := by
  by_cases h1 : 1 ≤ k.size
  · have dh1 : (1 : Int) ≤ (k.size : Int) := by omega
    by_cases h2 : k.size ≤ 200
    · have dh2 : (k.size : Int) ≤ 200 := by omega
      have E : Hid (pb (kyB k) = true) := pb_t ⟨h1, h2⟩
      go_enter Try.func13, Try.ntmps13
      go_wp2
      go_ret
      exact ⟨by rw [E.out]; rfl, rfl⟩
    · have dh2 : ¬ (k.size : Int) ≤ 200 := by omega
      have E : Hid (pb (kyB k) = false) := pb_f fun h => h2 h.2
      go_enter Try.func13, Try.ntmps13
      go_wp2
      go_ret
      exact ⟨by rw [E.out]; rfl, rfl⟩
  · have dh1 : ¬ (1 : Int) ≤ (k.size : Int) := by omega
    have E : Hid (pb (kyB k) = false) := pb_f fun h => h1 h.1
    go_enter Try.func13, Try.ntmps13
    go_wp2
    go_ret
    exact ⟨by rw [E.out]; rfl, rfl⟩
set_option maxRecDepth 20000 in
set_option maxHeartbeats 2000000 in
theorem sRules (a : Option Addr) (n cap : Nat) (o : Nat → Lr) (hn : n ≤ 1048576) (hs : ∀ k, k < n → (o k).px.size ≤ 1048576) (w : World) (h : Lrs w a n cap o) :
    Calls Try.prog 11 #[.slice a n cap] w fun e w' => e = .returned (.bool (pb (rlsP n o))) ∧ w' = w := by
  have HH := hid h
  have HS := hid hs
  clear h hs
  obtain ⟨W9, hW9⟩ : ∃ W : World, W = w := ⟨_, rfl⟩
  rw [← hW9]
  have HW9 := hid hW9
  clear hW9
  go_enter Try.func11, Try.ntmps11
  go_wp2_with fail
  go_loopw [3] (fun v wr => ∃ k : Nat, k ≤ n ∧ v = .int .i64 (k : Int) ∧ (∀ i, i < k → rlP (o i)) ∧ wr = W9) (fun v _ => n - (intOf v).toNat)
  case atStart => exact ⟨0, Nat.zero_le _, rfl, fun i hi => absurd hi (Nat.not_lt_zero _), rfl⟩
  case round =>
    obtain ⟨k, hk, rfl, hr, hwr⟩ := hrel
    have HR := hid hr
    have HWR := hid hwr
    clear hr hwr
    by_cases hlt : k < n
    · have d3 : (k : Int) < (n : Int) := by omega
      have k0 : (0 : Int) ≤ (k : Int) := by omega
      have HL : Lrs wr a n cap o := by rw [HWR.out, HW9.out]; exact HH.out
      rcases HL.2 with h00 | ⟨b, off, rfl, hbl, hc⟩
      · omega
      obtain ⟨x0, x1, x2⟩ := hc k hlt
      have s1 := HS.out k hlt
      have FA : Hid (¬ rlP (o k) → pb (rlsP n o) = false) := fun hh => pb_f fun hi => hh (hi.1 k hlt)
      have TR : Hid (rlP (o k) → ∀ i, i < k + 1 → rlP (o i)) := fun hh => all_next HR.out hh
      clear hc HL
      generalize o k = T at x0 x1 x2 s1 FA TR
      obtain ⟨kd, px, ag⟩ := T
      dsimp only at x0 x1 x2 s1
      have K := fun w => hid (sTimeB ag w)
      by_cases h1 : 1 ≤ kd
      · by_cases h2 : kd ≤ 3
        · by_cases h3 : px.size ≤ 200
          · have dh3 : (px.size : Int) ≤ 200 := by omega
            by_cases h4 : tmB ag
            · rw [pb_t h4] at K
              have N : Hid (∀ i, i < k + 1 → rlP (o i)) := TR.out ⟨h1, h2, h3, h4⟩
              clear FA TR
              go_wp2_with fail
              refine (K _).out.mono ?_
              rintro e w1 ⟨rfl, hw1⟩
              obtain rfl := hw1.symm
              go_wp2
              go_roundw
              case rel => exact ⟨k + 1, by omega, by go_num, N.out, HWR.out⟩
              case measure => simp [intOf]; omega
            · rw [pb_f h4] at K
              have N : Hid (pb (rlsP n o) = false) := FA.out fun h => h4 h.2.2.2
              clear FA TR
              go_wp2_with fail
              refine (K _).out.mono ?_
              rintro e w1 ⟨rfl, hw1⟩
              obtain rfl := hw1.symm
              go_wp2
              go_ret
              exact ⟨by rw [N.out]; rfl, HWR.out⟩
          · have dh3 : ¬ (px.size : Int) ≤ 200 := by omega
            have N : Hid (pb (rlsP n o) = false) := FA.out fun h => h3 h.2.2.1
            clear FA TR
            go_wp2
            go_ret
            exact ⟨by rw [N.out]; rfl, HWR.out⟩
        · have N : Hid (pb (rlsP n o) = false) := FA.out fun h => h2 h.2.1
          clear FA TR
          go_wp2
          go_ret
          exact ⟨by rw [N.out]; rfl, HWR.out⟩
      · have N : Hid (pb (rlsP n o) = false) := FA.out fun h => h1 h.1
        clear FA TR
        go_wp2
        go_ret
        exact ⟨by rw [N.out]; rfl, HWR.out⟩
    · have d3 : ¬ (k : Int) < (n : Int) := by omega
      have hkn : k = n := by omega
      subst hkn
      by_cases h20 : k ≤ 20
      · have d4 : (k : Int) ≤ 20 := by omega
        have N : Hid (pb (rlsP k o) = true) := pb_t ⟨HR.out, h20⟩
        go_wp2
        go_ret
        exact ⟨by rw [N.out]; rfl, HWR.out⟩
      · have d4 : ¬ (k : Int) ≤ 20 := by omega
        have N : Hid (pb (rlsP k o) = false) := pb_f fun h => h20 h.2
        go_wp2
        go_ret
        exact ⟨by rw [N.out]; rfl, HWR.out⟩
set_option maxRecDepth 20000 in
set_option maxHeartbeats 2000000 in
theorem sBytes (ni : Int) (kp : Bool) (q : Int) (a0 : Option Addr) (n0 c0 : Nat) (a : Option Addr) (m cap : Nat) (o : Nat → Ve) (hm : m ≤ 1048576) (hs : byN o m ≤ 1073741824) (w : World) (h : Ves w a m cap o) :
    Calls Try.prog 12 #[.agg #[.int .i64 ni, .bool kp, .int .i64 q, .slice a0 n0 c0, .slice a m cap]] w fun e w' => e = .returned (.int .i64 (byN o m : Nat)) ∧ Below w.heap.size w w' := by
  obtain ⟨W0, hW0⟩ : ∃ W, W = w.alloc (.cells #[.int .i64 ni, .bool kp, .int .i64 q, .slice a0 n0 c0, .slice a m cap] 31) := ⟨_, rfl⟩
  have A0 : Hid (RowAt W0 w.heap.size 31 #[.int .i64 ni, .bool kp, .int .i64 q, .slice a0 n0 c0, .slice a m cap]) := by rw [hW0]; exact RowAt.new _ _ _
  have B0 : Hid (Below w.heap.size w W0) := by rw [hW0]; exact balLr (Below.refl _ _) _
  have HH := hid (h.below B0.out)
  have HS := hid hs
  have x4 := A0.out.cell 4
  have HW0 := hid hW0
  clear h hs hW0
  go_enter Try.func12, Try.ntmps12
  go_wp2_with fail
  rw [← HW0.out]
  go_loopw [3, 4] (fun v q wr => ∃ k : Nat, k ≤ m ∧ v = .int .i64 (byN o k : Nat) ∧ q = .int .i64 (k : Int) ∧ wr = W0) (fun _ q _ => m - (intOf q).toNat)
  case atStart => exact ⟨0, Nat.zero_le _, rfl, rfl, rfl⟩
  case round =>
    obtain ⟨k, hk, rfl, rfl, hwr⟩ := hrel
    obtain rfl := hwr.symm
    clear hwr
    by_cases hlt : k < m
    · have d3 : (k : Int) < (m : Int) := by omega
      have k0 : (0 : Int) ≤ (k : Int) := by omega
      rcases HH.out.2 with h00 | ⟨b, off, rfl, hbl, hc⟩
      · omega
      obtain ⟨-, -, -, x3, -, -, -⟩ := hc k hlt
      have hkm := byN_mono o (show k + 1 ≤ m by omega)
      have hN : byN o k + (o k).dt.size ≤ 1073741824 := Nat.le_trans hkm HS.out
      have ST : Hid (byN o (k + 1) = byN o k + (o k).dt.size) := rfl
      generalize (o k).dt = D at x3 hN ST
      generalize byN o k = B at hN ST ⊢
      have hw : IntKind.i64.wrap ((B : Int) + (D.size : Int)) = ((B + D.size : Nat) : Int) := by simp [IntKind.wrap, IntKind.bits, IntKind.signed]; omega
      clear hc hkm
      go_wp2
      go_roundw
      case rel => exact ⟨k + 1, by omega, by rw [ST.out]; rfl, by go_num, trivial⟩
      case measure => simp [intOf]; omega
    · have d3 : ¬ (k : Int) < (m : Int) := by omega
      have hkm : k = m := by omega
      subst hkm
      go_wp2
      go_ret
      exact ⟨rfl, B0.out⟩
end Go.Proofs.Ytfkkkplmnanifaa
