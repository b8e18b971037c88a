import Derived.Test.YtcfahbcpfjhajaaGreatDoorProg
import Derived.Test.YtcfahbcpfjhajaaGreatDoorBase
import Derived.WalkLawsBesides
import Derived.WalkSpells
import Derived.OpenShut
namespace Go.Proofs.YtcfahbcpfjhajaaGreatDoor
open Go.RowKit
def sumStep (s : Int) (c : UInt8) : Int := (s * 65539 + c.toNat + 1) % 2147483647
def sumL (s0 : Int) (l : List UInt8) : Int := l.foldl sumStep s0
theorem sumL_snoc (s0 : Int) (l : List UInt8) (c : UInt8) : sumL s0 (l ++ [c]) = sumStep (sumL s0 l) c := by simp [sumL]
theorem sumStep_bd (s : Int) (c : UInt8) : 0 ≤ sumStep s c ∧ sumStep s c ≤ 2147483647 := by unfold sumStep; omega
theorem sumL_bd (l : List UInt8) : ∀ s0, 0 ≤ s0 → s0 ≤ 2147483647 → 0 ≤ sumL s0 l ∧ sumL s0 l ≤ 2147483647 := by
  induction l with
  | nil => intro s0 h1 h2; exact ⟨h1, h2⟩
  | cons c l ih => intro s0 h1 h2; exact ih _ (sumStep_bd s0 c).1 (sumStep_bd s0 c).2
def sumOf (s : ByteArray) (seed : Int) : Int := if seed < 0 ∨ 400000 < s.size then 0 else sumL (seed % 2147483647 + 1) s.data.toList
theorem take_snoc (s : ByteArray) (k : Nat) (h : k < s.size) : s.data.toList.take (k + 1) = s.data.toList.take k ++ [s[k]] := by
  rw [List.take_succ_eq_append_getElem (by simpa using h)]; rfl
theorem byte_bd (s : ByteArray) (k : Nat) (h : k < s.size) : 0 ≤ (s[k].toNat : Int) ∧ (s[k].toNat : Int) < 256 := by
  have := s[k].toNat_lt; omega
theorem ret_int {k : IntKind} {a b : Int} (h : a = b) : Ending.returned (.int k a) = .returned (.int k b) := by rw [h]

set_option maxRecDepth 20000 in
set_option maxHeartbeats 400000 in
theorem ssum_any (s : ByteArray) (seed : Int) (h0 : 0 ≤ seed) (h1 : seed ≤ 9223372036854775807) (hs : s.size ≤ 400000) (w : World) :
    Calls Tryz.prog 14 #[.string s, .int .i64 seed] w fun e w' => e = .returned (.int .i64 (sumL (seed % 2147483647 + 1) s.data.toList)) ∧ w' = w := by
  have d0 : decide (seed < 0) = false := by simp; omega
  have d1 : decide (400000 < (s.size : Int)) = false := by simp; omega
  go_enter Tryz.func14, Tryz.ntmps14
  go_wp2
  go_loop [5, 6] (fun t i => ∃ k : Nat, k ≤ s.size ∧ i = .int .i64 k ∧ t = .int .i64 (sumL (seed % 2147483647 + 1) (s.data.toList.take k))) (fun _ i => s.size - (intOf i).toNat)
  case atStart => exact ⟨0, Nat.zero_le _, rfl, rfl⟩
  case round =>
    obtain ⟨k, hk, rfl, rfl⟩ := hrel
    have hb := sumL_bd (s.data.toList.take k) (seed % 2147483647 + 1) (by omega) (by omega)
    by_cases hlt : k < s.size
    · have hc := byte_bd s k hlt
      have HS : Hid (sumL (seed % 2147483647 + 1) (s.data.toList.take (k + 1)) = sumStep (sumL (seed % 2147483647 + 1) (s.data.toList.take k)) s[k]) := by
        rw [take_snoc s k hlt]; exact sumL_snoc _ _ _
      go_wp2
      go_round
      case rel => exact ⟨k + 1, by omega, by go_num, by rw [HS.out]; rfl⟩
      case measure => simp [intOf]; omega
    · go_wp2
      go_ret
      exact ⟨ret_int (by rw [List.take_of_length_le (by simp; omega)]), rfl⟩
set_option maxRecDepth 20000 in
set_option maxHeartbeats 400000 in
theorem isumOn (s0 : Int) (s : ByteArray) (h0 : 0 ≤ s0) (h1 : s0 ≤ 2147483647) (hs : s.size ≤ 400000) (w : World) :
    Calls Tryz.prog 110 #[.int .i64 s0, .string s] w fun e w' => e = .returned (.int .i64 (sumL s0 s.data.toList)) ∧ w' = w := by
  go_enter Tryz.func110, Tryz.ntmps110
  go_wp2
  go_loop [0, 8] (fun t i => ∃ k : Nat, k ≤ s.size ∧ i = .int .i64 k ∧ t = .int .i64 (sumL s0 (s.data.toList.take k))) (fun _ i => s.size - (intOf i).toNat)
  case atStart => exact ⟨0, Nat.zero_le _, rfl, rfl⟩
  case round =>
    obtain ⟨k, hk, rfl, rfl⟩ := hrel
    have hb := sumL_bd (s.data.toList.take k) s0 h0 h1
    by_cases hlt : k < s.size
    · have hc := byte_bd s k hlt
      have HS : Hid (sumL s0 (s.data.toList.take (k + 1)) = sumStep (sumL s0 (s.data.toList.take k)) s[k]) := by
        rw [take_snoc s k hlt]; exact sumL_snoc _ _ _
      go_wp2
      go_round
      case rel => exact ⟨k + 1, by omega, by go_num, by rw [HS.out]; rfl⟩
      case measure => simp [intOf]; omega
    · go_wp2
      go_ret
      exact ⟨ret_int (by rw [List.take_of_length_le (by simp; omega)]), rfl⟩
theorem ifirstSum (seed : Int) (h0 : 0 ≤ seed) (h1 : seed ≤ 9223372036854775807) (w : World) :
    Calls Tryz.prog 111 #[.int .i64 seed] w fun e w' => e = .returned (.int .i64 (seed % 2147483647 + 1)) ∧ w' = w := by
  go_enter Tryz.func111, Tryz.ntmps111
  go_wp2
  go_ret
  exact ⟨rfl, rfl⟩
set_option maxRecDepth 20000 in
set_option maxHeartbeats 400000 in
theorem isum_any (s : ByteArray) (seed : Int) (h0 : 0 ≤ seed) (h1 : seed ≤ 9223372036854775807) (hs : s.size ≤ 400000) (w : World) :
    Calls Tryz.prog 83 #[.string s, .int .i64 seed] w fun e w' => e = .returned (.int .i64 (sumL (seed % 2147483647 + 1) s.data.toList)) ∧ w' = w := by
  have d0 : decide (seed < 0) = false := by simp; omega
  have d1 : decide (400000 < (s.size : Int)) = false := by simp; omega
  have F := fun w => hid (ifirstSum seed h0 h1 w)
  have S := fun w => hid (isumOn (seed % 2147483647 + 1) s (by omega) (by omega) hs w)
  obtain ⟨f, hf⟩ : ∃ f, f = seed % 2147483647 + 1 := ⟨_, rfl⟩
  rw [← hf] at F S ⊢
  clear hf
  go_enter Tryz.func83, Tryz.ntmps83
  go_wp2_with fail
  refine (F _).out.mono ?_
  rintro e w1 ⟨rfl, rfl⟩
  go_wp2_with fail
  refine (S _).out.mono ?_
  rintro e w2 ⟨rfl, rfl⟩
  go_wp2
  go_ret
  exact ⟨rfl, rfl⟩
set_option maxHeartbeats 400000 in
theorem ssum_no (s : ByteArray) (seed : Int) (h : seed < 0 ∨ 400000 < s.size) (hs : s.size ≤ 1048576) (w : World) :
    Calls Tryz.prog 14 #[.string s, .int .i64 seed] w fun e w' => e = .returned (.int .i64 0) ∧ w' = w := by
  by_cases h0 : seed < 0
  · have d0 : decide (seed < 0) = true := by simp; omega
    go_enter Tryz.func14, Tryz.ntmps14
    go_wp2
    go_ret
    exact ⟨rfl, rfl⟩
  · have d0 : decide (seed < 0) = false := by simp; omega
    have d1 : decide (400000 < (s.size : Int)) = true := by simp; omega
    go_enter Tryz.func14, Tryz.ntmps14
    go_wp2
    go_ret
    exact ⟨rfl, rfl⟩
theorem ssum_all (s : ByteArray) (seed : Int) (h1 : seed ≤ 9223372036854775807) (hs : s.size ≤ 1048576) (w : World) :
    Calls Tryz.prog 14 #[.string s, .int .i64 seed] w fun e w' => e = .returned (.int .i64 (sumOf s seed)) ∧ w' = w := by
  unfold sumOf
  by_cases h : seed < 0 ∨ 400000 < s.size
  · rw [if_pos h]; exact ssum_no s seed h hs w
  · rw [if_neg h]; exact ssum_any s seed (by omega) h1 (by omega) w
set_option maxHeartbeats 400000 in
theorem isum_no (s : ByteArray) (seed : Int) (h : seed < 0 ∨ 400000 < s.size) (hs : s.size ≤ 1048576) (w : World) :
    Calls Tryz.prog 83 #[.string s, .int .i64 seed] w fun e w' => e = .returned (.int .i64 0) ∧ w' = w := by
  by_cases h0 : seed < 0
  · have d0 : decide (seed < 0) = true := by simp; omega
    go_enter Tryz.func83, Tryz.ntmps83
    go_wp2
    go_ret
    exact ⟨rfl, rfl⟩
  · have d0 : decide (seed < 0) = false := by simp; omega
    have d1 : decide (400000 < (s.size : Int)) = true := by simp; omega
    go_enter Tryz.func83, Tryz.ntmps83
    go_wp2
    go_ret
    exact ⟨rfl, rfl⟩
theorem isum_all (s : ByteArray) (seed : Int) (h1 : seed ≤ 9223372036854775807) (hs : s.size ≤ 1048576) (w : World) :
    Calls Tryz.prog 83 #[.string s, .int .i64 seed] w fun e w' => e = .returned (.int .i64 (sumOf s seed)) ∧ w' = w := by
  unfold sumOf
  by_cases h : seed < 0 ∨ 400000 < s.size
  · rw [if_pos h]; exact isum_no s seed h hs w
  · rw [if_neg h]; exact isum_any s seed (by omega) h1 (by omega) w
end Go.Proofs.YtcfahbcpfjhajaaGreatDoor
