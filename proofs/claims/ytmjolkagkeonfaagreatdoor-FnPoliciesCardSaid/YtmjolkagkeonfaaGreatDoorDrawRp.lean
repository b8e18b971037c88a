import Derived.Test.YtmjolkagkeonfaaGreatDoorDrawSt
import Derived.Test.YtmjolkagkeonfaaGreatDoorG15
namespace Go.Proofs.YtmjolkagkeonfaaGreatDoor
open Go.RowKit
set_option linter.unusedVariables false
/-! The draws of FnPolicies. -/
set_option maxRecDepth 20000 in
set_option maxHeartbeats 2000000 in
theorem drawWP_all (w : World) (a : Option Addr) (len cap : Nat) (hc : CodeOk w a len) (hlc : len ≤ cap) :
    Calls Tryz.prog 6 #[.slice a len cap] w fun e w' => (∃ v, e = .returned v ∧ StD w' v) ∧ Below w.heap.size w w' := by
  go_enter Tryz.func6, Tryz.ntmps6
  go_wp2_with fail
  refine (source_all w a len cap hc hlc).mono ?_
  rintro e w1 ⟨rfl, hs1, hb1⟩
  clear hb1
  go_wp2_with fail
  refine (statements_all w w1 _ a len cap 0 hs1 (by omega)).mono ?_
  rintro e w2 ⟨⟨v, rfl, hD⟩, ⟨p2, hs2, _⟩, _⟩
  have D2 := hid hD
  have S2 := hid hs2
  clear hD hs2 hs1
  go_wp2
  go_ret
  exact ⟨⟨_, rfl, Rob.here D2.out⟩, S2.out.2.2.2.1⟩
def rpT : Array Value := #[.string ⟨#[97, 108, 108, 111, 119, 32, 119, 104, 111, 32, 97, 32, 100, 111, 32, 98, 32, 111, 110, 32, 99]⟩, .string ⟨#[97, 108, 108, 111, 119, 32, 119, 104, 111, 32, 97, 32, 100, 111, 32, 98, 32, 111, 110, 32, 99, 32, 112, 114, 101, 102, 105, 120]⟩, .string ⟨#[100, 101, 110, 121, 32, 119, 104, 111, 32, 97, 44, 44, 98, 32, 100, 111, 32, 99, 32, 111, 110, 32, 100, 10]⟩, .string ⟨#[97, 108, 108, 111, 119, 32, 119, 104, 111, 32, 97, 32, 100, 111, 32, 98, 32, 111, 110, 32, 99, 32, 98, 101, 102, 111, 114, 101, 32, 48, 49, 10]⟩, .string ⟨#[97, 108, 108, 111, 119, 32, 119, 104, 111, 32, 97, 32, 100, 111, 32, 98, 32, 111, 110, 32, 99, 32, 97, 102, 116, 101, 114, 32, 52, 49, 48, 50, 52, 52, 52, 56, 48, 49]⟩, .string ⟨#[120, 32, 119, 104, 111, 32, 97, 32, 100, 111, 32, 98, 32, 111, 110, 32, 99]⟩]
theorem rpT_at (k : Nat) (hk : k < 6) : ∃ x : ByteArray, rpT[k]? = some (.string x) ∧ x.size ≤ 40 := by
  rcases (by omega : k = 0 ∨ k = 1 ∨ k = 2 ∨ k = 3 ∨ k = 4 ∨ k = 5) with rfl | rfl | rfl | rfl | rfl | rfl
  all_goals exact ⟨_, rfl, by decide⟩
set_option maxRecDepth 20000 in
set_option maxHeartbeats 4000000 in
theorem drawRP_all (w : World) (a : Option Addr) (len cap : Nat) (hc : CodeOk w a len) (hlc : len ≤ cap) :
    Calls Tryz.prog 13 #[.slice a len cap] w fun e w' => (∃ t : ByteArray, e = .returned (.string t) ∧ t.size ≤ 5000) ∧ Below w.heap.size w w' := by
  go_enter Tryz.func13, Tryz.ntmps13
  go_wp2_with fail
  refine (source_all w a len cap hc hlc).mono ?_
  rintro e w1 ⟨rfl, hs1, hb1⟩
  obtain ⟨c, hcw⟩ : ∃ c, c = w.heap.size := ⟨_, rfl⟩
  rw [← hcw] at hs1 ⊢
  clear hb1 hcw hc
  have S1 := hid hs1
  clear hs1
  go_wp2_with fail
  refine (policy_all w w1 c a len cap 0 S1.out (by omega)).mono ?_
  rintro e w2 ⟨⟨u, rfl, hu⟩, ⟨p2, hs2, hp2⟩, _⟩
  have S2 := hid hs2
  clear hs2 S1
  go_wp2_with fail
  refine (one_all w w2 c a len cap p2 3 S2.out (by omega) (by omega) (by omega)).mono ?_
  rintro e w3 ⟨⟨b, rfl⟩, hs3, _⟩
  have S3 := hid hs3
  clear hs3 S2
  go_upto_if 11 with fail
  go_cut [4] from 12 to 14 (fun v wc => ∃ (t : ByteArray) (q : Nat), v = .string t ∧ t.size ≤ 1003 ∧ q ≤ 2100 ∧ Src w wc c a len cap q)
  case first =>
    cases b with
    | false =>
      go_wp2_with fail
      go_meet
      exact ⟨u, p2 + 1, rfl, by omega, by omega, S3.out⟩
    | true =>
      go_wp2_with fail
      refine (spoil_all w w3 c a len cap (p2 + 1) u S3.out (by omega) (by omega)).mono ?_
      rintro e w4 ⟨⟨t, rfl, ht⟩, ⟨p4, hs4, hp4⟩, _⟩
      have S4 := hid hs4
      clear hs4 S3
      go_wp2_with fail
      go_meet
      exact ⟨t, p4, rfl, by omega, by omega, S4.out⟩
  case rest =>
  obtain ⟨t1, q1, rfl, ht1, hq1, hs5⟩ := hcut
  obtain ⟨W5, rfl⟩ : ∃ v, v = wc := ⟨_, rfl⟩
  have S5 := hid hs5
  clear hs5 S3
  go_wp2_with fail
  refine (one_all w W5 c a len cap q1 10 S5.out (by omega) (by omega) (by omega)).mono ?_
  rintro e w6 ⟨⟨b2, rfl⟩, hs6, _⟩
  have S6 := hid hs6
  clear hs6 S5
  go_upto_if 16 with fail
  go_cut [4] from 17 to 23 (fun v wc => ∃ (t : ByteArray) (q : Nat), v = .string t ∧ t.size ≤ 1043 ∧ q ≤ 2110 ∧ Src w wc c a len cap q)
  case first =>
    cases b2 with
    | false =>
      go_wp2_with fail
      go_meet
      exact ⟨t1, q1 + 1, rfl, by omega, by omega, S6.out⟩
    | true =>
      go_wp2_with fail
      refine (n_all w _ c a len cap (q1 + 1) 6 (srcAl S6.out _) (by omega) (by omega) (by omega)).mono ?_
      rintro e w7 ⟨⟨r, rfl, hr0, hr1⟩, hs7, hg7⟩
      obtain ⟨K, rfl⟩ := Int.eq_ofNat_of_zero_le hr0
      have R7 : RowAt w7 w6.heap.size 9 rpT := tabKept S6.out hg7
      obtain ⟨x, hx, hx2⟩ := rpT_at K (by omega)
      have c7 := (R7.cell K).trans hx
      have S7 := hid hs7
      clear hs7 hg7 R7 hx S6
      go_wp2_with fail
      go_meet
      exact ⟨_, q1 + 1 + 1, rfl, by rw [sizeApp]; omega, by omega, S7.out⟩
  case rest =>
  obtain ⟨t2, q2, rfl, ht2, hq2, hs8⟩ := hcut
  obtain ⟨W8, rfl⟩ : ∃ v, v = wc := ⟨_, rfl⟩
  have S8 := hid hs8
  clear hs8 S6
  go_wp2_with fail
  refine (one_all w W8 c a len cap q2 30 S8.out (by omega) (by omega) (by omega)).mono ?_
  rintro e w9 ⟨⟨b3, rfl⟩, hs9, _⟩
  have S9 := hid hs9
  clear hs9 S8
  cases b3 with
  | false =>
    go_wp2
    go_ret
    exact ⟨⟨t2, rfl, by omega⟩, S9.out.2.2.2.1⟩
  | true =>
    go_wp2_with fail
    refine (n_all w _ c a len cap (q2 + 1) 3 S9.out (by omega) (by omega) (by omega)).mono ?_
    rintro e w10 ⟨⟨r, rfl, hr0, hr1⟩, hs10, _⟩
    obtain ⟨K, rfl⟩ := Int.eq_ofNat_of_zero_le hr0
    have S10 := hid hs10
    clear hs10 S9
    go_wp2_with fail
    go_loopw [4, 5] (fun v k wr => ∃ (t : ByteArray) (j : Nat), v = .string t ∧ k = .int .i64 (j : Int) ∧ j ≤ 51 ∧ t.size + 22 * j ≤ 1043 + 22 * 51 ∧ Src w wr c a len cap (q2 + 1 + 1)) (fun _ k _ => (intOf k).toNat)
    case atStart => exact ⟨t2, 49 + K, rfl, by go_num, by omega, by omega, S10.out⟩
    case round =>
      obtain ⟨t, j, rfl, rfl, hj, ht, hs⟩ := hrel
      have S11 := hid hs
      clear hs S10
      by_cases hj0 : j = 0
      · subst hj0
        go_wp2
        go_ret
        exact ⟨⟨t, rfl, by omega⟩, S11.out.2.2.2.1⟩
      · have d0 : (0 : Int) < (j : Int) := by omega
        have z0 : (⟨#[97, 108, 108, 111, 119, 32, 119, 104, 111, 32, 97, 32, 100, 111, 32, 98, 32, 111, 110, 32, 99, 10]⟩ : ByteArray).size = 22 := rfl
        go_wp2
        go_roundw
        case rel => exact ⟨_, j - 1, rfl, by go_num, by omega, by rw [sizeApp, z0]; omega, S11.out⟩
        case measure => simp [intOf]; omega
end Go.Proofs.YtmjolkagkeonfaaGreatDoor
