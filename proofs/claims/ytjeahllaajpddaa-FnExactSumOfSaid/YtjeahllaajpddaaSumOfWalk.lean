import Derived.Test.YtjeahllaajpddaaSum
namespace Go.Proofs.Ytjeahllaajpddaa
open Go.RowKit
set_option maxHeartbeats 400000 in
theorem fnExactSumOf_walk (s : ByteArray) (hs0 : s.size ≤ maxLen) (seed : Int) (wf : (Lit.int .i64 seed).wf = true) (w : World) :
    Calls Try.prog 6 #[.string s, .int .i64 seed] w fun e w' => e = .returned (.bool true) ∧ Below w.heap.size w w' := by
  have h1 : seed ≤ 9223372036854775807 := by have := bounds_i64 wf; omega
  unfold maxLen at hs0
  by_cases hs : s.size ≤ 1048576
  · go_enter Try.func6, Try.ntmps6
    go_wp2_with fail
    refine (ssum_all s seed h1 hs _).mono ?_
    rintro e w1 ⟨rfl, rfl⟩
    go_wp2_with fail
    refine (isum_all s seed h1 hs _).mono ?_
    rintro e w2 ⟨rfl, rfl⟩
    go_wp2
    go_ret
    exact ⟨rfl, Below.refl _ _⟩
  · go_enter Try.func6, Try.ntmps6
    go_wp2_with fail
    go_ret
    exact ⟨rfl, Below.refl _ _⟩
end Go.Proofs.Ytjeahllaajpddaa
