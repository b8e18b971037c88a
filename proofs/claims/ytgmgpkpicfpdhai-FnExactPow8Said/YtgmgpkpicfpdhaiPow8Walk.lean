import Derived.Test.YtgmgpkpicfpdhaiIPow8e
namespace Go.Proofs.Ytgmgpkpicfpdhai
open Go.RowKit
set_option maxHeartbeats 400000 in
theorem fnExactPow8_walk (a : Int) (_wfa : (Lit.int .i64 a).wf = true) (n : Int) (wfn : (Lit.int .i64 n).wf = true) (w : World) :
    Calls Try.prog 5 #[.int .i64 a, .int .i64 n] w fun e w' => e = .returned (.bool true) ∧ Below w.heap.size w w' := by
  have h1 : n ≤ 9223372036854775807 := by have := bounds_i64 wfn; omega
  clear _wfa
  go_enter Try.func5, Try.ntmps5
  go_wp2_with fail
  refine (spow8 a n h1 _).mono ?_
  rintro e w1 ⟨rfl, rfl⟩
  go_wp2_with fail
  refine (ipow8 a n h1 _).mono ?_
  rintro e w2 ⟨rfl, hb⟩
  go_wp2
  go_ret
  exact ⟨rfl, hb⟩
end Go.Proofs.Ytgmgpkpicfpdhai
