import Derived.Test.YtgmgpkpicfpdhaiIMul16
namespace Go.Proofs.Ytgmgpkpicfpdhai
open Go.RowKit
set_option maxHeartbeats 400000 in
theorem fnExactMul16_walk (a : Int) (_wfa : (Lit.int .i64 a).wf = true) (b : Int) (_wfb : (Lit.int .i64 b).wf = true) (w : World) :
    Calls Try.prog 6 #[.int .i64 a, .int .i64 b] w fun e w' => e = .returned (.bool true) ∧ Below w.heap.size w w' := by
  clear _wfa _wfb
  go_enter Try.func6, Try.ntmps6
  go_wp2_with fail
  refine (smul16 a b _).mono ?_
  rintro e w1 ⟨rfl, rfl⟩
  go_wp2_with fail
  refine (imul16 a b _).mono ?_
  rintro e w2 ⟨rfl, hb⟩
  go_wp2
  go_ret
  exact ⟨rfl, hb⟩
end Go.Proofs.Ytgmgpkpicfpdhai
