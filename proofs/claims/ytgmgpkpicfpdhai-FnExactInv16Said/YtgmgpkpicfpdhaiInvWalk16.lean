import Derived.Test.YtgmgpkpicfpdhaiIInv16
namespace Go.Proofs.Ytgmgpkpicfpdhai
open Go.RowKit
set_option maxHeartbeats 400000 in
theorem fnExactInv16_walk (a : Int) (_wfa : (Lit.int .i64 a).wf = true) (w : World) :
    Calls Try.prog 7 #[.int .i64 a] w fun e w' => e = .returned (.bool true) ∧ Below w.heap.size w w' := by
  clear _wfa
  go_enter Try.func7, Try.ntmps7
  go_wp2_with fail
  refine (sinv16 a _).mono ?_
  rintro e w1 ⟨rfl, rfl⟩
  go_wp2_with fail
  refine (iinv16 a _).mono ?_
  rintro e w2 ⟨rfl, hb⟩
  go_wp2
  go_ret
  exact ⟨rfl, hb⟩
end Go.Proofs.Ytgmgpkpicfpdhai
