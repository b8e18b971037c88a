import Derived.Test.YtmgmchhhmeclgaaDoorSGlob
namespace Go.Proofs.YtmgmchhhmeclgaaDoor
open Go.RowKit
set_option maxHeartbeats 400000 in
theorem fnExactGlobFits_walk (p : ByteArray) (hp0 : p.size ≤ maxLen) (t : ByteArray) (ht0 : t.size ≤ maxLen) (w : World) :
    Calls Tryd.prog 4 #[.string p, .string t] w fun e w' => e = .returned (.bool true) ∧ Below w.heap.size w w' := by
  unfold maxLen at hp0 ht0
  by_cases hp : p.size ≤ 1048576
  · by_cases ht : t.size ≤ 1048576
    · go_enter Tryd.func4, Tryd.ntmps4
      go_wp2_with fail
      refine (sGlob p t hp ht _).mono ?_
      rintro e w1 ⟨rfl, hb1⟩
      go_wp2_with fail
      refine (iGlob p t hp ht _).mono ?_
      rintro e w2 ⟨rfl, n, rfl⟩
      go_wp2
      go_ret
      exact ⟨rfl, bdrewN hb1 n⟩
    · go_enter Tryd.func4, Tryd.ntmps4
      go_wp2_with fail
      go_ret
      exact ⟨rfl, Below.refl _ _⟩
  · go_enter Tryd.func4, Tryd.ntmps4
    go_wp2_with fail
    go_ret
    exact ⟨rfl, Below.refl _ _⟩
end Go.Proofs.YtmgmchhhmeclgaaDoor
