import Derived.Test.YthdmaamocejodaaStripeOf
import Derived.Test.YthdmaamocejodaaIStripe
namespace Go.Proofs.Ythdmaamocejodaa
open Go.RowKit
theorem fnExactStripeCount_walk {w : World} (k : Int) (_wk : (Lit.int .i64 k).wf = true) (m : Int) (_wm : (Lit.int .i64 m).wf = true) (g : Int) (_wg : (Lit.int .i64 g).wf = true) (u : Int) (_wu : (Lit.int .i64 u).wf = true) (s : Int) (_ws : (Lit.int .i64 s).wf = true) :
    Calls Try.prog 3 #[.agg #[.int .i64 k, .int .i64 m, .int .i64 g], .int .i64 u, .int .i64 s] w fun e w' => e = .returned (.bool true) ∧ Below w.heap.size w w' :=
  fnExactStripeCount_of k m g u s (fun w => iStripe k m g u s w) w
end Go.Proofs.Ythdmaamocejodaa
