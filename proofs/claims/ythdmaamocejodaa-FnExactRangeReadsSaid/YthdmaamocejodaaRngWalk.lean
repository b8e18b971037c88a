import Derived.Test.YthdmaamocejodaaRngOf
import Derived.Test.YthdmaamocejodaaIRng
namespace Go.Proofs.Ythdmaamocejodaa
open Go.RowKit
theorem fnExactRangeReads_walk {w : World} (k : Int) (_wk : (Lit.int .i64 k).wf = true) (m : Int) (_wm : (Lit.int .i64 m).wf = true) (g : Int) (_wg : (Lit.int .i64 g).wf = true) (u : Int) (_wu : (Lit.int .i64 u).wf = true) (s : Int) (_ws : (Lit.int .i64 s).wf = true) (f : Int) (wf : (Lit.int .i64 f).wf = true) (c : Int) (wc : (Lit.int .i64 c).wf = true) :
    Calls Try.prog 4 #[.agg #[.int .i64 k, .int .i64 m, .int .i64 g], .int .i64 u, .int .i64 s, .int .i64 f, .int .i64 c] w fun e w' => e = .returned (.bool true) ∧ Below w.heap.size w w' :=
  fnExactRangeReads_of irng_no irng_ok k m g u s f c (lit_i64 wf) (lit_i64 wc) w
end Go.Proofs.Ythdmaamocejodaa
