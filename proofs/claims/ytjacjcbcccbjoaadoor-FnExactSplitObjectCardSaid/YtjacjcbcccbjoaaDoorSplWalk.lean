import Derived.Test.YtjacjcbcccbjoaaDoorSpA
import Derived.Test.YtjacjcbcccbjoaaDoorSpC
namespace Go.Proofs.YtjacjcbcccbjoaaDoor
open Go.RowKit
theorem fnExactSplitObject_walk {w : World} (hT : Tab w) (k : Int) (_wk : (Lit.int .i64 k).wf = true) (m : Int) (_wm : (Lit.int .i64 m).wf = true) (g : Int) (_wg : (Lit.int .i64 g).wf = true) (u : Int) (_wu : (Lit.int .i64 u).wf = true) (d : ByteArray) (_hd : d.size ≤ maxLen) :
    Calls Tryd.prog 3 #[.agg #[.int .i64 k, .int .i64 m, .int .i64 g], .int .i64 u, .string d] w fun e w' => e = .returned (.bool true) ∧ Below w.heap.size w w' :=
  fnExactSplitObject_of ispl_no ispl_ok k m g u d w hT
end Go.Proofs.YtjacjcbcccbjoaaDoor
