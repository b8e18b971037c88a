import Derived.Test.YtgjkhjpkdkcnfaaDoorIReq
import Derived.Test.YtgjkhjpkdkcnfaaDoorRqOf
import Derived.Test.YtgjkhjpkdkcnfaaDoorOpenRq
namespace Go.Proofs.YtgjkhjpkdkcnfaaDoor
open Go.RowKit
theorem fnExactRequestFault_walk (r : Rq) {w : World} (h : RqIs w r) :
    Calls Tryd.prog 3 #[r.v] w fun e w' => e = .returned (.bool true) ∧ Below w.heap.size w w' :=
  fnExactRequestFault_of (fun _ => True) (fun _ _ _ _ => trivial) (fun r hb w _ h => iRqF r hb w h) r trivial h
end Go.Proofs.YtgjkhjpkdkcnfaaDoor
