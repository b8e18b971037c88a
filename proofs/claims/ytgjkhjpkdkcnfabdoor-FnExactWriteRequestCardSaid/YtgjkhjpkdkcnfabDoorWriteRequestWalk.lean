import Derived.Test.YtgjkhjpkdkcnfabDoorIWrq4
import Derived.Test.YtgjkhjpkdkcnfabDoorRqOf
import Derived.Test.YtgjkhjpkdkcnfabDoorOpenRq
namespace Go.Proofs.YtgjkhjpkdkcnfabDoor
open Go.RowKit
theorem fnExactWriteRequest_walk {w : World} (hT : TB w) (r : Rq) (h : RqIs w r) :
    Calls Tryd.prog 3 #[r.v] w fun e w' => e = .returned (.bool true) ∧ Below w.heap.size w w' :=
  fnExactWriteRequest_of TB (fun _ _ h hb => h.below hb) (fun r hb w hT h => iWrq r hb w hT h) r hT h
end Go.Proofs.YtgjkhjpkdkcnfabDoor
