import Derived.Test.YteeadhcfippilaaRecOf
import Derived.Test.YteeadhcfippilaaIRec
namespace Go.Proofs.Yteeadhcfippilaa
open Go.RowKit
theorem fnExactPutRecord_walk (key : ByteArray) (hk0 : key.size ≤ maxLen) (gone : Bool) (data : ByteArray) (hd0 : data.size ≤ maxLen) (w : World) :
    Calls Try.prog 3 #[.string key, .bool gone, .string data] w fun e w' => e = .returned (.bool true) ∧ Below w.heap.size w w' :=
  fnExactPutRecord_of key gone data hk0 hd0 (fun w h1 h2 => iPutRec key gone data h1 h2 w) w
end Go.Proofs.Yteeadhcfippilaa
