import Derived.Test.YtgjkhjpkdkcnfaaIUnE2
import Derived.Test.YtgjkhjpkdkcnfaaEscOf
namespace Go.Proofs.Ytgjkhjpkdkcnfaa
open Go.RowKit
theorem fnExactUnEscape_walk (s : ByteArray) (hs0 : s.size ≤ maxLen) {w : World} :
    Calls Try.prog 4 #[.string s] w fun e w' => e = .returned (.bool true) ∧ Below w.heap.size w w' :=
  fnExactUnEscape_of (fun _ => True) (fun _ _ _ _ => trivial) (fun s _ w _ => iUn s w) s hs0 trivial
end Go.Proofs.Ytgjkhjpkdkcnfaa
