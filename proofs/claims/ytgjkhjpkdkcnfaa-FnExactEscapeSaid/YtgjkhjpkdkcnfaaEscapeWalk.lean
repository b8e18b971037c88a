import Derived.Test.YtgjkhjpkdkcnfaaIEsc
import Derived.Test.YtgjkhjpkdkcnfaaEscOf
namespace Go.Proofs.Ytgjkhjpkdkcnfaa
open Go.RowKit
theorem fnExactEscape_walk (s : ByteArray) (hs0 : s.size ≤ maxLen) {w : World} :
    Calls Try.prog 3 #[.string s] w fun e w' => e = .returned (.bool true) ∧ Below w.heap.size w w' :=
  fnExactEscape_of (fun _ => True) (fun _ _ _ _ => trivial) (fun s hs w _ => iEsc s hs w) s hs0 trivial
end Go.Proofs.Ytgjkhjpkdkcnfaa
