import Derived.Test.YtjeahllaajpddabNdOf
import Derived.Test.YtjeahllaajpddabIPl
namespace Go.Proofs.Ytjeahllaajpddab
open Go.RowKit
theorem fnExactNodesFault_walk {w : World} (a : Option Addr) (len cap : Nat) (x y : Nat → Int) (h : IsPairs w a len cap x y) :
    Calls Try.prog 3 #[.slice a len cap] w fun e w' => e = .returned (.bool true) ∧ Below w.heap.size w w' :=
  fnExactNodesFault_of a len cap x y h.len (fun _ w hl hF => iNodes _ len len x y hl w hF.prs) w (Prs.of_is h)
end Go.Proofs.Ytjeahllaajpddab
