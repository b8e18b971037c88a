import Derived.Test.YtjeahllaajpddabPlCore
namespace Go.Proofs.Ytjeahllaajpddab
open Go.RowKit
theorem fnExactPlaceKey_walk {w : World} (a : Option Addr) (len cap : Nat) (x y : Nat → Int) (h : IsPairs w a len cap x y) (key : ByteArray) (hk : key.size ≤ maxLen) (m : Int) (_wm : (Lit.int .i64 m).wf = true) :
    Calls Try.prog 4 #[.slice a len cap, .string key, .int .i64 m] w fun e w' => e = .returned (.bool true) ∧ Below w.heap.size w w' := by
  unfold maxLen at hk
  exact fnExactPlaceKey_core a len cap x y h.len key (by omega) m w (Prs.of_is h)
end Go.Proofs.Ytjeahllaajpddab
