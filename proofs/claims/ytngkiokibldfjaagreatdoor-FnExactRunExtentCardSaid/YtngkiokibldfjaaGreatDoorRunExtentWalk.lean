import Derived.Test.YtngkiokibldfjaaGreatDoorQE
import Derived.Test.YtngkiokibldfjaaGreatDoorQF
namespace Go.Proofs.YtngkiokibldfjaaGreatDoor
open Go.RowKit
set_option linter.unusedVariables false
/-! FnExactRunExtent, as its row hands it its arguments. -/
theorem fnExactRunExtent_walk {w : World} (hL : TB w ∧ ∃ ea eb, Errs w ea eb) (d : ByteArray) (hd : d.size ≤ maxLen) (s : Int) (_wf : (Lit.int .i64 s).wf = true) (a : Option Addr) (n cap : Nat) (o : Nat → Op) (x : IsOps w a n cap o) :
    Calls Tryz.prog 5 #[.agg #[.string d, .int .i64 s], .slice a n cap] w fun e w' => e = .returned (.bool true) ∧ Below w.heap.size w w' := by
  obtain ⟨hT, ea, eb, hE⟩ := hL
  obtain ⟨hO, hc, hs⟩ := x
  have hn : n ≤ cap := hO.1
  unfold maxLen at hd hc hs
  exact rx_core ea eb d s a n cap o (by omega) (by omega) (fun k hk => by have := hs k hk; omega) w hO hE hT
end Go.Proofs.YtngkiokibldfjaaGreatDoor
