import Derived.Test.YtjeahllaajpddaaNdOf
import Derived.Test.YtjeahllaajpddaaIPl
namespace Go.Proofs.Ytjeahllaajpddaa
open Go.RowKit
theorem fnExactMixOf_walk {w : World} (key : ByteArray) (hk : key.size ≤ maxLen) (node : Int) (wn : (Lit.int .i64 node).wf = true) (turn : Int) (wt : (Lit.int .i64 turn).wf = true) :
    Calls Try.prog 7 #[.string key, .int .i64 node, .int .i64 turn] w fun e w' => e = .returned (.bool true) ∧ Below w.heap.size w w' := by
  have h1 : IntKind.i64.min ≤ node ∧ node ≤ 9223372036854775807 := by simpa [Lit.wf] using wn
  have h2 : IntKind.i64.min ≤ turn ∧ turn ≤ 9223372036854775807 := by simpa [Lit.wf] using wt
  unfold maxLen at hk
  exact fnExactMixOf_of key node turn (by omega) h1.2 h2.2 (fun w hk => iMix key node turn hk h1.2 h2.2 w) w
end Go.Proofs.Ytjeahllaajpddaa
