import Derived.Test.YtjeahllaajpddaaLawInts
namespace Go.Proofs.Ytjeahllaajpddaa
open Go.RowKit
/-! The laws' own ways with matrices. -/
theorem szi {p : Prop} [Decidable p] {x y z : Int} (h : p) (e : x = z) : (if p then x else y) = z := by rw [if_pos h, e]
theorem one3 (r c : Int) (a : Option Addr) (len cap : Nat) : (#[.int .i64 r, .int .i64 c, .slice a len cap] : Array Value).all (·.oneCell') = true := by simp [Value.oneCell']
end Go.Proofs.Ytjeahllaajpddaa
