import Derived.Test.YtcfahbcpfjhajaaGreatDoorBase
import Derived.Lib.Join
namespace Go.Proofs.YtcfahbcpfjhajaaGreatDoor
open Go.RowKit
/-! Lists of texts, joined. -/
def jl (ts : Nat → ByteArray) (n : Nat) : List (List UInt8) := (List.range n).map fun i => (ts i).data.toList
theorem jl_succ (ts : Nat → ByteArray) (n : Nat) : jl ts (n + 1) = jl ts n ++ [(ts n).data.toList] := by unfold jl; rw [List.range_succ]; simp
theorem join_snoc (sep x : List UInt8) : ∀ xs : List (List UInt8), xs ≠ [] → Lib.join (xs ++ [x]) sep = Lib.join xs sep ++ sep ++ x
  | [], h => absurd rfl h
  | y :: r, _ => by
    rw [List.cons_append, Lib.join_cons, Lib.join_cons]
    unfold Lib.joinTail
    rw [List.map_append, List.flatten_append]
    simp
end Go.Proofs.YtcfahbcpfjhajaaGreatDoor
