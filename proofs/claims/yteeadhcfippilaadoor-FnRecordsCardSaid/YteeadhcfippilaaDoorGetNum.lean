import Derived.Test.YteeadhcfippilaaDoorTakeNum
namespace Go.Proofs.YteeadhcfippilaaDoor
open Go.RowKit
def numV (p : Int) : Option (Nat × Nat) → Value
  | none => .agg #[.bool false, .int .i64 0, .int .i64 0]
  | some (v, n) => .agg #[.bool true, .int .i64 (v : Nat), .int .i64 (p + (n : Nat))]
def textV : Option (ByteArray × Int) → Value
  | none => .agg #[.bool false, .string ByteArray.empty, .int .i64 0]
  | some (t, q) => .agg #[.bool true, .string t, .int .i64 q]
theorem numV_form (p : Int) (r : Option (Nat × Nat)) : ∃ g x y, numV p r = .agg #[.bool g, .int .i64 x, .int .i64 y] := by
  cases r with
  | none => exact ⟨_, _, _, rfl⟩
  | some q => obtain ⟨v, n⟩ := q; exact ⟨_, _, _, rfl⟩
theorem textV_form (r : Option (ByteArray × Int)) : ∃ g x y, textV r = .agg #[.bool g, .string x, .int .i64 y] := by
  cases r with
  | none => exact ⟨_, _, _, rfl⟩
  | some q => obtain ⟨v, n⟩ := q; exact ⟨_, _, _, rfl⟩
theorem CurAt.made (w : World) (s : ByteArray) (p : Int) : CurAt (w.alloc (.cells #[.string s, .int .i64 p] 62)) w.heap.size s p := heap_alloc_new w _

end Go.Proofs.YteeadhcfippilaaDoor
