import Derived.Test.YteimhnklebppkahGetNum
namespace Go.Proofs.Yteimhnklebppkah
open Go.RowKit
theorem textV_form (r : Option (ByteArray × Int)) : ∃ g x y, textV r = .agg #[.bool g, .string x, .int .i64 y] := by
  cases r with
  | none => exact ⟨_, _, _, rfl⟩
  | some q => obtain ⟨v, n⟩ := q; exact ⟨_, _, _, rfl⟩
set_option maxHeartbeats 400000 in
theorem eqText_same (g : Bool) (x : ByteArray) (y : Int) (w : World) :
    Calls Try.prog 16 #[.agg #[.bool g, .string x, .int .i64 y], .agg #[.bool g, .string x, .int .i64 y]] w fun e w' => e = .returned (.bool true) ∧ Below w.heap.size w w' := by
  go_enter Try.func16, Try.ntmps16
  go_wp2
  go_ret
  exact ⟨rfl, ((Below.refl _ _).alloc (Nat.le_refl _) _).alloc (by simp) _⟩
end Go.Proofs.Yteimhnklebppkah
