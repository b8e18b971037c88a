import Derived.Test.YtjeahllaajpddaaSMul
namespace Go.Proofs.Ytjeahllaajpddaa
open Go.RowKit
theorem mfault_01 (r c : Int) (xs : List Int) : mfault r c xs = 0 ∨ mfault r c xs = 1 := by
  unfold mfault; split
  · exact Or.inl rfl
  · exact Or.inr rfl
/-- no matrix, and a code -/
abbrev mrNone (k : Int) : Value := .agg #[.int .i64 k, .int .i64 0, .int .i64 0, .slice none 0 0]
end Go.Proofs.Ytjeahllaajpddaa
