import Derived.Test.YtefnoeaehglihaaDoorRecM
namespace Go.Proofs.YtefnoeaehglihaaDoor
open Go.RowKit
/-! laws.eqRecord of two records alike. -/
set_option maxRecDepth 20000 in
set_option maxHeartbeats 1000000 in
theorem eqRec_same (k : ByteArray) (g : Bool) (d : ByteArray) (x y : Int) (w : World) :
    Calls Tryd.prog 14 #[.agg #[.string k, .bool g, .string d, .int .i64 x, .int .i64 y], .agg #[.string k, .bool g, .string d, .int .i64 x, .int .i64 y]] w fun e w' => e = .returned (.bool true) ∧ Below w.heap.size w w' := by
  go_enter Tryd.func14, Tryd.ntmps14
  go_wp2
  go_ret
  exact ⟨rfl, ((Below.refl _ _).alloc (Nat.le_refl _) _).alloc (by simp) _⟩
end Go.Proofs.YtefnoeaehglihaaDoor
