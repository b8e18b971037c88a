import Derived.Test.YtefnoeaehglihaaDoorSGet
import Derived.Test.YtefnoeaehglihaaDoorIGet2
import Derived.Test.YtefnoeaehglihaaDoorEqRec
namespace Go.Proofs.YtefnoeaehglihaaDoor
open Go.RowKit
set_option maxRecDepth 20000 in
set_option maxHeartbeats 1000000 in
theorem fnExactGetRecord_walk {w : World} (hL : ∃ ea eb, Errs w ea eb) (s : ByteArray) (hs0 : s.size ≤ maxLen) (p : Int) (_ : (Lit.int .i64 p).wf = true) :
    Calls Tryd.prog 4 #[.string s, .int .i64 p] w fun e w' => e = .returned (.bool true) ∧ Below w.heap.size w w' := by
  unfold maxLen at hs0
  obtain ⟨ea, eb, hE⟩ := hL
  by_cases hs : s.size ≤ 1048576
  · have S := fun w => hid (sGetRec s p hs w)
    have I := fun w h => hid (iGetRec s p hs w ea eb h)
    obtain ⟨k, g, d, x, y, hv⟩ : ∃ k g d x y, recordV s (getRec s p) = .agg #[.string k, .bool g, .string d, .int .i64 x, .int .i64 y] := ⟨_, _, _, _, _, rfl⟩
    rw [hv] at S I
    have HE := hid hE
    clear hv hE
    go_enter Tryd.func4, Tryd.ntmps4
    go_wp2_with fail
    refine (S _).out.mono ?_
    rintro e w1 ⟨rfl, hb1⟩
    go_wp2_with fail
    refine (I _ (HE.out.below (hb1.alloc hb1.size _))).out.mono ?_
    rintro e w2 ⟨rfl, hb2⟩
    have hz : w1.heap.size < w2.heap.size := by have := hb2.size; simp at this; omega
    have hB : Blk w2 w1.heap.size #[.string k, .bool g, .string d, .int .i64 x, .int .i64 y] 28 := (hb2.block _ (by simp)).trans (Blk.made w1 _ _)
    have q0 := hB.cell 0 _ rfl
    have q1 := hB.cell 1 _ rfl
    have q2 := hB.cell 2 _ rfl
    have q3 := hB.cell 3 _ rfl
    have q4 := hB.cell 4 _ rfl
    have HB : Hid (Below w.heap.size w w2) := (hb1.alloc hb1.size _).trans (hb2.mono (by have := hb1.size; simp; omega))
    have hsz : w.heap.size ≤ w2.heap.size := HB.out.size
    clear hb1 hb2 hB
    go_wp2_with fail
    refine (eqRec_same k g d x y _).mono ?_
    rintro e w3 ⟨rfl, hb3⟩
    go_wp2
    go_ret
    exact ⟨rfl, (HB.out.alloc hsz _).trans (hb3.mono (by simp; omega))⟩
  · go_enter Tryd.func4, Tryd.ntmps4
    go_wp2_with fail
    go_ret
    exact ⟨rfl, Below.refl _ _⟩
end Go.Proofs.YtefnoeaehglihaaDoor
