import Derived.Test.YteimhnklebppkahGetText
namespace Go.Proofs.Yteimhnklebppkah
open Go.RowKit
theorem textV_form (r : Option (ByteArray × Int)) : ∃ g x y, textV r = .agg #[.bool g, .string x, .int .i64 y] := by
  cases r with
  | none => exact ⟨_, _, _, rfl⟩
  | some q => obtain ⟨v, n⟩ := q; exact ⟨_, _, _, rfl⟩
set_option maxHeartbeats 400000 in
theorem eqText_same (g : Bool) (x : ByteArray) (y : Int) (w : World) :
    Calls Try.prog 16 #[.agg #[.bool g, .string x, .int .i64 y], .agg #[.bool g, .string x, .int .i64 y]] w fun e w' => e = .returned (.bool true) ∧ Below w.heap.size w w' := by
  go_enter Try.func16, Try.ntmps16
  go_wp2
  go_ret
  exact ⟨rfl, ((Below.refl _ _).alloc (Nat.le_refl _) _).alloc (by simp) _⟩
set_option maxHeartbeats 400000 in
theorem fnExactGetText_walk (s : ByteArray) (hs0 : s.size ≤ maxLen) (p : Int) (_ : (Lit.int .i64 p).wf = true) (w : World) :
    Calls Try.prog 5 #[.string s, .int .i64 p] w fun e w' => e = .returned (.bool true) ∧ Below w.heap.size w w' := by
  unfold maxLen at hs0
  by_cases hs : s.size ≤ 1048576
  · obtain ⟨g, x, y, hv⟩ := textV_form (getText s p)
    have HV := hid hv
    clear hv
    go_enter Try.func5, Try.ntmps5
    go_wp2_with fail
    refine (sgetText_all s p hs _).mono ?_
    rintro e w1 ⟨rfl, hb1⟩
    rw [HV.out]
    go_wp2_with fail
    refine (igetText_all s p hs _).mono ?_
    rintro e w2 ⟨rfl, hb2⟩
    have hz : w1.heap.size < w2.heap.size := by have := hb2.size; simp at this; omega
    have hB : Blk w2 w1.heap.size #[.bool g, .string x, .int .i64 y] 30 := (hb2.block _ (by simp)).trans (Blk.made w1 _ _)
    have q0 := hB.cell 0 _ rfl
    have q1 := hB.cell 1 _ rfl
    have q2 := hB.cell 2 _ rfl
    have HB : Hid (Below w.heap.size w w2) := (hb1.alloc hb1.size _).trans (hb2.mono (by have := hb1.size; simp; omega))
    have hsz : w.heap.size ≤ w2.heap.size := HB.out.size
    clear hb1 hb2 hB
    rw [HV.out]
    go_wp2_with fail
    refine (eqText_same g x y _).mono ?_
    rintro e w3 ⟨rfl, hb3⟩
    go_wp2
    go_ret
    exact ⟨rfl, (HB.out.alloc hsz _).trans (hb3.mono (by simp; omega))⟩
  · go_enter Try.func5, Try.ntmps5
    go_wp2_with fail
    go_ret
    exact ⟨rfl, Below.refl _ _⟩
end Go.Proofs.Yteimhnklebppkah
