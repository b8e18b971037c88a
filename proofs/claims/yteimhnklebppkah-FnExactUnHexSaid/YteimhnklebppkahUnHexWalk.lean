import Derived.Test.YteimhnklebppkahIUnHex
import Derived.Test.YteimhnklebppkahEqText
namespace Go.Proofs.Yteimhnklebppkah
open Go.RowKit
theorem sunhex_all (s : ByteArray) (hs : s.size ≤ 1048576) (w : World) :
    Calls Try.prog 19 #[.string s] w fun e w' => e = .returned (textV (unhex s)) ∧ Below w.heap.size w w' := by
  by_cases h : s.size % 2 ≠ 0 ∨ 100000 < s.size
  · exact sunhex_no s hs h w
  · exact sunhex_yes s (by omega) (by omega) w
theorem iunhex_all (s : ByteArray) (hs : s.size ≤ 1048576) (w : World) :
    Calls Try.prog 20 #[.string s] w fun e w' => e = .returned (textV (unhex s)) ∧ Below w.heap.size w w' := by
  by_cases h : 100000 < s.size
  · exact iunhex_no s hs h w
  · exact iunhex_yes s (by omega) w
set_option maxHeartbeats 400000 in
theorem fnExactUnHex_walk (s : ByteArray) (hs0 : s.size ≤ maxLen) (w : World) :
    Calls Try.prog 7 #[.string s] w fun e w' => e = .returned (.bool true) ∧ Below w.heap.size w w' := by
  unfold maxLen at hs0
  by_cases hs : s.size ≤ 1048576
  · obtain ⟨g, x, y, hv⟩ := textV_form (unhex s)
    have HV := hid hv
    clear hv
    go_enter Try.func7, Try.ntmps7
    go_wp2_with fail
    refine (sunhex_all s hs _).mono ?_
    rintro e w1 ⟨rfl, hb1⟩
    rw [HV.out]
    go_wp2_with fail
    refine (iunhex_all s hs _).mono ?_
    rintro e w2 ⟨rfl, hb2⟩
    have hz : w1.heap.size < w2.heap.size := by have := hb2.size; simp at this; omega
    have hB : Blk w2 w1.heap.size #[.bool g, .string x, .int .i64 y] 30 := (hb2.block _ (by simp)).trans (Blk.made w1 _ _)
    have q0 := hB.cell 0 _ rfl
    have q1 := hB.cell 1 _ rfl
    have q2 := hB.cell 2 _ rfl
    have HB : Hid (Below w.heap.size w w2) := (hb1.alloc hb1.size _).trans (hb2.mono (by have := hb1.size; simp; omega))
    have hsz : w.heap.size ≤ w2.heap.size := HB.out.size
    clear hb1 hb2 hB
    rw [HV.out]
    go_wp2_with fail
    refine (eqText_same g x y _).mono ?_
    rintro e w3 ⟨rfl, hb3⟩
    go_wp2
    go_ret
    exact ⟨rfl, (HB.out.alloc hsz _).trans (hb3.mono (by simp; omega))⟩
  · go_enter Try.func7, Try.ntmps7
    go_wp2_with fail
    go_ret
    exact ⟨rfl, Below.refl _ _⟩
end Go.Proofs.Yteimhnklebppkah
