import Derived.Test.YtcbmgpdpjagaoaaGreatMgI
import Derived.Test.YtcbmgpdpjagaoaaGreatG5
import Derived.BigQuiet
namespace Go.Proofs.YtcbmgpdpjagaoaaGreat
open Go.RowKit
set_option linter.unusedVariables false
set_option maxRecDepth 20000 in
set_option maxHeartbeats 2000000 in
theorem iLets (s : Nat) (key : ByteArray) (e : En) (w : World) (h : RA w s 90 #[.string key]) :
 Calls Tryz.prog 55 #[.pointer (some ⟨s, 0, none⟩), .agg #[.string e.ky, .int .i64 e.sq, .bool e.gn, .string e.tx]] w fun r w' => r = .returned (.bool (if e.ky = key then false else !e.gn)) ∧ RA w' s 90 #[.string (if e.ky = key then key else e.ky)] ∧ w.grownBy w' (some s) := by
 obtain ⟨ky, sq, gn, tx⟩ := e; dsimp only; obtain ⟨W1, hW1⟩ : ∃ W, W = w.alloc (.cells #[.string ky, .int .i64 sq, .bool gn, .string tx] 46) := ⟨_, rfl⟩; have R1 : Hid (RA W1 w.heap.size 46 #[.string ky, .int .i64 sq, .bool gn, .string tx]) := by rw [hW1]; exact RA.new _ _ _
 have S1 : Hid (RA W1 s 90 #[.string key]) := by rw [hW1]; exact h.alloc _
 have G1 : Hid (w.grownBy W1 (some s)) := by rw [hW1]; exact World.grownBy_alloc _ _ _
 have sl : s < w.heap.size := h.lt; clear h; have x0 := R1.out.cell 0; have y0 := S1.out.cell 0
 by_cases hk : ky = key
 · subst hk
   have d0 : (ky.toList == ky.toList) = true := by simp
   rw [if_pos rfl, if_pos rfl]
   go_enter Tryz.func55, Tryz.ntmps55
   go_upto_region 1 with fail
   rw [← hW1]; clear hW1
   go_quiet (fail)
   have S2 := hid (S1.out.drewN nq); have G2 := hid (grown_trans G1.out (grown_drewN W1 nq (some s)))
   go_wp2
   go_ret
   exact ⟨rfl, S2.out, G2.out⟩
 · have d0 : (ky.toList == key.toList) = false := by rw [kEq]; exact decide_eq_false hk
   rw [if_neg hk, if_neg hk]
   go_enter Tryz.func55, Tryz.ntmps55
   go_upto_region 1 with fail
   rw [← hW1]; clear hW1
   go_quiet (fail)
   obtain ⟨W2, hW2⟩ : ∃ W, W = W1.drewN nq := ⟨_, rfl⟩; have S2 : Hid (RA W2 s 90 #[.string key]) := by rw [hW2]; exact S1.out.drewN nq
   have R2 : Hid (RA W2 w.heap.size 46 #[.string ky, .int .i64 sq, .bool gn, .string tx]) := by rw [hW2]; exact R1.out.drewN nq
   have G2 : Hid (w.grownBy W2 (some s)) := by rw [hW2]; exact grown_trans G1.out (grown_drewN W1 nq (some s))
   rw [← hW2]; clear hW2 x0 y0; have a0 := R2.out.cell 0; have b0 := S2.out.cell 0; have b1 := S2.out.free 0; have S3 : Hid (RA (W2.setCell ⟨s, 0, none⟩ (.string ky)) s 90 #[.string ky]) := S2.out.set 0 _; have a2 := (R2.out.other ⟨s, 0, none⟩ (.string ky) (by show w.heap.size ≠ s; omega)).cell 2; have G3 : Hid (w.grownBy (W2.setCell ⟨s, 0, none⟩ (.string ky)) (some s)) := grown_trans G2.out (grown_setCellQ _ _ _ _)
   go_wp2
   go_ret
   exact ⟨rfl, S3.out, G3.out⟩
end Go.Proofs.YtcbmgpdpjagaoaaGreat
