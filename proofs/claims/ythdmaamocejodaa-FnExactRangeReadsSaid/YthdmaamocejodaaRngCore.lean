import Derived.Test.YthdmaamocejodaaLawRng2
import Derived.Test.YthdmaamocejodaaCodeF
namespace Go.Proofs.Ythdmaamocejodaa
open Go.RowKit
set_option maxRecDepth 20000 in
set_option maxHeartbeats 8000000 in
theorem fnExactRangeReads_core (cd : Int) (n : Nat) (f : Nat → Int) (hn : n ≤ 1048576) (k m g u s f0 c0 : Int) (w : World)
    (HS : ∀ w, Calls Try.prog 8 #[cdv k m g, .int .i64 u, .int .i64 s, .int .i64 f0, .int .i64 c0] w fun e w' => AnsRS cd n f w e w')
    (HI : ∀ w, Calls Try.prog 9 #[cdv k m g, .int .i64 u, .int .i64 s, .int .i64 f0, .int .i64 c0] w fun e w' => AnsRI cd n f w e w') :
    Calls Try.prog 4 #[.agg #[.int .i64 k, .int .i64 m, .int .i64 g], .int .i64 u, .int .i64 s, .int .i64 f0, .int .i64 c0] w fun e w' => e = .returned (.bool true) ∧ Below w.heap.size w w' := by
  have HS' := hid HS
  have HI' := hid HI
  obtain ⟨M, hM⟩ : ∃ M : Nat, Hid (M = 1 + 4 * n) := ⟨_, rfl⟩
  have dM : decide ((M : Int) < 0) = false := by simp
  have dE : ((M : Int) != (M : Int)) = false := by simp
  clear HS HI
  go_enter Try.func4, Try.ntmps4
  have L_w : Hid (Below w.heap.size w w) := Below.refl _ _
  obtain ⟨v1, hv1⟩ : ∃ v, v = w.alloc (.cells #[.int .i64 k, .int .i64 m, .int .i64 g] 23) := ⟨_, rfl⟩
  have sz_v1 : v1.heap.size = w.heap.size + 1 := by rw [hv1, size_al]
  have L_v1 : Hid (Below w.heap.size w v1) := by rw [hv1]; exact L_w.out.alloc L_w.out.size _
  have P_v1 : Hid (RowAt v1 w.heap.size 23 #[.int .i64 k, .int .i64 m, .int .i64 g]) := by rw [hv1]; exact RowAt.next w _ _ (by omega)
  have ld0 := P_v1.out
  go_wp2_with (first
    | (rw [← hv1])
    | refine wpList_load_row rfl 23 (.tmp 5) rfl w.heap.size rfl _ _ _ _ ld0 Try.underlying23 rfl (by kernel_rfl) ?_)
  try rw [← hv1]
  clear ld0
  clear hv1 L_w
  refine (toCd k m g _).mono ?_
  rintro e v2 ⟨rfl, hb⟩
  have sz_v2 : v1.heap.size ≤ v2.heap.size := hb.size
  have P_v2 : Hid (RowAt v2 w.heap.size 23 #[.int .i64 k, .int .i64 m, .int .i64 g]) := P_v1.out.below hb P_v1.out.lt
  have L_v2 : Hid (Below w.heap.size w v2) := L_v1.out.trans (hb.mono L_v1.out.size)
  clear hb P_v1 L_v1
  go_wp2_with (fail)
  refine (HS'.out _).mono ?_
  rintro e v3 ⟨a0, x0, rfl, hq, hb⟩
  have sz_v3 : v2.heap.size ≤ v3.heap.size := hb.size
  have P_v3 : Hid (RowAt v3 w.heap.size 23 #[.int .i64 k, .int .i64 m, .int .i64 g]) := P_v2.out.below hb P_v2.out.lt
  have L_v3 : Hid (Below w.heap.size w v3) := L_v2.out.trans (hb.mono L_v2.out.size)
  have Q0_v3 := hid hq
  clear hb hq P_v2 L_v2
  obtain ⟨v4, hv4⟩ : ∃ v, v = v3.alloc (.cells #[.int .i64 cd, .slice a0 n x0] 30) := ⟨_, rfl⟩
  have sz_v4 : v4.heap.size = v3.heap.size + 1 := by rw [hv4, size_al]
  have P_v4 : Hid (RowAt v4 w.heap.size 23 #[.int .i64 k, .int .i64 m, .int .i64 g]) := by rw [hv4]; exact P_v3.out.alloc _
  have Q0_v4 : Hid (RngsB v4 v3.heap.size a0 n x0 f) := by rw [hv4]; exact Q0_v3.out.alloc _
  have L_v4 : Hid (Below w.heap.size w v4) := by rw [hv4]; exact L_v3.out.alloc L_v3.out.size _
  have G0_v4 : Hid (RowAt v4 v3.heap.size 30 #[.int .i64 cd, .slice a0 n x0]) := by rw [hv4]; exact RowAt.next v3 _ _ (by omega)
  have ld0 := P_v4.out
  go_wp2_with (first
    | (rw [← hv4])
    | refine wpList_load_row rfl 23 (.tmp 5) rfl w.heap.size rfl _ _ _ _ ld0 Try.underlying23 rfl (by kernel_rfl) ?_)
  try rw [← hv4]
  clear ld0
  clear hv4 P_v3 Q0_v3 L_v3
  refine (toCd k m g _).mono ?_
  rintro e v5 ⟨rfl, hb⟩
  have sz_v5 : v4.heap.size ≤ v5.heap.size := hb.size
  have P_v5 : Hid (RowAt v5 w.heap.size 23 #[.int .i64 k, .int .i64 m, .int .i64 g]) := P_v4.out.below hb P_v4.out.lt
  have G0_v5 : Hid (RowAt v5 v3.heap.size 30 #[.int .i64 cd, .slice a0 n x0]) := G0_v4.out.below hb G0_v4.out.lt
  have Q0_v5 : Hid (RngsB v5 v3.heap.size a0 n x0 f) := Q0_v4.out.below hb (by omega)
  have L_v5 : Hid (Below w.heap.size w v5) := L_v4.out.trans (hb.mono L_v4.out.size)
  clear hb P_v4 G0_v4 Q0_v4 L_v4
  go_wp2_with (fail)
  refine (HI'.out _).mono ?_
  rintro e v6 ⟨a1, x1, rfl, hq, hb⟩
  have sz_v6 : v5.heap.size ≤ v6.heap.size := hb.size
  have P_v6 : Hid (RowAt v6 w.heap.size 23 #[.int .i64 k, .int .i64 m, .int .i64 g]) := P_v5.out.below hb P_v5.out.lt
  have G0_v6 : Hid (RowAt v6 v3.heap.size 30 #[.int .i64 cd, .slice a0 n x0]) := G0_v5.out.below hb G0_v5.out.lt
  have Q0_v6 : Hid (RngsB v6 v3.heap.size a0 n x0 f) := Q0_v5.out.below hb (by omega)
  have L_v6 : Hid (Below w.heap.size w v6) := L_v5.out.trans (hb.mono L_v5.out.size)
  have O1_v6 := hid hq
  clear hb hq P_v5 G0_v5 Q0_v5 L_v5
  obtain ⟨v7, hv7⟩ : ∃ v, v = v6.alloc (.cells #[.int .i64 cd, .slice a1 n x1] 30) := ⟨_, rfl⟩
  have sz_v7 : v7.heap.size = v6.heap.size + 1 := by rw [hv7, size_al]
  have P_v7 : Hid (RowAt v7 w.heap.size 23 #[.int .i64 k, .int .i64 m, .int .i64 g]) := by rw [hv7]; exact P_v6.out.alloc _
  have G0_v7 : Hid (RowAt v7 v3.heap.size 30 #[.int .i64 cd, .slice a0 n x0]) := by rw [hv7]; exact G0_v6.out.alloc _
  have Q0_v7 : Hid (RngsB v7 v3.heap.size a0 n x0 f) := by rw [hv7]; exact Q0_v6.out.alloc _
  have O1_v7 : Hid (OwnR v7 v5.heap.size v6.heap.size a1 n x1 f) := by rw [hv7]; exact O1_v6.out.alloc _
  have L_v7 : Hid (Below w.heap.size w v7) := by rw [hv7]; exact L_v6.out.alloc L_v6.out.size _
  have G1_v7 : Hid (RowAt v7 v6.heap.size 30 #[.int .i64 cd, .slice a1 n x1]) := by rw [hv7]; exact RowAt.next v6 _ _ (by omega)
  have ld0 := G1_v7.out
  have ld1 := G0_v7.out
  go_wp2_with (first
    | (rw [← hv7])
    | refine wpList_load_row rfl 30 (.tmp 12) rfl v6.heap.size rfl _ _ _ _ ld0 Try.underlying30 rfl (by kernel_rfl) ?_
    | refine wpList_load_row rfl 30 (.tmp 11) rfl v3.heap.size rfl _ _ _ _ ld1 Try.underlying30 rfl (by kernel_rfl) ?_)
  try rw [← hv7]
  clear ld0 ld1
  clear hv7 P_v6 G0_v6 Q0_v6 O1_v6 L_v6
  refine (eqRR cd a1 n x1 a0 x0 f hn _ O1_v7.out.rngs Q0_v7.out.rngs).mono ?_
  rintro e v8 ⟨rfl, hb⟩
  have sz_v8 : v7.heap.size ≤ v8.heap.size := hb.size
  have P_v8 : Hid (RowAt v8 w.heap.size 23 #[.int .i64 k, .int .i64 m, .int .i64 g]) := P_v7.out.below hb P_v7.out.lt
  have G0_v8 : Hid (RowAt v8 v3.heap.size 30 #[.int .i64 cd, .slice a0 n x0]) := G0_v7.out.below hb G0_v7.out.lt
  have G1_v8 : Hid (RowAt v8 v6.heap.size 30 #[.int .i64 cd, .slice a1 n x1]) := G1_v7.out.below hb G1_v7.out.lt
  have Q0_v8 : Hid (RngsB v8 v3.heap.size a0 n x0 f) := Q0_v7.out.below hb (by omega)
  have O1_v8 : Hid (OwnR v8 v5.heap.size v6.heap.size a1 n x1 f) := O1_v7.out.below hb (by omega)
  have L_v8 : Hid (Below w.heap.size w v8) := L_v7.out.trans (hb.mono L_v7.out.size)
  clear hb P_v7 G0_v7 G1_v7 Q0_v7 O1_v7 L_v7
  have ld0 := G1_v8.out
  go_wp2_with (refine wpList_load_row rfl 30 (.tmp 12) rfl v6.heap.size rfl _ _ _ _ ld0 Try.underlying30 rfl (by kernel_rfl) ?_)
  clear ld0
  refine (markRR cd v5.heap.size v6.heap.size a1 n x1 f M hM.out hn _ O1_v8.out).mono ?_
  rintro e v9 ⟨rfl, hq, hb⟩
  have sz_v9 : v8.heap.size ≤ v9.heap.size := hb.size
  have P_v9 : Hid (RowAt v9 w.heap.size 23 #[.int .i64 k, .int .i64 m, .int .i64 g]) := P_v8.out.turned hb (by omega)
  have G0_v9 : Hid (RowAt v9 v3.heap.size 30 #[.int .i64 cd, .slice a0 n x0]) := G0_v8.out.turned hb (by omega)
  have G1_v9 : Hid (RowAt v9 v6.heap.size 30 #[.int .i64 cd, .slice a1 n x1]) := G1_v8.out.turned hb (by omega)
  have Q0_v9 : Hid (RngsB v9 v3.heap.size a0 n x0 f) := Q0_v8.out.turned hb (by omega)
  have L_v9 : Hid (Below w.heap.size w v9) := hb.below L_v8.out (by omega) (by omega)
  have O1_v9 := hid hq
  clear hb hq O1_v8 P_v8 G0_v8 G1_v8 Q0_v8 L_v8
  have ld0 := G1_v9.out
  go_wp2_with (refine wpList_load_row rfl 30 (.tmp 12) rfl v6.heap.size rfl _ _ _ _ ld0 Try.underlying30 rfl (by kernel_rfl) ?_)
  clear ld0
  refine (heldRR cd a1 n x1 M hM.out hn _ O1_v9.out.rngs).mono ?_
  rintro e v10 ⟨rfl, hb⟩
  have sz_v10 : v9.heap.size ≤ v10.heap.size := hb.size
  have P_v10 : Hid (RowAt v10 w.heap.size 23 #[.int .i64 k, .int .i64 m, .int .i64 g]) := P_v9.out.below hb P_v9.out.lt
  have G0_v10 : Hid (RowAt v10 v3.heap.size 30 #[.int .i64 cd, .slice a0 n x0]) := G0_v9.out.below hb G0_v9.out.lt
  have G1_v10 : Hid (RowAt v10 v6.heap.size 30 #[.int .i64 cd, .slice a1 n x1]) := G1_v9.out.below hb G1_v9.out.lt
  have Q0_v10 : Hid (RngsB v10 v3.heap.size a0 n x0 f) := Q0_v9.out.below hb (by omega)
  have O1_v10 : Hid (OwnR v10 v5.heap.size v6.heap.size a1 n x1 (fun p => ((1 + p : Nat) : Int))) := O1_v9.out.below hb (by omega)
  have L_v10 : Hid (Below w.heap.size w v10) := L_v9.out.trans (hb.mono L_v9.out.size)
  clear hb P_v9 G0_v9 G1_v9 Q0_v9 O1_v9 L_v9
  have ld0 := P_v10.out
  go_wp2_with (refine wpList_load_row rfl 23 (.tmp 5) rfl w.heap.size rfl _ _ _ _ ld0 Try.underlying23 rfl (by kernel_rfl) ?_)
  clear ld0
  refine (toCd k m g _).mono ?_
  rintro e v11 ⟨rfl, hb⟩
  have sz_v11 : v10.heap.size ≤ v11.heap.size := hb.size
  have P_v11 : Hid (RowAt v11 w.heap.size 23 #[.int .i64 k, .int .i64 m, .int .i64 g]) := P_v10.out.below hb P_v10.out.lt
  have G0_v11 : Hid (RowAt v11 v3.heap.size 30 #[.int .i64 cd, .slice a0 n x0]) := G0_v10.out.below hb G0_v10.out.lt
  have G1_v11 : Hid (RowAt v11 v6.heap.size 30 #[.int .i64 cd, .slice a1 n x1]) := G1_v10.out.below hb G1_v10.out.lt
  have Q0_v11 : Hid (RngsB v11 v3.heap.size a0 n x0 f) := Q0_v10.out.below hb (by omega)
  have O1_v11 : Hid (OwnR v11 v5.heap.size v6.heap.size a1 n x1 (fun p => ((1 + p : Nat) : Int))) := O1_v10.out.below hb (by omega)
  have L_v11 : Hid (Below w.heap.size w v11) := L_v10.out.trans (hb.mono L_v10.out.size)
  clear hb P_v10 G0_v10 G1_v10 Q0_v10 O1_v10 L_v10
  go_wp2_with (fail)
  refine (HI'.out _).mono ?_
  rintro e v12 ⟨a2, x2, rfl, hq, hb⟩
  have sz_v12 : v11.heap.size ≤ v12.heap.size := hb.size
  have P_v12 : Hid (RowAt v12 w.heap.size 23 #[.int .i64 k, .int .i64 m, .int .i64 g]) := P_v11.out.below hb P_v11.out.lt
  have G0_v12 : Hid (RowAt v12 v3.heap.size 30 #[.int .i64 cd, .slice a0 n x0]) := G0_v11.out.below hb G0_v11.out.lt
  have G1_v12 : Hid (RowAt v12 v6.heap.size 30 #[.int .i64 cd, .slice a1 n x1]) := G1_v11.out.below hb G1_v11.out.lt
  have Q0_v12 : Hid (RngsB v12 v3.heap.size a0 n x0 f) := Q0_v11.out.below hb (by omega)
  have O1_v12 : Hid (OwnR v12 v5.heap.size v6.heap.size a1 n x1 (fun p => ((1 + p : Nat) : Int))) := O1_v11.out.below hb (by omega)
  have L_v12 : Hid (Below w.heap.size w v12) := L_v11.out.trans (hb.mono L_v11.out.size)
  have O2_v12 := hid hq
  clear hb hq P_v11 G0_v11 G1_v11 Q0_v11 O1_v11 L_v11
  obtain ⟨v13, hv13⟩ : ∃ v, v = v12.alloc (.cells #[.int .i64 cd, .slice a2 n x2] 30) := ⟨_, rfl⟩
  have sz_v13 : v13.heap.size = v12.heap.size + 1 := by rw [hv13, size_al]
  have P_v13 : Hid (RowAt v13 w.heap.size 23 #[.int .i64 k, .int .i64 m, .int .i64 g]) := by rw [hv13]; exact P_v12.out.alloc _
  have G0_v13 : Hid (RowAt v13 v3.heap.size 30 #[.int .i64 cd, .slice a0 n x0]) := by rw [hv13]; exact G0_v12.out.alloc _
  have G1_v13 : Hid (RowAt v13 v6.heap.size 30 #[.int .i64 cd, .slice a1 n x1]) := by rw [hv13]; exact G1_v12.out.alloc _
  have Q0_v13 : Hid (RngsB v13 v3.heap.size a0 n x0 f) := by rw [hv13]; exact Q0_v12.out.alloc _
  have O1_v13 : Hid (OwnR v13 v5.heap.size v6.heap.size a1 n x1 (fun p => ((1 + p : Nat) : Int))) := by rw [hv13]; exact O1_v12.out.alloc _
  have O2_v13 : Hid (OwnR v13 v11.heap.size v12.heap.size a2 n x2 f) := by rw [hv13]; exact O2_v12.out.alloc _
  have L_v13 : Hid (Below w.heap.size w v13) := by rw [hv13]; exact L_v12.out.alloc L_v12.out.size _
  have G2_v13 : Hid (RowAt v13 v12.heap.size 30 #[.int .i64 cd, .slice a2 n x2]) := by rw [hv13]; exact RowAt.next v12 _ _ (by omega)
  have ld0 := G2_v13.out
  have ld1 := G0_v13.out
  go_wp2_with (first
    | (rw [← hv13])
    | refine wpList_load_row rfl 30 (.tmp 15) rfl v12.heap.size rfl _ _ _ _ ld0 Try.underlying30 rfl (by kernel_rfl) ?_
    | refine wpList_load_row rfl 30 (.tmp 11) rfl v3.heap.size rfl _ _ _ _ ld1 Try.underlying30 rfl (by kernel_rfl) ?_)
  try rw [← hv13]
  clear ld0 ld1
  clear hv13 P_v12 G0_v12 G1_v12 Q0_v12 O1_v12 O2_v12 L_v12
  refine (eqRR cd a2 n x2 a0 x0 f hn _ O2_v13.out.rngs Q0_v13.out.rngs).mono ?_
  rintro e v14 ⟨rfl, hb⟩
  have sz_v14 : v13.heap.size ≤ v14.heap.size := hb.size
  have P_v14 : Hid (RowAt v14 w.heap.size 23 #[.int .i64 k, .int .i64 m, .int .i64 g]) := P_v13.out.below hb P_v13.out.lt
  have G0_v14 : Hid (RowAt v14 v3.heap.size 30 #[.int .i64 cd, .slice a0 n x0]) := G0_v13.out.below hb G0_v13.out.lt
  have G1_v14 : Hid (RowAt v14 v6.heap.size 30 #[.int .i64 cd, .slice a1 n x1]) := G1_v13.out.below hb G1_v13.out.lt
  have G2_v14 : Hid (RowAt v14 v12.heap.size 30 #[.int .i64 cd, .slice a2 n x2]) := G2_v13.out.below hb G2_v13.out.lt
  have Q0_v14 : Hid (RngsB v14 v3.heap.size a0 n x0 f) := Q0_v13.out.below hb (by omega)
  have O1_v14 : Hid (OwnR v14 v5.heap.size v6.heap.size a1 n x1 (fun p => ((1 + p : Nat) : Int))) := O1_v13.out.below hb (by omega)
  have O2_v14 : Hid (OwnR v14 v11.heap.size v12.heap.size a2 n x2 f) := O2_v13.out.below hb (by omega)
  have L_v14 : Hid (Below w.heap.size w v14) := L_v13.out.trans (hb.mono L_v13.out.size)
  clear hb P_v13 G0_v13 G1_v13 G2_v13 Q0_v13 O1_v13 O2_v13 L_v13
  have ld0 := G1_v14.out
  go_wp2_with (refine wpList_load_row rfl 30 (.tmp 12) rfl v6.heap.size rfl _ _ _ _ ld0 Try.underlying30 rfl (by kernel_rfl) ?_)
  clear ld0
  refine (heldRR cd a1 n x1 M hM.out hn _ O1_v14.out.rngs).mono ?_
  rintro e v15 ⟨rfl, hb⟩
  have sz_v15 : v14.heap.size ≤ v15.heap.size := hb.size
  have P_v15 : Hid (RowAt v15 w.heap.size 23 #[.int .i64 k, .int .i64 m, .int .i64 g]) := P_v14.out.below hb P_v14.out.lt
  have G0_v15 : Hid (RowAt v15 v3.heap.size 30 #[.int .i64 cd, .slice a0 n x0]) := G0_v14.out.below hb G0_v14.out.lt
  have G1_v15 : Hid (RowAt v15 v6.heap.size 30 #[.int .i64 cd, .slice a1 n x1]) := G1_v14.out.below hb G1_v14.out.lt
  have G2_v15 : Hid (RowAt v15 v12.heap.size 30 #[.int .i64 cd, .slice a2 n x2]) := G2_v14.out.below hb G2_v14.out.lt
  have Q0_v15 : Hid (RngsB v15 v3.heap.size a0 n x0 f) := Q0_v14.out.below hb (by omega)
  have O1_v15 : Hid (OwnR v15 v5.heap.size v6.heap.size a1 n x1 (fun p => ((1 + p : Nat) : Int))) := O1_v14.out.below hb (by omega)
  have O2_v15 : Hid (OwnR v15 v11.heap.size v12.heap.size a2 n x2 f) := O2_v14.out.below hb (by omega)
  have L_v15 : Hid (Below w.heap.size w v15) := L_v14.out.trans (hb.mono L_v14.out.size)
  clear hb P_v14 G0_v14 G1_v14 G2_v14 Q0_v14 O1_v14 O2_v14 L_v14
  go_wp2
  go_ret
  exact ⟨rfl, L_v15.out⟩
end Go.Proofs.Ythdmaamocejodaa
