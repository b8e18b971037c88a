import Derived.Test.YtjakibhanpmkcaaDoorEncKit
import Derived.Test.YtjakibhanpmkcaaDoorAnsKit
namespace Go.Proofs.YtjakibhanpmkcaaDoor
open Go.RowKit
set_option maxRecDepth 20000 in
set_option maxHeartbeats 8000000 in
theorem fnExactEncodeShards_core (c : Int) (n : Nat) (f : Nat → ByteArray) (hn : n ≤ 64) (k m g : Int) (a : Option Addr) (len cap : Nat) (ts : Nat → ByteArray) (w : World) (hT : Tab w) (h : Strs w a len cap ts) (hz : ∀ i, i < len → (ts i).size ≤ 9223372036854775807) (hsum : len + sumS ts len ≤ 1048576)
    (HS : ∀ b w, FRow w b 9 len (fun i => .string (ts i)) → Calls Tryd.prog 5 #[cdv k m g, .slice (some ⟨b, 0, none⟩) len len] w fun e w' => AnsQ c n f w e w')
    (HI : ∀ b w, Tab w → FRow w b 9 len (fun i => .string (ts i)) → Calls Tryd.prog 8 #[cdv k m g, .slice (some ⟨b, 0, none⟩) len len] w fun e w' => AnsP c n f w e w') :
    Calls Tryd.prog 3 #[.agg #[.int .i64 k, .int .i64 m, .int .i64 g], .slice a len cap] w fun e w' => e = .returned (.bool true) ∧ Below w.heap.size w w' := by
  have HH := hid h
  have HS' := hid HS
  have HI' := hid HI
  have HT := hid hT
  have HZ := hid hz
  have hle : len ≤ 1048576 := by omega
  obtain ⟨D, hD⟩ : ∃ D : Nat, D = 1048576 - (len + sumS ts len) := ⟨_, rfl⟩
  have SZ : Hid (szV len (sumS ts len) = (D : Int)) := by show _ = _; unfold szV; rw [if_pos hsum, hD]; omega
  have dD : decide ((D : Int) < 0) = false := by simp
  obtain ⟨K1, hK1⟩ : ∃ K1 : Nat, Hid (K1 = 1 + len) := ⟨_, rfl⟩
  have dK : decide ((K1 : Int) < 0) = false := by simp
  obtain ⟨M, hM⟩ : ∃ M : Nat, Hid (M = 1 + n) := ⟨_, rfl⟩
  have dM : decide ((M : Int) < 0) = false := by simp
  have dE : ((M : Int) != (M : Int)) = false := by simp
  clear h HS HI hT hz hD hsum
  go_enter Tryd.func3, Tryd.ntmps3
  have L_w : Hid (Below w.heap.size w w) := Below.refl _ _
  obtain ⟨v1, hv1⟩ : ∃ v, v = w.alloc (.cells #[.int .i64 k, .int .i64 m, .int .i64 g] 23) := ⟨_, rfl⟩
  have sz_v1 : v1.heap.size = w.heap.size + 1 := by rw [hv1, size_al]
  have L_v1 : Hid (Below w.heap.size w v1) := by rw [hv1]; exact L_w.out.alloc L_w.out.size _
  have P_v1 : Hid (RowAt v1 w.heap.size 23 #[.int .i64 k, .int .i64 m, .int .i64 g]) := by rw [hv1]; exact RowAt.next w _ _ (by omega)
  go_wp2_with ((rw [← hv1]))
  try rw [← hv1]
  clear hv1 L_w
  refine (szStr a len cap ts (by omega) HZ.out _ (HH.out.below L_v1.out)).mono ?_
  rintro e v2 ⟨rfl, hq⟩
  have hb : Below v1.heap.size v1 v2 := by rw [hq]; exact Below.refl _ _
  have sz_v2 : v1.heap.size ≤ v2.heap.size := hb.size
  have P_v2 : Hid (RowAt v2 w.heap.size 23 #[.int .i64 k, .int .i64 m, .int .i64 g]) := P_v1.out.below hb P_v1.out.lt
  have L_v2 : Hid (Below w.heap.size w v2) := L_v1.out.trans (hb.mono L_v1.out.size)
  clear hb P_v1 L_v1
  rw [SZ.out]
  clear hq
  have ld0 := P_v2.out
  go_wp2_with (refine wpList_load_row rfl 23 (.tmp 2) rfl w.heap.size rfl _ _ _ _ ld0 Tryd.underlying23 rfl (by kernel_rfl) ?_)
  clear ld0
  refine (toCd k m g _).mono ?_
  rintro e v3 ⟨rfl, hb⟩
  have sz_v3 : v2.heap.size ≤ v3.heap.size := hb.size
  have P_v3 : Hid (RowAt v3 w.heap.size 23 #[.int .i64 k, .int .i64 m, .int .i64 g]) := P_v2.out.below hb P_v2.out.lt
  have L_v3 : Hid (Below w.heap.size w v3) := L_v2.out.trans (hb.mono L_v2.out.size)
  clear hb P_v2 L_v2
  go_wp2_with (fail)
  refine (toStr a len cap ts hle _ (HH.out.below L_v3.out)).mono ?_
  rintro e v4 ⟨rfl, hF, hb⟩
  have sz_v4 : v3.heap.size ≤ v4.heap.size := hb.size
  have P_v4 : Hid (RowAt v4 w.heap.size 23 #[.int .i64 k, .int .i64 m, .int .i64 g]) := P_v3.out.below hb P_v3.out.lt
  have L_v4 : Hid (Below w.heap.size w v4) := L_v3.out.trans (hb.mono L_v3.out.size)
  have Y_v4 := hid hF
  have lt_Y : v3.heap.size < v4.heap.size := hF.lt
  clear hb hF P_v3 L_v3
  go_wp2_with (fail)
  refine (HS'.out _ _ Y_v4.out).mono ?_
  rintro e v5 ⟨a0, c0, rfl, hq, hb⟩
  have sz_v5 : v4.heap.size ≤ v5.heap.size := hb.size
  have P_v5 : Hid (RowAt v5 w.heap.size 23 #[.int .i64 k, .int .i64 m, .int .i64 g]) := P_v4.out.below hb P_v4.out.lt
  have Y_v5 : Hid (FRow v5 v3.heap.size 9 len (fun i => .string (ts i))) := Y_v4.out.below hb Y_v4.out.lt
  have L_v5 : Hid (Below w.heap.size w v5) := L_v4.out.trans (hb.mono L_v4.out.size)
  have Q0_v5 := hid hq
  clear hb hq P_v4 Y_v4 L_v4
  clear Y_v5
  obtain ⟨v6, hv6⟩ : ∃ v, v = v5.alloc (.cells #[.int .i64 c, .slice a0 n c0] 27) := ⟨_, rfl⟩
  have sz_v6 : v6.heap.size = v5.heap.size + 1 := by rw [hv6, size_al]
  have P_v6 : Hid (RowAt v6 w.heap.size 23 #[.int .i64 k, .int .i64 m, .int .i64 g]) := by rw [hv6]; exact P_v5.out.alloc _
  have Q0_v6 : Hid (StrsB v6 v5.heap.size a0 n c0 f) := by rw [hv6]; exact Q0_v5.out.alloc _
  have L_v6 : Hid (Below w.heap.size w v6) := by rw [hv6]; exact L_v5.out.alloc L_v5.out.size _
  have G0_v6 : Hid (RowAt v6 v5.heap.size 27 #[.int .i64 c, .slice a0 n c0]) := by rw [hv6]; exact RowAt.next v5 _ _ (by omega)
  go_wp2_with ((rw [← hv6]))
  try rw [← hv6]
  clear hv6 P_v5 Q0_v5 L_v5
  refine (toStr a len cap ts hle _ (HH.out.below L_v6.out)).mono ?_
  rintro e v7 ⟨rfl, hF, hb⟩
  have sz_v7 : v6.heap.size ≤ v7.heap.size := hb.size
  have P_v7 : Hid (RowAt v7 w.heap.size 23 #[.int .i64 k, .int .i64 m, .int .i64 g]) := P_v6.out.below hb P_v6.out.lt
  have G0_v7 : Hid (RowAt v7 v5.heap.size 27 #[.int .i64 c, .slice a0 n c0]) := G0_v6.out.below hb G0_v6.out.lt
  have Q0_v7 : Hid (StrsB v7 v5.heap.size a0 n c0 f) := Q0_v6.out.below hb (by omega)
  have L_v7 : Hid (Below w.heap.size w v7) := L_v6.out.trans (hb.mono L_v6.out.size)
  rw [sz_v6] at hF
  have X_v7 := hid hF
  have lt_X : (v5.heap.size + 1) < v7.heap.size := hF.lt
  clear hb hF P_v6 G0_v6 Q0_v6 L_v6
  have ld0 := P_v7.out
  go_wp2_with (refine wpList_load_row rfl 23 (.tmp 2) rfl w.heap.size rfl _ _ _ _ ld0 Tryd.underlying23 rfl (by kernel_rfl) ?_)
  clear ld0
  refine (toCd k m g _).mono ?_
  rintro e v8 ⟨rfl, hb⟩
  have sz_v8 : v7.heap.size ≤ v8.heap.size := hb.size
  have P_v8 : Hid (RowAt v8 w.heap.size 23 #[.int .i64 k, .int .i64 m, .int .i64 g]) := P_v7.out.below hb P_v7.out.lt
  have G0_v8 : Hid (RowAt v8 v5.heap.size 27 #[.int .i64 c, .slice a0 n c0]) := G0_v7.out.below hb G0_v7.out.lt
  have X_v8 : Hid (FRow v8 (v5.heap.size + 1) 9 len (fun i => .string (ts i))) := X_v7.out.below hb X_v7.out.lt
  have Q0_v8 : Hid (StrsB v8 v5.heap.size a0 n c0 f) := Q0_v7.out.below hb (by omega)
  have L_v8 : Hid (Below w.heap.size w v8) := L_v7.out.trans (hb.mono L_v7.out.size)
  clear hb P_v7 G0_v7 X_v7 Q0_v7 L_v7
  go_wp2_with (fail)
  refine (HI'.out (v5.heap.size + 1) v8 (HT.out.belowS L_v8.out) X_v8.out).mono ?_
  rintro e v9 ⟨a1, rfl, hq, hb⟩
  have sz_v9 : v8.heap.size ≤ v9.heap.size := hb.size
  have P_v9 : Hid (RowAt v9 w.heap.size 23 #[.int .i64 k, .int .i64 m, .int .i64 g]) := P_v8.out.below hb P_v8.out.lt
  have G0_v9 : Hid (RowAt v9 v5.heap.size 27 #[.int .i64 c, .slice a0 n c0]) := G0_v8.out.below hb G0_v8.out.lt
  have X_v9 : Hid (FRow v9 (v5.heap.size + 1) 9 len (fun i => .string (ts i))) := X_v8.out.below hb X_v8.out.lt
  have Q0_v9 : Hid (StrsB v9 v5.heap.size a0 n c0 f) := Q0_v8.out.below hb (by omega)
  have L_v9 : Hid (Below w.heap.size w v9) := L_v8.out.trans (hb.mono L_v8.out.size)
  have O1_v9 := hid hq
  clear hb hq P_v8 G0_v8 X_v8 Q0_v8 L_v8
  obtain ⟨v10, hv10⟩ : ∃ v, v = v9.alloc (.cells #[.int .i64 c, .slice a1 n n] 27) := ⟨_, rfl⟩
  have sz_v10 : v10.heap.size = v9.heap.size + 1 := by rw [hv10, size_al]
  have P_v10 : Hid (RowAt v10 w.heap.size 23 #[.int .i64 k, .int .i64 m, .int .i64 g]) := by rw [hv10]; exact P_v9.out.alloc _
  have G0_v10 : Hid (RowAt v10 v5.heap.size 27 #[.int .i64 c, .slice a0 n c0]) := by rw [hv10]; exact G0_v9.out.alloc _
  have X_v10 : Hid (FRow v10 (v5.heap.size + 1) 9 len (fun i => .string (ts i))) := by rw [hv10]; exact X_v9.out.alloc _
  have Q0_v10 : Hid (StrsB v10 v5.heap.size a0 n c0 f) := by rw [hv10]; exact Q0_v9.out.alloc _
  have O1_v10 : Hid (OwnS v10 v8.heap.size v9.heap.size a1 n f) := by rw [hv10]; exact O1_v9.out.alloc _
  have L_v10 : Hid (Below w.heap.size w v10) := by rw [hv10]; exact L_v9.out.alloc L_v9.out.size _
  have G1_v10 : Hid (RowAt v10 v9.heap.size 27 #[.int .i64 c, .slice a1 n n]) := by rw [hv10]; exact RowAt.next v9 _ _ (by omega)
  have ld0 := G1_v10.out
  have ld1 := G0_v10.out
  go_wp2_with (first
    | (rw [← hv10])
    | refine wpList_load_row rfl 27 (.tmp 8) rfl v9.heap.size rfl _ _ _ _ ld0 Tryd.underlying27 rfl (by kernel_rfl) ?_
    | refine wpList_load_row rfl 27 (.tmp 6) rfl v5.heap.size rfl _ _ _ _ ld1 Tryd.underlying27 rfl (by kernel_rfl) ?_)
  try rw [← hv10]
  clear ld0 ld1
  clear hv10 P_v9 G0_v9 X_v9 Q0_v9 O1_v9 L_v9
  refine (eqSR c a1 n n a0 c0 f f (by omega) (fun _ _ => rfl) _ O1_v10.out.strs Q0_v10.out.strs).mono ?_
  rintro e v11 ⟨rfl, hb⟩
  have sz_v11 : v10.heap.size ≤ v11.heap.size := hb.size
  have P_v11 : Hid (RowAt v11 w.heap.size 23 #[.int .i64 k, .int .i64 m, .int .i64 g]) := P_v10.out.below hb P_v10.out.lt
  have G0_v11 : Hid (RowAt v11 v5.heap.size 27 #[.int .i64 c, .slice a0 n c0]) := G0_v10.out.below hb G0_v10.out.lt
  have X_v11 : Hid (FRow v11 (v5.heap.size + 1) 9 len (fun i => .string (ts i))) := X_v10.out.below hb X_v10.out.lt
  have G1_v11 : Hid (RowAt v11 v9.heap.size 27 #[.int .i64 c, .slice a1 n n]) := G1_v10.out.below hb G1_v10.out.lt
  have Q0_v11 : Hid (StrsB v11 v5.heap.size a0 n c0 f) := Q0_v10.out.below hb (by omega)
  have O1_v11 : Hid (OwnS v11 v8.heap.size v9.heap.size a1 n f) := O1_v10.out.below hb (by omega)
  have L_v11 : Hid (Below w.heap.size w v11) := L_v10.out.trans (hb.mono L_v10.out.size)
  clear hb P_v10 G0_v10 X_v10 G1_v10 Q0_v10 O1_v10 L_v10
  go_wp2_with (fail)
  refine (toStr a len cap ts hle _ (HH.out.below L_v11.out)).mono ?_
  rintro e v12 ⟨rfl, hF, hb⟩
  have sz_v12 : v11.heap.size ≤ v12.heap.size := hb.size
  have P_v12 : Hid (RowAt v12 w.heap.size 23 #[.int .i64 k, .int .i64 m, .int .i64 g]) := P_v11.out.below hb P_v11.out.lt
  have G0_v12 : Hid (RowAt v12 v5.heap.size 27 #[.int .i64 c, .slice a0 n c0]) := G0_v11.out.below hb G0_v11.out.lt
  have X_v12 : Hid (FRow v12 (v5.heap.size + 1) 9 len (fun i => .string (ts i))) := X_v11.out.below hb X_v11.out.lt
  have G1_v12 : Hid (RowAt v12 v9.heap.size 27 #[.int .i64 c, .slice a1 n n]) := G1_v11.out.below hb G1_v11.out.lt
  have Q0_v12 : Hid (StrsB v12 v5.heap.size a0 n c0 f) := Q0_v11.out.below hb (by omega)
  have O1_v12 : Hid (OwnS v12 v8.heap.size v9.heap.size a1 n f) := O1_v11.out.below hb (by omega)
  have L_v12 : Hid (Below w.heap.size w v12) := L_v11.out.trans (hb.mono L_v11.out.size)
  have Y_v12 := hid hF
  have lt_Y : v11.heap.size < v12.heap.size := hF.lt
  clear hb hF P_v11 G0_v11 X_v11 G1_v11 Q0_v11 O1_v11 L_v11
  go_wp2_with (fail)
  refine (eqStr (some ⟨(v5.heap.size + 1), 0, none⟩) len len (some ⟨v11.heap.size, 0, none⟩) len ts ts hle (fun _ _ => rfl) _ X_v12.out.strs Y_v12.out.strs).mono ?_
  rintro e v13 ⟨rfl, q, hq⟩
  have hb : Below v12.heap.size v12 v13 := by rw [hq]; exact below_drewN9 (Below.refl _ _) q
  have sz_v13 : v12.heap.size ≤ v13.heap.size := hb.size
  have P_v13 : Hid (RowAt v13 w.heap.size 23 #[.int .i64 k, .int .i64 m, .int .i64 g]) := P_v12.out.below hb P_v12.out.lt
  have G0_v13 : Hid (RowAt v13 v5.heap.size 27 #[.int .i64 c, .slice a0 n c0]) := G0_v12.out.below hb G0_v12.out.lt
  have X_v13 : Hid (FRow v13 (v5.heap.size + 1) 9 len (fun i => .string (ts i))) := X_v12.out.below hb X_v12.out.lt
  have G1_v13 : Hid (RowAt v13 v9.heap.size 27 #[.int .i64 c, .slice a1 n n]) := G1_v12.out.below hb G1_v12.out.lt
  have Y_v13 : Hid (FRow v13 v11.heap.size 9 len (fun i => .string (ts i))) := Y_v12.out.below hb Y_v12.out.lt
  have Q0_v13 : Hid (StrsB v13 v5.heap.size a0 n c0 f) := Q0_v12.out.below hb (by omega)
  have O1_v13 : Hid (OwnS v13 v8.heap.size v9.heap.size a1 n f) := O1_v12.out.below hb (by omega)
  have L_v13 : Hid (Below w.heap.size w v13) := L_v12.out.trans (hb.mono L_v12.out.size)
  clear hb P_v12 G0_v12 X_v12 G1_v12 Y_v12 Q0_v12 O1_v12 L_v12
  clear hq
  clear Y_v13
  go_wp2_with (fail)
  refine (markStr (v5.heap.size + 1) len 1 9 _ (by decide) hle (by decide) _ X_v13.out).mono ?_
  rintro e v14 ⟨rfl, hF, hg⟩
  have hb : Turned (v5.heap.size + 1) ((v5.heap.size + 1) + 1) v13 v14 := Turned.of_grown hg (Nat.le_refl _) (Nat.lt_succ_self _)
  have sz_v14 : v13.heap.size ≤ v14.heap.size := hb.size
  have P_v14 : Hid (RowAt v14 w.heap.size 23 #[.int .i64 k, .int .i64 m, .int .i64 g]) := P_v13.out.turned hb (by omega)
  have G0_v14 : Hid (RowAt v14 v5.heap.size 27 #[.int .i64 c, .slice a0 n c0]) := G0_v13.out.turned hb (by omega)
  have G1_v14 : Hid (RowAt v14 v9.heap.size 27 #[.int .i64 c, .slice a1 n n]) := G1_v13.out.turned hb (by omega)
  have Q0_v14 : Hid (StrsB v14 v5.heap.size a0 n c0 f) := Q0_v13.out.turned hb (by omega)
  have O1_v14 : Hid (OwnS v14 v8.heap.size v9.heap.size a1 n f) := O1_v13.out.turned hb (by omega)
  have L_v14 : Hid (Below w.heap.size w v14) := hb.below L_v13.out (by omega) (by omega)
  clear hb hF hg X_v13 P_v13 G0_v13 G1_v13 Q0_v13 O1_v13 L_v13
  rw [← hK1.out]
  have gg0 := G1_v14.out.cell 0
  have gh0 := G0_v14.out.cell 0
  have gg1 := G1_v14.out.cell 1
  have gh1 := G0_v14.out.cell 1
  go_wp2_with (fail)
  clear gg0 gh0 gg1 gh1
  refine (eqSR c a1 n n a0 c0 f f (by omega) (fun _ _ => rfl) _ O1_v14.out.strs Q0_v14.out.strs).mono ?_
  rintro e v15 ⟨rfl, hb⟩
  have sz_v15 : v14.heap.size ≤ v15.heap.size := hb.size
  have P_v15 : Hid (RowAt v15 w.heap.size 23 #[.int .i64 k, .int .i64 m, .int .i64 g]) := P_v14.out.below hb P_v14.out.lt
  have G0_v15 : Hid (RowAt v15 v5.heap.size 27 #[.int .i64 c, .slice a0 n c0]) := G0_v14.out.below hb G0_v14.out.lt
  have G1_v15 : Hid (RowAt v15 v9.heap.size 27 #[.int .i64 c, .slice a1 n n]) := G1_v14.out.below hb G1_v14.out.lt
  have Q0_v15 : Hid (StrsB v15 v5.heap.size a0 n c0 f) := Q0_v14.out.below hb (by omega)
  have O1_v15 : Hid (OwnS v15 v8.heap.size v9.heap.size a1 n f) := O1_v14.out.below hb (by omega)
  have L_v15 : Hid (Below w.heap.size w v15) := L_v14.out.trans (hb.mono L_v14.out.size)
  clear hb P_v14 G0_v14 G1_v14 Q0_v14 O1_v14 L_v14
  have ld0 := G1_v15.out
  go_wp2_with (refine wpList_load_row rfl 27 (.tmp 8) rfl v9.heap.size rfl _ _ _ _ ld0 Tryd.underlying27 rfl (by kernel_rfl) ?_)
  clear ld0
  refine (markP c v8.heap.size v9.heap.size a1 n f M hM.out hn _ O1_v15.out).mono ?_
  rintro e v16 ⟨rfl, hq, hb⟩
  have sz_v16 : v15.heap.size ≤ v16.heap.size := hb.size
  have P_v16 : Hid (RowAt v16 w.heap.size 23 #[.int .i64 k, .int .i64 m, .int .i64 g]) := P_v15.out.turned hb (by omega)
  have G0_v16 : Hid (RowAt v16 v5.heap.size 27 #[.int .i64 c, .slice a0 n c0]) := G0_v15.out.turned hb (by omega)
  have G1_v16 : Hid (RowAt v16 v9.heap.size 27 #[.int .i64 c, .slice a1 n n]) := G1_v15.out.turned hb (by omega)
  have Q0_v16 : Hid (StrsB v16 v5.heap.size a0 n c0 f) := Q0_v15.out.turned hb (by omega)
  have L_v16 : Hid (Below w.heap.size w v16) := hb.below L_v15.out (by omega) (by omega)
  have O1_v16 := hid hq
  clear hb hq O1_v15 P_v15 G0_v15 G1_v15 Q0_v15 L_v15
  have ld0 := G1_v16.out
  go_wp2_with (refine wpList_load_row rfl 27 (.tmp 8) rfl v9.heap.size rfl _ _ _ _ ld0 Tryd.underlying27 rfl (by kernel_rfl) ?_)
  clear ld0
  refine (heldSR c a1 n n M hM.out (by omega) _ O1_v16.out.strs).mono ?_
  rintro e v17 ⟨rfl, hb⟩
  have sz_v17 : v16.heap.size ≤ v17.heap.size := hb.size
  have P_v17 : Hid (RowAt v17 w.heap.size 23 #[.int .i64 k, .int .i64 m, .int .i64 g]) := P_v16.out.below hb P_v16.out.lt
  have G0_v17 : Hid (RowAt v17 v5.heap.size 27 #[.int .i64 c, .slice a0 n c0]) := G0_v16.out.below hb G0_v16.out.lt
  have G1_v17 : Hid (RowAt v17 v9.heap.size 27 #[.int .i64 c, .slice a1 n n]) := G1_v16.out.below hb G1_v16.out.lt
  have Q0_v17 : Hid (StrsB v17 v5.heap.size a0 n c0 f) := Q0_v16.out.below hb (by omega)
  have O1_v17 : Hid (OwnS v17 v8.heap.size v9.heap.size a1 n (fun i => markB (1 + i))) := O1_v16.out.below hb (by omega)
  have L_v17 : Hid (Below w.heap.size w v17) := L_v16.out.trans (hb.mono L_v16.out.size)
  clear hb P_v16 G0_v16 G1_v16 Q0_v16 O1_v16 L_v16
  have ld0 := P_v17.out
  go_wp2_with (refine wpList_load_row rfl 23 (.tmp 2) rfl w.heap.size rfl _ _ _ _ ld0 Tryd.underlying23 rfl (by kernel_rfl) ?_)
  clear ld0
  refine (toCd k m g _).mono ?_
  rintro e v18 ⟨rfl, hb⟩
  have sz_v18 : v17.heap.size ≤ v18.heap.size := hb.size
  have P_v18 : Hid (RowAt v18 w.heap.size 23 #[.int .i64 k, .int .i64 m, .int .i64 g]) := P_v17.out.below hb P_v17.out.lt
  have G0_v18 : Hid (RowAt v18 v5.heap.size 27 #[.int .i64 c, .slice a0 n c0]) := G0_v17.out.below hb G0_v17.out.lt
  have G1_v18 : Hid (RowAt v18 v9.heap.size 27 #[.int .i64 c, .slice a1 n n]) := G1_v17.out.below hb G1_v17.out.lt
  have Q0_v18 : Hid (StrsB v18 v5.heap.size a0 n c0 f) := Q0_v17.out.below hb (by omega)
  have O1_v18 : Hid (OwnS v18 v8.heap.size v9.heap.size a1 n (fun i => markB (1 + i))) := O1_v17.out.below hb (by omega)
  have L_v18 : Hid (Below w.heap.size w v18) := L_v17.out.trans (hb.mono L_v17.out.size)
  clear hb P_v17 G0_v17 G1_v17 Q0_v17 O1_v17 L_v17
  go_wp2_with (fail)
  refine (toStr a len cap ts hle _ (HH.out.below L_v18.out)).mono ?_
  rintro e v19 ⟨rfl, hF, hb⟩
  have sz_v19 : v18.heap.size ≤ v19.heap.size := hb.size
  have P_v19 : Hid (RowAt v19 w.heap.size 23 #[.int .i64 k, .int .i64 m, .int .i64 g]) := P_v18.out.below hb P_v18.out.lt
  have G0_v19 : Hid (RowAt v19 v5.heap.size 27 #[.int .i64 c, .slice a0 n c0]) := G0_v18.out.below hb G0_v18.out.lt
  have G1_v19 : Hid (RowAt v19 v9.heap.size 27 #[.int .i64 c, .slice a1 n n]) := G1_v18.out.below hb G1_v18.out.lt
  have Q0_v19 : Hid (StrsB v19 v5.heap.size a0 n c0 f) := Q0_v18.out.below hb (by omega)
  have O1_v19 : Hid (OwnS v19 v8.heap.size v9.heap.size a1 n (fun i => markB (1 + i))) := O1_v18.out.below hb (by omega)
  have L_v19 : Hid (Below w.heap.size w v19) := L_v18.out.trans (hb.mono L_v18.out.size)
  have Y_v19 := hid hF
  have lt_Y : v18.heap.size < v19.heap.size := hF.lt
  clear hb hF P_v18 G0_v18 G1_v18 Q0_v18 O1_v18 L_v18
  go_wp2_with (fail)
  refine (HI'.out v18.heap.size v19 (HT.out.belowS L_v19.out) Y_v19.out).mono ?_
  rintro e v20 ⟨a2, rfl, hq, hb⟩
  have sz_v20 : v19.heap.size ≤ v20.heap.size := hb.size
  have P_v20 : Hid (RowAt v20 w.heap.size 23 #[.int .i64 k, .int .i64 m, .int .i64 g]) := P_v19.out.below hb P_v19.out.lt
  have G0_v20 : Hid (RowAt v20 v5.heap.size 27 #[.int .i64 c, .slice a0 n c0]) := G0_v19.out.below hb G0_v19.out.lt
  have G1_v20 : Hid (RowAt v20 v9.heap.size 27 #[.int .i64 c, .slice a1 n n]) := G1_v19.out.below hb G1_v19.out.lt
  have Y_v20 : Hid (FRow v20 v18.heap.size 9 len (fun i => .string (ts i))) := Y_v19.out.below hb Y_v19.out.lt
  have Q0_v20 : Hid (StrsB v20 v5.heap.size a0 n c0 f) := Q0_v19.out.below hb (by omega)
  have O1_v20 : Hid (OwnS v20 v8.heap.size v9.heap.size a1 n (fun i => markB (1 + i))) := O1_v19.out.below hb (by omega)
  have L_v20 : Hid (Below w.heap.size w v20) := L_v19.out.trans (hb.mono L_v19.out.size)
  have O2_v20 := hid hq
  clear hb hq P_v19 G0_v19 G1_v19 Y_v19 Q0_v19 O1_v19 L_v19
  clear Y_v20
  obtain ⟨v21, hv21⟩ : ∃ v, v = v20.alloc (.cells #[.int .i64 c, .slice a2 n n] 27) := ⟨_, rfl⟩
  have sz_v21 : v21.heap.size = v20.heap.size + 1 := by rw [hv21, size_al]
  have P_v21 : Hid (RowAt v21 w.heap.size 23 #[.int .i64 k, .int .i64 m, .int .i64 g]) := by rw [hv21]; exact P_v20.out.alloc _
  have G0_v21 : Hid (RowAt v21 v5.heap.size 27 #[.int .i64 c, .slice a0 n c0]) := by rw [hv21]; exact G0_v20.out.alloc _
  have G1_v21 : Hid (RowAt v21 v9.heap.size 27 #[.int .i64 c, .slice a1 n n]) := by rw [hv21]; exact G1_v20.out.alloc _
  have Q0_v21 : Hid (StrsB v21 v5.heap.size a0 n c0 f) := by rw [hv21]; exact Q0_v20.out.alloc _
  have O1_v21 : Hid (OwnS v21 v8.heap.size v9.heap.size a1 n (fun i => markB (1 + i))) := by rw [hv21]; exact O1_v20.out.alloc _
  have O2_v21 : Hid (OwnS v21 v19.heap.size v20.heap.size a2 n f) := by rw [hv21]; exact O2_v20.out.alloc _
  have L_v21 : Hid (Below w.heap.size w v21) := by rw [hv21]; exact L_v20.out.alloc L_v20.out.size _
  have G2_v21 : Hid (RowAt v21 v20.heap.size 27 #[.int .i64 c, .slice a2 n n]) := by rw [hv21]; exact RowAt.next v20 _ _ (by omega)
  have ld0 := G2_v21.out
  have ld1 := G0_v21.out
  go_wp2_with (first
    | (rw [← hv21])
    | refine wpList_load_row rfl 27 (.tmp 12) rfl v20.heap.size rfl _ _ _ _ ld0 Tryd.underlying27 rfl (by kernel_rfl) ?_
    | refine wpList_load_row rfl 27 (.tmp 6) rfl v5.heap.size rfl _ _ _ _ ld1 Tryd.underlying27 rfl (by kernel_rfl) ?_)
  try rw [← hv21]
  clear ld0 ld1
  clear hv21 P_v20 G0_v20 G1_v20 Q0_v20 O1_v20 O2_v20 L_v20
  refine (eqSR c a2 n n a0 c0 f f (by omega) (fun _ _ => rfl) _ O2_v21.out.strs Q0_v21.out.strs).mono ?_
  rintro e v22 ⟨rfl, hb⟩
  have sz_v22 : v21.heap.size ≤ v22.heap.size := hb.size
  have P_v22 : Hid (RowAt v22 w.heap.size 23 #[.int .i64 k, .int .i64 m, .int .i64 g]) := P_v21.out.below hb P_v21.out.lt
  have G0_v22 : Hid (RowAt v22 v5.heap.size 27 #[.int .i64 c, .slice a0 n c0]) := G0_v21.out.below hb G0_v21.out.lt
  have G1_v22 : Hid (RowAt v22 v9.heap.size 27 #[.int .i64 c, .slice a1 n n]) := G1_v21.out.below hb G1_v21.out.lt
  have G2_v22 : Hid (RowAt v22 v20.heap.size 27 #[.int .i64 c, .slice a2 n n]) := G2_v21.out.below hb G2_v21.out.lt
  have Q0_v22 : Hid (StrsB v22 v5.heap.size a0 n c0 f) := Q0_v21.out.below hb (by omega)
  have O1_v22 : Hid (OwnS v22 v8.heap.size v9.heap.size a1 n (fun i => markB (1 + i))) := O1_v21.out.below hb (by omega)
  have O2_v22 : Hid (OwnS v22 v19.heap.size v20.heap.size a2 n f) := O2_v21.out.below hb (by omega)
  have L_v22 : Hid (Below w.heap.size w v22) := L_v21.out.trans (hb.mono L_v21.out.size)
  clear hb P_v21 G0_v21 G1_v21 G2_v21 Q0_v21 O1_v21 O2_v21 L_v21
  have ld0 := G1_v22.out
  go_wp2_with (refine wpList_load_row rfl 27 (.tmp 8) rfl v9.heap.size rfl _ _ _ _ ld0 Tryd.underlying27 rfl (by kernel_rfl) ?_)
  clear ld0
  refine (heldSR c a1 n n M hM.out (by omega) _ O1_v22.out.strs).mono ?_
  rintro e v23 ⟨rfl, hb⟩
  have sz_v23 : v22.heap.size ≤ v23.heap.size := hb.size
  have P_v23 : Hid (RowAt v23 w.heap.size 23 #[.int .i64 k, .int .i64 m, .int .i64 g]) := P_v22.out.below hb P_v22.out.lt
  have G0_v23 : Hid (RowAt v23 v5.heap.size 27 #[.int .i64 c, .slice a0 n c0]) := G0_v22.out.below hb G0_v22.out.lt
  have G1_v23 : Hid (RowAt v23 v9.heap.size 27 #[.int .i64 c, .slice a1 n n]) := G1_v22.out.below hb G1_v22.out.lt
  have G2_v23 : Hid (RowAt v23 v20.heap.size 27 #[.int .i64 c, .slice a2 n n]) := G2_v22.out.below hb G2_v22.out.lt
  have Q0_v23 : Hid (StrsB v23 v5.heap.size a0 n c0 f) := Q0_v22.out.below hb (by omega)
  have O1_v23 : Hid (OwnS v23 v8.heap.size v9.heap.size a1 n (fun i => markB (1 + i))) := O1_v22.out.below hb (by omega)
  have O2_v23 : Hid (OwnS v23 v19.heap.size v20.heap.size a2 n f) := O2_v22.out.below hb (by omega)
  have L_v23 : Hid (Below w.heap.size w v23) := L_v22.out.trans (hb.mono L_v22.out.size)
  clear hb P_v22 G0_v22 G1_v22 G2_v22 Q0_v22 O1_v22 O2_v22 L_v22
  go_wp2
  go_ret
  exact ⟨rfl, L_v23.out⟩
end Go.Proofs.YtjakibhanpmkcaaDoor
