import Derived.Test.YtjeahllaajpddabPlAns
namespace Go.Proofs.Ytjeahllaajpddab
open Go.RowKit
theorem FRow.turned {w w' : World} {b lo hi n : Nat} {t : TypeId} {f : Nat → Value} (h : FRow w b t n f) (hg : Turned lo hi w w') (hn : b < lo ∨ hi ≤ b) : FRow w' b t n f := by
  obtain ⟨cs, h1, h2, h3⟩ := h; exact ⟨cs, h1.turned hg hn, h2, h3⟩
theorem size_alP (w : World) (o : Obj) : (w.alloc o).heap.size = w.heap.size + 1 := by simp
set_option maxRecDepth 20000 in
set_option maxHeartbeats 8000000 in
theorem fnExactPlaceKey_core (a : Option Addr) (n cap : Nat) (x y : Nat → Int) (hn : n ≤ 9223372036854775807) (key : ByteArray) (hkm : key.size ≤ 9223372036854775807) (m : Int) (w : World) (h : Prs w a n cap x y) :
    Calls Try.prog 4 #[.slice a n cap, .string key, .int .i64 m] w fun e w' => e = .returned (.bool true) ∧ Below w.heap.size w w' := by
  have HH := hid h
  clear h
  have SZ := hid (szNd a n cap hn w)
  by_cases hk : 1048576 < key.size
  · have d0 : (1048576 : Int) < ((key.size : Nat) : Int) := by omega
    go_enter Try.func4, Try.ntmps4
    go_wp2
    go_ret
    exact ⟨rfl, Below.refl _ _⟩
  have d0 : ¬ (1048576 : Int) < ((key.size : Nat) : Int) := by omega
  by_cases hl : n ≤ 1048576
  case neg =>
    rw [if_neg hl] at SZ
    go_enter Try.func4, Try.ntmps4
    go_wp2_with fail
    refine SZ.out.mono ?_
    rintro e w1 ⟨rfl, rfl⟩
    go_wp2
    go_ret
    exact ⟨rfl, Below.refl _ _⟩
  rw [if_pos hl] at SZ
  have d1 : ¬ (1048576 : Int) - (n : Int) < 0 := by omega
  have hXL := plL_len key n x y m
  have HSP := hid (fun (b : Nat) (w : World) (h : Prs w (some ⟨b, 0, none⟩) n n x y) => sAnsPl _ n n x y hl key (by omega) m w h)
  have HIP := hid (fun (b : Nat) (w : World) (h : Prs w (some ⟨b, 0, none⟩) n n x y) => iAnsPl _ n n x y hl key (by omega) m w h)
  obtain ⟨C, hC⟩ : ∃ C, C = plC key n x y m := ⟨_, rfl⟩
  obtain ⟨us, hU⟩ : ∃ us, us = plL key n x y m := ⟨_, rfl⟩
  rw [← hC, ← hU] at HSP HIP
  rw [← hU] at hXL
  clear hC hU
  have hyl : us.length ≤ 1048576 := by omega
  go_enter Try.func4, Try.ntmps4
  have L_w : Hid (Below w.heap.size w w) := Below.refl _ _
  go_wp2_with fail
  refine SZ.out.mono ?_
  rintro e w1 ⟨rfl, h1⟩
  have h1s := h1.symm
  subst h1s
  go_wp2_with fail
  refine (toNds a n cap x y hl _ (HH.out.below L_w.out)).mono ?_
  rintro e v1 ⟨rfl, hF, hb⟩
  have sz_v1 : w.heap.size ≤ v1.heap.size := hb.size
  have L_v1 : Hid (Below w.heap.size w v1) := L_w.out.trans (hb.mono L_w.out.size)
  have F0_v1 := hid hF
  have bndF0 := hF.lt
  clear hb hF L_w
  go_wp2_with fail
  refine (HSP.out _ _ F0_v1.out.prs).mono ?_
  rintro e v2 ⟨a0, c0, rfl, ho, hb⟩
  have sz_v2 : v1.heap.size ≤ v2.heap.size := hb.size
  have F0_v2 : Hid (FRow v2 w.heap.size 44 (n * 2) (prF x y)) := F0_v1.out.below hb F0_v1.out.lt
  have L_v2 : Hid (Below w.heap.size w v2) := L_v1.out.trans (hb.mono L_v1.out.size)
  have O0_v2 := hid (Own.of ho)
  clear hb ho F0_v1 L_v1
  obtain ⟨v3, hv3⟩ : ∃ v, v = v2.alloc (.cells #[.int .i64 C, .slice a0 us.length c0] 31) := ⟨_, rfl⟩
  have sz_v3 : v3.heap.size = v2.heap.size + 1 := by rw [hv3, size_al]
  have O0_v3 : Hid (Own v3 v1.heap.size v2.heap.size a0 us.length c0 us) := by rw [hv3]; exact O0_v2.out.alloc _
  have L_v3 : Hid (Below w.heap.size w v3) := by rw [hv3]; exact L_v2.out.alloc L_v2.out.size _
  have G0_v3 : Hid (RowAt v3 v2.heap.size 31 #[.int .i64 C, .slice a0 us.length c0]) := by rw [hv3]; exact RowAt.next v2 _ _ (by omega)
  go_wp2_with (rw [← hv3])
  try rw [← hv3]
  clear hv3 O0_v2 L_v2
  refine (toNds a n cap x y hl _ (HH.out.below L_v3.out)).mono ?_
  rintro e v4 ⟨rfl, hF, hb⟩
  have sz_v4 : v3.heap.size ≤ v4.heap.size := hb.size
  have G0_v4 : Hid (RowAt v4 v2.heap.size 31 #[.int .i64 C, .slice a0 us.length c0]) := G0_v3.out.below hb G0_v3.out.lt
  have O0_v4 : Hid (Own v4 v1.heap.size v2.heap.size a0 us.length c0 us) := O0_v3.out.below hb (by omega)
  have L_v4 : Hid (Below w.heap.size w v4) := L_v3.out.trans (hb.mono L_v3.out.size)
  rw [sz_v3] at hF
  have X0_v4 := hid hF
  have bndX := hF.lt
  clear hb hF G0_v3 O0_v3 L_v3
  go_wp2_with fail
  refine (HIP.out _ _ X0_v4.out.prs).mono ?_
  rintro e v5 ⟨a1, c1, rfl, ho, hb⟩
  have sz_v5 : v4.heap.size ≤ v5.heap.size := hb.size
  have G0_v5 : Hid (RowAt v5 v2.heap.size 31 #[.int .i64 C, .slice a0 us.length c0]) := G0_v4.out.below hb G0_v4.out.lt
  have X0_v5 : Hid (FRow v5 (v2.heap.size + 1) 44 (n * 2) (prF x y)) := X0_v4.out.below hb X0_v4.out.lt
  have O0_v5 : Hid (Own v5 v1.heap.size v2.heap.size a0 us.length c0 us) := O0_v4.out.below hb (by omega)
  have L_v5 : Hid (Below w.heap.size w v5) := L_v4.out.trans (hb.mono L_v4.out.size)
  have O1_v5 := hid (Own.of ho)
  clear hb ho G0_v4 X0_v4 O0_v4 L_v4
  obtain ⟨v6, hv6⟩ : ∃ v, v = v5.alloc (.cells #[.int .i64 C, .slice a1 us.length c1] 31) := ⟨_, rfl⟩
  have sz_v6 : v6.heap.size = v5.heap.size + 1 := by rw [hv6, size_al]
  have G0_v6 : Hid (RowAt v6 v2.heap.size 31 #[.int .i64 C, .slice a0 us.length c0]) := by rw [hv6]; exact G0_v5.out.alloc _
  have X0_v6 : Hid (FRow v6 (v2.heap.size + 1) 44 (n * 2) (prF x y)) := by rw [hv6]; exact X0_v5.out.alloc _
  have O0_v6 : Hid (Own v6 v1.heap.size v2.heap.size a0 us.length c0 us) := by rw [hv6]; exact O0_v5.out.alloc _
  have O1_v6 : Hid (Own v6 v4.heap.size v5.heap.size a1 us.length c1 us) := by rw [hv6]; exact O1_v5.out.alloc _
  have L_v6 : Hid (Below w.heap.size w v6) := by rw [hv6]; exact L_v5.out.alloc L_v5.out.size _
  have G1_v6 : Hid (RowAt v6 v5.heap.size 31 #[.int .i64 C, .slice a1 us.length c1]) := by rw [hv6]; exact RowAt.next v5 _ _ (by omega)
  have ld0 := G1_v6.out
  have ld1 := G0_v6.out
  go_wp2_with (first
    | (rw [← hv6])
    | refine wpList_load_row rfl 31 (.tmp 10) rfl v5.heap.size rfl _ _ _ _ ld0 Try.underlying31 rfl (by kernel_rfl) ?_
    | refine wpList_load_row rfl 31 (.tmp 8) rfl v2.heap.size rfl _ _ _ _ ld1 Try.underlying31 rfl (by kernel_rfl) ?_)
  try rw [← hv6]
  clear ld0 ld1
  clear hv6 G0_v5 X0_v5 O0_v5 O1_v5 L_v5
  refine (eqPl C a1 c1 a0 c0 us hyl _ O1_v6.out.ints O0_v6.out.ints).mono ?_
  rintro e v7 ⟨rfl, hb⟩
  have sz_v7 : v6.heap.size ≤ v7.heap.size := hb.size
  have G0_v7 : Hid (RowAt v7 v2.heap.size 31 #[.int .i64 C, .slice a0 us.length c0]) := G0_v6.out.below hb G0_v6.out.lt
  have X0_v7 : Hid (FRow v7 (v2.heap.size + 1) 44 (n * 2) (prF x y)) := X0_v6.out.below hb X0_v6.out.lt
  have G1_v7 : Hid (RowAt v7 v5.heap.size 31 #[.int .i64 C, .slice a1 us.length c1]) := G1_v6.out.below hb G1_v6.out.lt
  have O0_v7 : Hid (Own v7 v1.heap.size v2.heap.size a0 us.length c0 us) := O0_v6.out.below hb (by omega)
  have O1_v7 : Hid (Own v7 v4.heap.size v5.heap.size a1 us.length c1 us) := O1_v6.out.below hb (by omega)
  have L_v7 : Hid (Below w.heap.size w v7) := L_v6.out.trans (hb.mono L_v6.out.size)
  clear hb G0_v6 X0_v6 G1_v6 O0_v6 O1_v6 L_v6
  go_wp2_with fail
  refine (toNds a n cap x y hl _ (HH.out.below L_v7.out)).mono ?_
  rintro e v8 ⟨rfl, hF, hb⟩
  have sz_v8 : v7.heap.size ≤ v8.heap.size := hb.size
  have G0_v8 : Hid (RowAt v8 v2.heap.size 31 #[.int .i64 C, .slice a0 us.length c0]) := G0_v7.out.below hb G0_v7.out.lt
  have X0_v8 : Hid (FRow v8 (v2.heap.size + 1) 44 (n * 2) (prF x y)) := X0_v7.out.below hb X0_v7.out.lt
  have G1_v8 : Hid (RowAt v8 v5.heap.size 31 #[.int .i64 C, .slice a1 us.length c1]) := G1_v7.out.below hb G1_v7.out.lt
  have O0_v8 : Hid (Own v8 v1.heap.size v2.heap.size a0 us.length c0 us) := O0_v7.out.below hb (by omega)
  have O1_v8 : Hid (Own v8 v4.heap.size v5.heap.size a1 us.length c1 us) := O1_v7.out.below hb (by omega)
  have L_v8 : Hid (Below w.heap.size w v8) := L_v7.out.trans (hb.mono L_v7.out.size)
  have F2_v8 := hid hF
  clear hb hF G0_v7 X0_v7 G1_v7 O0_v7 O1_v7 L_v7
  go_wp2_with fail
  refine (eqNds _ n n _ n x y hl _ X0_v8.out.prs F2_v8.out.prs).mono ?_
  rintro e v9 ⟨rfl, hb⟩
  have sz_v9 : v8.heap.size ≤ v9.heap.size := hb.size
  have G0_v9 : Hid (RowAt v9 v2.heap.size 31 #[.int .i64 C, .slice a0 us.length c0]) := G0_v8.out.below hb G0_v8.out.lt
  have X0_v9 : Hid (FRow v9 (v2.heap.size + 1) 44 (n * 2) (prF x y)) := X0_v8.out.below hb X0_v8.out.lt
  have G1_v9 : Hid (RowAt v9 v5.heap.size 31 #[.int .i64 C, .slice a1 us.length c1]) := G1_v8.out.below hb G1_v8.out.lt
  have O0_v9 : Hid (Own v9 v1.heap.size v2.heap.size a0 us.length c0 us) := O0_v8.out.below hb (by omega)
  have O1_v9 : Hid (Own v9 v4.heap.size v5.heap.size a1 us.length c1 us) := O1_v8.out.below hb (by omega)
  have L_v9 : Hid (Below w.heap.size w v9) := L_v8.out.trans (hb.mono L_v8.out.size)
  clear hb F2_v8 G0_v8 X0_v8 G1_v8 O0_v8 O1_v8 L_v8
  go_wp2_with fail
  have dK : decide (((1 + n * 2 : Nat) : Int) < 0) = false := by simp; omega
  obtain ⟨K, hK⟩ : ∃ K : Nat, Hid (K = 1 + n * 2) := ⟨_, rfl⟩
  rw [← hK.out] at dK
  refine (markNdsT (v2.heap.size + 1) n (prF x y) K hK.out hl _ X0_v9.out).mono ?_
  rintro e v10 ⟨rfl, hb⟩
  have sz_v10 : v9.heap.size ≤ v10.heap.size := hb.size
  have G0_v10 : Hid (RowAt v10 v2.heap.size 31 #[.int .i64 C, .slice a0 us.length c0]) := G0_v9.out.turned hb (by omega)
  have G1_v10 : Hid (RowAt v10 v5.heap.size 31 #[.int .i64 C, .slice a1 us.length c1]) := G1_v9.out.turned hb (by omega)
  have O0_v10 : Hid (Own v10 v1.heap.size v2.heap.size a0 us.length c0 us) := O0_v9.out.turned hb (by omega)
  have O1_v10 : Hid (Own v10 v4.heap.size v5.heap.size a1 us.length c1 us) := O1_v9.out.turned hb (by omega)
  have L_v10 : Hid (Below w.heap.size w v10) := hb.below L_v9.out (by omega) (by omega)
  clear hb X0_v9 G0_v9 G1_v9 O0_v9 O1_v9 L_v9
  have gg0 := G1_v10.out.cell 0
  have gh0 := G0_v10.out.cell 0
  have gg1 := G1_v10.out.cell 1
  have gh1 := G0_v10.out.cell 1
  go_wp2_with fail
  clear gg0 gg1 gh0 gh1
  refine (eqPl C a1 c1 a0 c0 us hyl _ O1_v10.out.ints O0_v10.out.ints).mono ?_
  rintro e v11 ⟨rfl, hb⟩
  have sz_v11 : v10.heap.size ≤ v11.heap.size := hb.size
  have G0_v11 : Hid (RowAt v11 v2.heap.size 31 #[.int .i64 C, .slice a0 us.length c0]) := G0_v10.out.below hb G0_v10.out.lt
  have G1_v11 : Hid (RowAt v11 v5.heap.size 31 #[.int .i64 C, .slice a1 us.length c1]) := G1_v10.out.below hb G1_v10.out.lt
  have O0_v11 : Hid (Own v11 v1.heap.size v2.heap.size a0 us.length c0 us) := O0_v10.out.below hb (by omega)
  have O1_v11 : Hid (Own v11 v4.heap.size v5.heap.size a1 us.length c1 us) := O1_v10.out.below hb (by omega)
  have L_v11 : Hid (Below w.heap.size w v11) := L_v10.out.trans (hb.mono L_v10.out.size)
  clear hb G0_v10 G1_v10 O0_v10 O1_v10 L_v10
  obtain ⟨M, hM⟩ : ∃ M : Nat, Hid (M = 1 + us.length) := ⟨_, rfl⟩
  have dM : decide ((M : Int) < 0) = false := by first | (simp; done) | (simp; omega)
  have dE : ((M : Int) != (M : Int)) = false := by simp
  have ld0 := G1_v11.out
  go_wp2_with (refine wpList_load_row rfl 31 (.tmp 10) rfl v5.heap.size rfl _ _ _ _ ld0 Try.underlying31 rfl (by kernel_rfl) ?_)
  clear ld0
  refine (markPl C v4.heap.size v5.heap.size a1 us.length c1 us M hM.out _ O1_v11.out hyl).mono ?_
  rintro e v12 ⟨rfl, hoM, hb⟩
  have sz_v12 : v11.heap.size ≤ v12.heap.size := hb.size
  have G0_v12 : Hid (RowAt v12 v2.heap.size 31 #[.int .i64 C, .slice a0 us.length c0]) := G0_v11.out.turned hb (by omega)
  have G1_v12 : Hid (RowAt v12 v5.heap.size 31 #[.int .i64 C, .slice a1 us.length c1]) := G1_v11.out.turned hb (by omega)
  have O0_v12 : Hid (Own v12 v1.heap.size v2.heap.size a0 us.length c0 us) := O0_v11.out.turned hb (by omega)
  have L_v12 : Hid (Below w.heap.size w v12) := hb.below L_v11.out (by omega) (by omega)
  have O1_v12 := hid hoM
  clear hb hoM O1_v11 G0_v11 G1_v11 O0_v11 L_v11
  have ld0 := G1_v12.out
  go_wp2_with (refine wpList_load_row rfl 31 (.tmp 10) rfl v5.heap.size rfl _ _ _ _ ld0 Try.underlying31 rfl (by kernel_rfl) ?_)
  clear ld0
  refine (heldPl C v4.heap.size v5.heap.size a1 us.length c1 M hM.out _ O1_v12.out hyl).mono ?_
  rintro e v13 ⟨rfl, hb⟩
  have sz_v13 : v12.heap.size ≤ v13.heap.size := hb.size
  have G0_v13 : Hid (RowAt v13 v2.heap.size 31 #[.int .i64 C, .slice a0 us.length c0]) := G0_v12.out.below hb G0_v12.out.lt
  have G1_v13 : Hid (RowAt v13 v5.heap.size 31 #[.int .i64 C, .slice a1 us.length c1]) := G1_v12.out.below hb G1_v12.out.lt
  have O0_v13 : Hid (Own v13 v1.heap.size v2.heap.size a0 us.length c0 us) := O0_v12.out.below hb (by omega)
  have O1_v13 : Hid (Own v13 v4.heap.size v5.heap.size a1 us.length c1 (marks 1 us.length)) := O1_v12.out.below hb (by omega)
  have L_v13 : Hid (Below w.heap.size w v13) := L_v12.out.trans (hb.mono L_v12.out.size)
  clear hb G0_v12 G1_v12 O0_v12 O1_v12 L_v12
  go_wp2_with fail
  refine (toNds a n cap x y hl _ (HH.out.below L_v13.out)).mono ?_
  rintro e v14 ⟨rfl, hF, hb⟩
  have sz_v14 : v13.heap.size ≤ v14.heap.size := hb.size
  have G0_v14 : Hid (RowAt v14 v2.heap.size 31 #[.int .i64 C, .slice a0 us.length c0]) := G0_v13.out.below hb G0_v13.out.lt
  have G1_v14 : Hid (RowAt v14 v5.heap.size 31 #[.int .i64 C, .slice a1 us.length c1]) := G1_v13.out.below hb G1_v13.out.lt
  have O0_v14 : Hid (Own v14 v1.heap.size v2.heap.size a0 us.length c0 us) := O0_v13.out.below hb (by omega)
  have O1_v14 : Hid (Own v14 v4.heap.size v5.heap.size a1 us.length c1 (marks 1 us.length)) := O1_v13.out.below hb (by omega)
  have L_v14 : Hid (Below w.heap.size w v14) := L_v13.out.trans (hb.mono L_v13.out.size)
  have F3_v14 := hid hF
  clear hb hF G0_v13 G1_v13 O0_v13 O1_v13 L_v13
  go_wp2_with fail
  refine (HIP.out _ _ F3_v14.out.prs).mono ?_
  rintro e v15 ⟨a2, c2, rfl, ho, hb⟩
  have sz_v15 : v14.heap.size ≤ v15.heap.size := hb.size
  have G0_v15 : Hid (RowAt v15 v2.heap.size 31 #[.int .i64 C, .slice a0 us.length c0]) := G0_v14.out.below hb G0_v14.out.lt
  have G1_v15 : Hid (RowAt v15 v5.heap.size 31 #[.int .i64 C, .slice a1 us.length c1]) := G1_v14.out.below hb G1_v14.out.lt
  have O0_v15 : Hid (Own v15 v1.heap.size v2.heap.size a0 us.length c0 us) := O0_v14.out.below hb (by omega)
  have O1_v15 : Hid (Own v15 v4.heap.size v5.heap.size a1 us.length c1 (marks 1 us.length)) := O1_v14.out.below hb (by omega)
  have L_v15 : Hid (Below w.heap.size w v15) := L_v14.out.trans (hb.mono L_v14.out.size)
  have O2_v15 := hid (Own.of ho)
  clear hb ho F3_v14 G0_v14 G1_v14 O0_v14 O1_v14 L_v14
  obtain ⟨v16, hv16⟩ : ∃ v, v = v15.alloc (.cells #[.int .i64 C, .slice a2 us.length c2] 31) := ⟨_, rfl⟩
  have sz_v16 : v16.heap.size = v15.heap.size + 1 := by rw [hv16, size_al]
  have G0_v16 : Hid (RowAt v16 v2.heap.size 31 #[.int .i64 C, .slice a0 us.length c0]) := by rw [hv16]; exact G0_v15.out.alloc _
  have G1_v16 : Hid (RowAt v16 v5.heap.size 31 #[.int .i64 C, .slice a1 us.length c1]) := by rw [hv16]; exact G1_v15.out.alloc _
  have O0_v16 : Hid (Own v16 v1.heap.size v2.heap.size a0 us.length c0 us) := by rw [hv16]; exact O0_v15.out.alloc _
  have O1_v16 : Hid (Own v16 v4.heap.size v5.heap.size a1 us.length c1 (marks 1 us.length)) := by rw [hv16]; exact O1_v15.out.alloc _
  have O2_v16 : Hid (Own v16 v14.heap.size v15.heap.size a2 us.length c2 us) := by rw [hv16]; exact O2_v15.out.alloc _
  have L_v16 : Hid (Below w.heap.size w v16) := by rw [hv16]; exact L_v15.out.alloc L_v15.out.size _
  have G2_v16 : Hid (RowAt v16 v15.heap.size 31 #[.int .i64 C, .slice a2 us.length c2]) := by rw [hv16]; exact RowAt.next v15 _ _ (by omega)
  have ld0 := G2_v16.out
  have ld1 := G0_v16.out
  go_wp2_with (first
    | (rw [← hv16])
    | refine wpList_load_row rfl 31 (.tmp 14) rfl v15.heap.size rfl _ _ _ _ ld0 Try.underlying31 rfl (by kernel_rfl) ?_
    | refine wpList_load_row rfl 31 (.tmp 8) rfl v2.heap.size rfl _ _ _ _ ld1 Try.underlying31 rfl (by kernel_rfl) ?_)
  try rw [← hv16]
  clear ld0 ld1
  clear hv16 G0_v15 G1_v15 O0_v15 O1_v15 O2_v15 L_v15
  refine (eqPl C a2 c2 a0 c0 us hyl _ O2_v16.out.ints O0_v16.out.ints).mono ?_
  rintro e v17 ⟨rfl, hb⟩
  have sz_v17 : v16.heap.size ≤ v17.heap.size := hb.size
  have G0_v17 : Hid (RowAt v17 v2.heap.size 31 #[.int .i64 C, .slice a0 us.length c0]) := G0_v16.out.below hb G0_v16.out.lt
  have G1_v17 : Hid (RowAt v17 v5.heap.size 31 #[.int .i64 C, .slice a1 us.length c1]) := G1_v16.out.below hb G1_v16.out.lt
  have G2_v17 : Hid (RowAt v17 v15.heap.size 31 #[.int .i64 C, .slice a2 us.length c2]) := G2_v16.out.below hb G2_v16.out.lt
  have O0_v17 : Hid (Own v17 v1.heap.size v2.heap.size a0 us.length c0 us) := O0_v16.out.below hb (by omega)
  have O1_v17 : Hid (Own v17 v4.heap.size v5.heap.size a1 us.length c1 (marks 1 us.length)) := O1_v16.out.below hb (by omega)
  have O2_v17 : Hid (Own v17 v14.heap.size v15.heap.size a2 us.length c2 us) := O2_v16.out.below hb (by omega)
  have L_v17 : Hid (Below w.heap.size w v17) := L_v16.out.trans (hb.mono L_v16.out.size)
  clear hb G0_v16 G1_v16 G2_v16 O0_v16 O1_v16 O2_v16 L_v16
  have ld0 := G1_v17.out
  go_wp2_with (refine wpList_load_row rfl 31 (.tmp 10) rfl v5.heap.size rfl _ _ _ _ ld0 Try.underlying31 rfl (by kernel_rfl) ?_)
  clear ld0
  refine (heldPl C v4.heap.size v5.heap.size a1 us.length c1 M hM.out _ O1_v17.out hyl).mono ?_
  rintro e v18 ⟨rfl, hb⟩
  have sz_v18 : v17.heap.size ≤ v18.heap.size := hb.size
  have G0_v18 : Hid (RowAt v18 v2.heap.size 31 #[.int .i64 C, .slice a0 us.length c0]) := G0_v17.out.below hb G0_v17.out.lt
  have G1_v18 : Hid (RowAt v18 v5.heap.size 31 #[.int .i64 C, .slice a1 us.length c1]) := G1_v17.out.below hb G1_v17.out.lt
  have G2_v18 : Hid (RowAt v18 v15.heap.size 31 #[.int .i64 C, .slice a2 us.length c2]) := G2_v17.out.below hb G2_v17.out.lt
  have O0_v18 : Hid (Own v18 v1.heap.size v2.heap.size a0 us.length c0 us) := O0_v17.out.below hb (by omega)
  have O1_v18 : Hid (Own v18 v4.heap.size v5.heap.size a1 us.length c1 (marks 1 us.length)) := O1_v17.out.below hb (by omega)
  have O2_v18 : Hid (Own v18 v14.heap.size v15.heap.size a2 us.length c2 us) := O2_v17.out.below hb (by omega)
  have L_v18 : Hid (Below w.heap.size w v18) := L_v17.out.trans (hb.mono L_v17.out.size)
  clear hb G0_v17 G1_v17 G2_v17 O0_v17 O1_v17 O2_v17 L_v17
  go_wp2
  go_ret
  exact ⟨rfl, L_v18.out⟩
end Go.Proofs.Ytjeahllaajpddab
