import Derived.Test.YtlobnmcjnaibaaaDoorRIInverse
import Derived.Test.YtlobnmcjnaibaaaDoorRIFault
namespace Go.Proofs.YtlobnmcjnaibaaaDoorR
open Go.RowKit
set_option maxRecDepth 20000 in
set_option maxHeartbeats 4000000 in
theorem imatinv (n q : Nat) (hn1 : 1 ≤ n) (hn : n ≤ 64) (hq : q = n * n) (xs : List Nat) (hs : Small xs) (a : Option Addr) (cap : Nat) (w : World) (hT : Tab w) (h : Ints .i64 w a q cap (nl xs)) (F1 : mfault n n (nl xs) = 0) :
    Calls Tryd.prog 6 #[mxv n n a q cap] w fun e w' => Below w.heap.size w w' ∧ ((rank n n (fm (mo n xs)) = n ∧ ∃ g X, e = .returned (.agg #[.int .i64 0, .int .i64 n, .int .i64 n, .slice (some ⟨g, 0, none⟩) q q]) ∧ w.heap.size ≤ g ∧ Wr .i64 w' g 0 (nl X) ∧ X.length = q ∧ Small X ∧ IsInv n (fm (mo n xs)) (fm (mo n X)) ∧ IsInv n (fm (mo n X)) (fm (mo n xs))) ∨ (rank n n (fm (mo n xs)) < n ∧ e = .returned (mrNone 5))) := by
  have q4 : q ≤ 4096 := by have : q ≤ 64 * 64 := by { rw [hq]; exact Nat.mul_le_mul hn hn }; omega
  have IA : Hid ((n : Int) * (n : Int) = (q : Int)) := by show _ = _; rw [hq]; simp
  have HQ := hid hq
  have HS := hid hs
  have LX : Hid (xs.length = q) := by have := h.1; rwa [nl_len] at this
  have G1 := hid F1
  obtain ⟨W, hW⟩ : ∃ W, W = (w.alloc (.cells #[.int .i64 n, .int .i64 n, .slice a q cap] 25)).alloc (.cells #[.int .i64 0, .int .i64 0, .int .i64 0, .slice none 0 0] 28) := ⟨_, rfl⟩
  have hWs : W.heap.size = w.heap.size + 1 + 1 := by rw [hW]; simp only [size_al]
  have A0 : Hid (RowAt W w.heap.size 25 #[.int .i64 n, .int .i64 n, .slice a q cap]) := by rw [hW]; exact (RowAt.new w _ _).alloc _
  have R0 : Hid (RowAt W (w.heap.size + 1) 28 #[.int .i64 0, .int .i64 0, .int .i64 0, .slice none 0 0]) := by rw [hW]; exact RowAt.next (w.alloc _) _ _ (by rw [size_al])
  have HA : Hid (Ints .i64 W a q cap (nl xs)) := by rw [hW]; exact (h.alloc _).alloc _
  have T0 : Hid (Tab W) := by rw [hW]; exact (hT.alloc _).alloc _
  have L0 : Hid (Below w.heap.size w W) := by rw [hW]; exact ((Below.refl _ _).alloc (Nat.le_refl _) _).alloc (by rw [size_al]; omega) _
  have hw1 := hT.lt
  have dn : ((n : Int) != (n : Int)) = false := by simp
  clear hq hs h F1 hT
  have r1 := A0.out
  go_enter Tryd.func6, Tryd.ntmps6
  go_wp2_with (first | rw [← hW] | refine wpList_load_row rfl 25 (.tmp 1) rfl w.heap.size rfl _ _ _ _ r1 Tryd.underlying25 rfl (by kernel_rfl) ?_)
  clear hW r1
  refine (ifault n n a q cap (nl xs) _ HA.out (by omega)).mono ?_
  rintro e w1 ⟨rfl, hb1⟩
  rw [G1.out]
  have L1 := hid hb1
  have r1 := A0.out.below hb1 (by omega)
  have x0 := r1.cell 0
  have x1 := r1.cell 1
  have h1s := hb1.size
  clear hb1
  go_wp2_with (refine wpList_load_row rfl 25 (.tmp 1) rfl w.heap.size rfl _ _ _ _ r1 Tryd.underlying25 rfl (by kernel_rfl) ?_)
  refine (igridOf n n q IA (by omega) xs HS.out a cap _ (HA.out.below L1.out)).mono ?_
  rintro e w2 ⟨g2, rfl, hg2, hG2, hb2⟩
  have L2 := hid (L1.out.trans (hb2.mono L1.out.size))
  have T2 := hid (T0.out.below L2.out (by omega))
  have G2 := hid hG2
  have h2s := L2.out.size
  clear hb2 hG2 r1 x0 x1 L1
  go_wp2_with fail
  refine (iinverse n q g2 xs _ T2.out hn1 hn HQ.out G2.out LX.out HS.out).mono ?_
  rintro e w3 ⟨hb3, hcase⟩
  have L3 := hid (L2.out.trans (hb3.mono L2.out.size))
  have R3 := hid (R0.out.below L3.out (by omega))
  have h3s := L3.out.size
  have h23 := hb3.size
  clear hb3
  rcases hcase with ⟨hrk, b, X, rfl, hbg, hGX, hXl, hXs, i1, i2⟩ | ⟨hrk, rfl⟩
  · have HRK := hid hrk
    have GX := hid hGX
    have XL := hid hXl
    have XS := hid hXs
    have I1 := hid i1
    have I2 := hid i2
    have hbl := hGX.lt
    clear hrk hGX hXl hXs i1 i2
    have r4 := RowAt.new w3 46 #[.int .i64 n, .int .i64 n, .slice (some ⟨b, 0, none⟩) q q]
    go_wp2_with (refine wpList_load_row rfl 46 (.tmp 3) rfl w3.heap.size rfl _ _ _ _ r4 Tryd.underlying46 rfl (by kernel_rfl) ?_)
    refine (imatrix n n b q (by omega) X XS.out _ (GX.out.alloc _) XL.out).mono ?_
    rintro e w5 ⟨b5, rfl, hb5g, hW5, hb5⟩
    rw [size_al] at hb5g hb5
    have L5 := hid ((L3.out.alloc L3.out.size (.cells #[.int .i64 n, .int .i64 n, .slice (some ⟨b, 0, none⟩) q q] 46)).trans (hb5.mono (by omega)))
    have R5 := hid (R0.out.below L5.out (by omega))
    have W5 := hid hW5
    clear hb5 hW5 r4
    go_wp2_with (refine wpList_store_row rfl 28 (.tmp 2) (.tmp 27) rfl (w.heap.size + 1) #[.int .i64 0, .int .i64 n, .int .i64 n, .slice (some ⟨b5, 0, none⟩) q q] rfl rfl _ _ R5.out (by kernel_rfl) rfl (one4 _ _ _ _ _ _) ?_)
    refine bodyPost_ret (v := .agg #[.int .i64 0, .int .i64 n, .int .i64 n, .slice (some ⟨b5, 0, none⟩) q q]) ?_ rfl ⟨?_, Or.inl ⟨HRK.out, b5, X, rfl, by omega, ?_, XL.out, XS.out, I1.out, I2.out⟩⟩
    · exact results_cell_row Tryd.results6 _ _ (w.heap.size + 1) _ _ _ _ rfl (R5.out.setRow _) Tryd.underlying28 rfl (by kernel_rfl)
    · exact below_setRow (L0.out.trans (L5.out.mono (by omega))) _ _ (by omega)
    · exact wr_setRow W5.out _ (by omega)
  · have HRK := hid hrk
    have R4 := hid (R3.out.alloc (.cells #[.int .i64 0, .int .i64 0, .slice none 0 0] 46))
    clear hrk
    go_wp2_with (refine wpList_store_row rfl 28 (.tmp 2) (.tmp 24) rfl (w.heap.size + 1) #[.int .i64 5, .int .i64 0, .int .i64 0, .slice none 0 0] rfl rfl _ _ R4.out (by kernel_rfl) rfl (one4 _ _ _ _ _ _) ?_)
    refine bodyPost_ret (v := mrNone 5) ?_ rfl ⟨?_, Or.inr ⟨HRK.out, rfl⟩⟩
    · exact results_cell_row Tryd.results6 _ _ (w.heap.size + 1) _ _ _ _ rfl (R4.out.setRow _) Tryd.underlying28 rfl (by kernel_rfl)
    · exact below_setRow ((L0.out.trans (L3.out.mono (by omega))).alloc (by omega) _) _ _ (by omega)
set_option maxRecDepth 20000 in
set_option maxHeartbeats 1000000 in
theorem imatinv_no (r c : Int) (xs : List Int) (a : Option Addr) (la ca : Nat) (w : World) (h : Ints .i64 w a la ca xs) (hla : la ≤ 1048576) (hno : ¬ (mfault r c xs = 0 ∧ r = c)) :
    Calls Tryd.prog 6 #[mxv r c a la ca] w fun e w' => e = .returned (mrNone 1) ∧ Below w.heap.size w w' := by
  obtain ⟨W, hW⟩ : ∃ W, W = (w.alloc (.cells #[.int .i64 r, .int .i64 c, .slice a la ca] 25)).alloc (.cells #[.int .i64 0, .int .i64 0, .int .i64 0, .slice none 0 0] 28) := ⟨_, rfl⟩
  have hWs : W.heap.size = w.heap.size + 1 + 1 := by rw [hW]; simp only [size_al]
  have A0 : Hid (RowAt W w.heap.size 25 #[.int .i64 r, .int .i64 c, .slice a la ca]) := by rw [hW]; exact (RowAt.new w _ _).alloc _
  have R0 : Hid (RowAt W (w.heap.size + 1) 28 #[.int .i64 0, .int .i64 0, .int .i64 0, .slice none 0 0]) := by rw [hW]; exact RowAt.next (w.alloc _) _ _ (by rw [size_al])
  have HA : Hid (Ints .i64 W a la ca xs) := by rw [hW]; exact (h.alloc _).alloc _
  have L0 : Hid (Below w.heap.size w W) := by rw [hW]; exact ((Below.refl _ _).alloc (Nat.le_refl _) _).alloc (by rw [size_al]; omega) _
  have HNO := hid hno
  clear h hno
  have r1 := A0.out
  go_enter Tryd.func6, Tryd.ntmps6
  go_wp2_with (first | rw [← hW] | refine wpList_load_row rfl 25 (.tmp 1) rfl w.heap.size rfl _ _ _ _ r1 Tryd.underlying25 rfl (by kernel_rfl) ?_)
  clear hW r1
  refine (ifault r c a la ca xs _ HA.out hla).mono ?_
  rintro e w1 ⟨rfl, hb1⟩
  have L1 := hid hb1
  have R2 := hid (R0.out.below hb1 (by omega))
  have x0 := (A0.out.below hb1 (by omega)).cell 0
  have x1 := (A0.out.below hb1 (by omega)).cell 1
  clear hb1
  rcases mfault_01 r c xs with f1 | f1
  · rw [f1]
    have d0 : (r == c) = false := by
      have : ¬ r = c := fun e => HNO.out ⟨f1, e⟩
      simpa using this
    have d1 : (r != c) = true := by simp only [bne, d0]; rfl
    clear f1
    go_wp2_with (refine wpList_store_row rfl 28 (.tmp 2) (.tmp 15) rfl (w.heap.size + 1) #[.int .i64 1, .int .i64 0, .int .i64 0, .slice none 0 0] rfl rfl _ _ R2.out (by kernel_rfl) rfl (one4 _ _ _ _ _ _) ?_)
    refine bodyPost_ret (v := mrNone 1) ?_ rfl ⟨rfl, ?_⟩
    · exact results_cell_row Tryd.results6 _ _ (w.heap.size + 1) _ _ _ _ rfl (R2.out.setRow _) Tryd.underlying28 rfl (by kernel_rfl)
    · exact below_setRow (L0.out.trans (L1.out.mono (by omega))) _ _ (by omega)
  · rw [f1]
    clear f1
    go_wp2_with (refine wpList_store_row rfl 28 (.tmp 2) (.tmp 15) rfl (w.heap.size + 1) #[.int .i64 1, .int .i64 0, .int .i64 0, .slice none 0 0] rfl rfl _ _ R2.out (by kernel_rfl) rfl (one4 _ _ _ _ _ _) ?_)
    refine bodyPost_ret (v := mrNone 1) ?_ rfl ⟨rfl, ?_⟩
    · exact results_cell_row Tryd.results6 _ _ (w.heap.size + 1) _ _ _ _ rfl (R2.out.setRow _) Tryd.underlying28 rfl (by kernel_rfl)
    · exact below_setRow (L0.out.trans (L1.out.mono (by omega))) _ _ (by omega)
end Go.Proofs.YtlobnmcjnaibaaaDoorR
