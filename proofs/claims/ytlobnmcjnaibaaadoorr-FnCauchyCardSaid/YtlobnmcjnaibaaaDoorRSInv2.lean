import Derived.Test.YtlobnmcjnaibaaaDoorRSInv
namespace Go.Proofs.YtlobnmcjnaibaaaDoorR
open Go.RowKit
/-! The specification's other answers. -/
set_option maxRecDepth 20000 in
set_option maxHeartbeats 1000000 in
theorem sinv_none (n : Nat) (hn1 : 1 ≤ n) (hn : n ≤ 64) (xs : List Nat) (hs : Sm n n (mo n xs)) (a : Option Addr) (len cap : Nat) (w : World) (h : Ints .i64 w a len cap (nl xs)) (hlen : len = n * n) (F1 : mfault n n (nl xs) = 0) (RK : rank n n (fm (mo n xs)) < n) :
    Calls Tryd.prog 7 #[mxv n n a len cap] w fun e w' => e = .returned (mrNone 5) ∧ Below w.heap.size w w' := by
  have hqb : n * n ≤ 64 * 64 := Nat.mul_le_mul hn hn
  have hl2 : len ≤ 4096 := by omega
  have HL := hid hlen
  have HS := hid hs
  have HH := hid h
  have G1 := hid F1
  have d0 : ((n : Int) != (n : Int)) = false := by simp
  have dk : decide (rank n n (fm (mo n xs)) < n) = true := by simp; omega
  clear hlen hs h F1 RK hqb
  go_enter Tryd.func7, Tryd.ntmps7
  go_wp2_with fail
  refine (sfault n n a len cap (nl xs) _ ((HH.out.alloc _).alloc _) (by omega)).mono ?_
  rintro e w1 ⟨rfl, rfl⟩
  rw [G1.out]
  clear G1
  go_wp2_with fail
  go_region_held3 (fun wx => wx.cell? ⟨w.heap.size, 0, none⟩ = some (.int .i64 n) ∧ wx.cell? ⟨w.heap.size, 1, none⟩ = some (.int .i64 n) ∧ wx.cell? ⟨w.heap.size, 2, none⟩ = some (.slice a len cap)) ((first | (go_keep; done) | exact ⟨rB.cell 0, rB.cell 1, rB.cell 2⟩)) ((go_at_call 26; refine (srank n n hn1 hn hn1 (by omega) xs HS.out a len cap _ ?_ HL.out).mono ?_; exact (((HH.out.alloc _).alloc _).alloc _).below (Below.refl _ _).drew; rintro e w2 ⟨rfl, hb2⟩; have rB := ((((RowAt.new w 25 #[.int .i64 n, .int .i64 n, .slice a len cap]).alloc _).alloc _).drew).below hb2 (by show w.heap.size < (((w.alloc _).alloc _).alloc _).heap.size; simp only [size_al]; omega)))
  have rR : RowAt w2 (w.heap.size + 1) 28 #[.int .i64 0, .int .i64 0, .int .i64 0, .slice none 0 0] := (((RowAt.next (w.alloc _) _ _ (by rw [size_al])).alloc _).drew).below hb2 (by show w.heap.size + 1 < (((w.alloc _).alloc _).alloc _).heap.size; simp only [size_al]; omega)
  have hbel : Below w.heap.size w w2 := ((((Below.refl _ _).alloc (Nat.le_refl _) _).alloc (by simp only [size_al]; omega) _).alloc (by simp only [size_al]; omega) _).drew.trans (hb2.mono (by show w.heap.size ≤ (((w.alloc _).alloc _).alloc _).heap.size; simp only [size_al]; omega))
  have RR := hid rR
  have HB := hid hbel
  clear hb2 rB rR hbel
  go_wp2_with (refine wpList_store_row rfl 28 (.tmp 2) (.tmp 28) rfl (w.heap.size + 1) #[.int .i64 5, .int .i64 0, .int .i64 0, .slice none 0 0] rfl rfl _ _ RR.out (by kernel_rfl) rfl (one4 _ _ _ _ _ _) ?_)
  refine bodyPost_ret (v := mrNone 5) ?_ rfl ⟨rfl, ?_⟩
  · exact results_cell_row Tryd.results7 _ _ (w.heap.size + 1) _ _ _ _ rfl (RR.out.setRow _) Tryd.underlying28 rfl (by kernel_rfl)
  · exact below_setRow HB.out _ _ (by omega)
set_option maxRecDepth 20000 in
set_option maxHeartbeats 1000000 in
theorem sinv_no (r c : Int) (xs : List Int) (a : Option Addr) (la ca : Nat) (w : World) (h : Ints .i64 w a la ca xs) (hla : la ≤ 1048576) (hno : ¬ (mfault r c xs = 0 ∧ r = c)) :
    Calls Tryd.prog 7 #[mxv r c a la ca] w fun e w' => e = .returned (mrNone 1) ∧ Below w.heap.size w w' := by
  have HH := hid h
  clear h
  rcases mfault_01 r c xs with f1 | f1
  · have d0 : (r == c) = false := by
      have : ¬ r = c := fun e => hno ⟨f1, e⟩
      simpa using this
    have d1 : (r != c) = true := by simp only [bne, d0]; rfl
    have G1 := hid f1
    clear f1 hno
    go_enter Tryd.func7, Tryd.ntmps7
    go_wp2_with fail
    refine (sfault r c a la ca xs _ ((HH.out.alloc _).alloc _) hla).mono ?_
    rintro e w1 ⟨rfl, rfl⟩
    rw [G1.out]
    go_wp2
    refine bodyPost_ret (v := mrNone 1) (by simp [results, Tryd.results7, go_sem]) rfl ⟨rfl, ?_⟩
    exact (((Below.refl _ _).alloc (Nat.le_refl _) _).alloc (by simp only [size_al]; omega) _).alloc (by simp only [size_al]; omega) _
  · have G1 := hid f1
    clear f1 hno
    go_enter Tryd.func7, Tryd.ntmps7
    go_wp2_with fail
    refine (sfault r c a la ca xs _ ((HH.out.alloc _).alloc _) hla).mono ?_
    rintro e w1 ⟨rfl, rfl⟩
    rw [G1.out]
    go_wp2
    refine bodyPost_ret (v := mrNone 1) (by simp [results, Tryd.results7, go_sem]) rfl ⟨rfl, ?_⟩
    exact (((Below.refl _ _).alloc (Nat.le_refl _) _).alloc (by simp only [size_al]; omega) _).alloc (by simp only [size_al]; omega) _
set_option maxRecDepth 20000 in
set_option maxHeartbeats 1000000 in
theorem scauchy_no (r c : Int) (w : World) (hno : ¬ (1 ≤ r ∧ r ≤ 64 ∧ 1 ≤ c ∧ c ≤ 64)) :
    Calls Tryd.prog 15 #[.int .i64 r, .int .i64 c] w fun e w' => e = .returned (mrNone 1) ∧ Below w.heap.size w w' := by
  by_cases h1 : r < 1
  · have d0 : decide (r < 1) = true := by simp; omega
    go_enter Tryd.func15, Tryd.ntmps15
    go_wp2
    exact bodyPost_ret (v := mrNone 1) (by simp [results, Tryd.results15, go_sem]) rfl ⟨rfl, (Below.refl _ _).alloc (Nat.le_refl _) _⟩
  have d0 : decide (r < 1) = false := by simp; omega
  by_cases h2 : 64 < r
  · have d1 : decide (64 < r) = true := by simp; omega
    go_enter Tryd.func15, Tryd.ntmps15
    go_wp2
    exact bodyPost_ret (v := mrNone 1) (by simp [results, Tryd.results15, go_sem]) rfl ⟨rfl, (Below.refl _ _).alloc (Nat.le_refl _) _⟩
  have d1 : decide (64 < r) = false := by simp; omega
  by_cases h3 : c < 1
  · have d2 : decide (c < 1) = true := by simp; omega
    go_enter Tryd.func15, Tryd.ntmps15
    go_wp2
    exact bodyPost_ret (v := mrNone 1) (by simp [results, Tryd.results15, go_sem]) rfl ⟨rfl, (Below.refl _ _).alloc (Nat.le_refl _) _⟩
  have d2 : decide (c < 1) = false := by simp; omega
  have d3 : decide (64 < c) = true := by simp; omega
  go_enter Tryd.func15, Tryd.ntmps15
  go_wp2
  exact bodyPost_ret (v := mrNone 1) (by simp [results, Tryd.results15, go_sem]) rfl ⟨rfl, (Below.refl _ _).alloc (Nat.le_refl _) _⟩
end Go.Proofs.YtlobnmcjnaibaaaDoorR
