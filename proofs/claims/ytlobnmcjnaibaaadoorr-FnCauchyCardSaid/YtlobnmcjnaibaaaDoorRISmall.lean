import Derived.Test.YtlobnmcjnaibaaaDoorRICopy
namespace Go.Proofs.YtlobnmcjnaibaaaDoorR
open Go.RowKit
theorem zero64 : (#[.int .u8 0, .int .u8 0, .int .u8 0, .int .u8 0, .int .u8 0, .int .u8 0, .int .u8 0, .int .u8 0, .int .u8 0, .int .u8 0, .int .u8 0, .int .u8 0, .int .u8 0, .int .u8 0, .int .u8 0, .int .u8 0, .int .u8 0, .int .u8 0, .int .u8 0, .int .u8 0, .int .u8 0, .int .u8 0, .int .u8 0, .int .u8 0, .int .u8 0, .int .u8 0, .int .u8 0, .int .u8 0, .int .u8 0, .int .u8 0, .int .u8 0, .int .u8 0, .int .u8 0, .int .u8 0, .int .u8 0, .int .u8 0, .int .u8 0, .int .u8 0, .int .u8 0, .int .u8 0, .int .u8 0, .int .u8 0, .int .u8 0, .int .u8 0, .int .u8 0, .int .u8 0, .int .u8 0, .int .u8 0, .int .u8 0, .int .u8 0, .int .u8 0, .int .u8 0, .int .u8 0, .int .u8 0, .int .u8 0, .int .u8 0, .int .u8 0, .int .u8 0, .int .u8 0, .int .u8 0, .int .u8 0, .int .u8 0, .int .u8 0, .int .u8 0] : Array Value) = cells8 (List.replicate 64 0) := by kernel_rfl
theorem cells8_sizeOf64 {ts : List Nat} (h : ts.length = 64) : (Tryd.prog.info? 70).map (·.size) = some (cells8 ts).size := by rw [cells8_size, h]; kernel_rfl
set_option maxRecDepth 20000 in
set_option maxHeartbeats 4000000 in
theorem ismall (R C g q : Nat) (zs : List Nat) (w : World) (hz : Gr w g zs) (hl : zs.length = q) (hq : q ≤ 64) :
    Calls Tryd.prog 52 #[grv R C g q] w fun e w' => ∃ ts : List Nat, e = .returned (.agg (cells8 ts)) ∧ ts.length = 64 ∧ (∀ p, ts.getD p 0 = if p < q then zs.getD p 0 else 0) ∧ Below w.heap.size w w' := by
  have hg := hz.lt
  obtain ⟨W, hW⟩ : ∃ W, W = ((w.alloc (.cells #[.int .i64 R, .int .i64 C, .slice (some ⟨g, 0, none⟩) q q] 46)).alloc (.cells (cells8 (List.replicate 64 0)) 70)).alloc (.cells (cells8 (List.replicate 64 0)) 70) := ⟨_, rfl⟩
  have hWs : W.heap.size = w.heap.size + 1 + 1 + 1 := by rw [hW]; simp only [size_al]
  have B0 : Hid (RowAt W w.heap.size 46 #[.int .i64 R, .int .i64 C, .slice (some ⟨g, 0, none⟩) q q]) := by rw [hW]; exact ((RowAt.new w _ _).alloc _).alloc _
  have B1 : Hid (RowAt W (w.heap.size + 1) 70 (cells8 (List.replicate 64 0))) := by rw [hW]; exact (RowAt.next (w.alloc _) _ _ (by rw [size_al])).alloc _
  have B2 : Hid (RowAt W (w.heap.size + 1 + 1) 70 (cells8 (List.replicate 64 0))) := by rw [hW]; exact RowAt.next ((w.alloc _).alloc _) _ _ (by rw [size_al, size_al])
  have Z0 : Hid (Gr W g zs) := by rw [hW]; exact ((hz.alloc _).alloc _).alloc _
  have L0 : Hid (Below w.heap.size w W) := by rw [hW]; exact (((Below.refl _ _).alloc (Nat.le_refl _) _).alloc (by rw [size_al]; omega) _).alloc (by rw [size_al, size_al]; omega) _
  have c2 := B0.out.cell 2
  clear hz
  go_enter Tryd.func52, Tryd.ntmps52
  go_wp2_with fail
  rw [zero64, ← hW]
  clear hW
  go_wp2_with fail
  go_region_held3 (fun wx => wx.cell? ⟨w.heap.size, 2, none⟩ = some (.slice (some ⟨g, 0, none⟩) q q)) ((first | (go_keep; done) | exact RR.cell 2)) ((refine step_copy8 (by rfl) _ _ (by rfl) (w.heap.size + 1 + 1) 0 64 64 g 0 q q (by rfl) (by rfl) 70 (List.replicate 64 0) B2.out.drew q (show q = min q 64 from (Nat.min_eq_left hq).symm) (fun k => zs.getD k 0) (fun k hk => by rw [Nat.zero_add]; exact Z0.out.drew.cell (by omega)) (by rw [List.length_replicate]; omega) ?_; intro w3 ts r3 htl htp hg3; have RR := rowFar B0.out.drew hg3 (by intro e; injection e with e; omega)))
  have R1 := hid (rowFar B1.out.drew hg3 (by intro e; injection e with e; omega))
  have R3 := hid r3
  rw [List.length_replicate] at htl
  have HTL := hid htl
  have HTP : Hid (∀ p, ts.getD p 0 = if p < q then zs.getD p 0 else 0) := fun p => by
    rw [htp p]; unfold layN
    rw [Nat.zero_add, Nat.sub_zero]
    by_cases h : p < q
    · rw [if_pos ⟨Nat.zero_le _, h⟩, if_pos h]
    · rw [if_neg (by omega), if_neg h, List.getD_eq_getElem?_getD, List.getElem?_replicate]; split <;> rfl
  have L3 : Hid (Below w.heap.size w w3) := L0.out.drew.grown hg3 (by show w.heap.size ≤ W.heap.size; omega) (fun k hk => by cases hk; omega)
  have Z1 := hid (cells8_sizeOf64 htl)
  clear RR r3 htl htp hg3 c2
  go_wp2_with (first
    | refine wpList_load_row rfl 70 (.tmp 3) rfl (w.heap.size + 1 + 1) rfl _ _ _ _ R3.out Tryd.underlying70 rfl Z1.out ?_
    | refine wpList_store_row rfl 70 (.tmp 2) (.tmp 8) rfl (w.heap.size + 1) (cells8 ts) rfl rfl _ _ R1.out Z1.out (by rw [cells8_size, cells8_size, HTL.out]; rfl) (cells8_one ts) ?_)
  refine bodyPost_ret (v := .agg (cells8 ts)) ?_ rfl ⟨ts, rfl, HTL.out, HTP.out, ?_⟩
  · exact results_cell_row Tryd.results52 _ _ (w.heap.size + 1) _ _ _ _ rfl (R1.out.setRow _) Tryd.underlying70 rfl Z1.out
  · exact below_setRow L3.out _ _ (by omega)
/-! bytes.Equal -/
theorem str_inj {xs ys : List Nat} (hx : Small xs) (hy : Small ys) (h : strOfNums (nl xs) = strOfNums (nl ys)) : xs = ys := by
  have h1 := congrArg (fun b : ByteArray => b.data.toList) h
  simp only [strOfNums_data, nl, List.map_map] at h1
  have hl : xs.length = ys.length := by have := congrArg List.length h1; simpa using this
  apply List.ext_getElem?
  intro i
  have h2 := congrArg (fun l : List UInt8 => l[i]?) h1
  simp only [List.getElem?_map] at h2
  by_cases hi : i < xs.length
  · rw [List.getElem?_eq_getElem hi, List.getElem?_eq_getElem (by omega)] at h2 ⊢
    simp at h2
    have a1 : xs[i] < 256 := by have := hx i; rwa [List.getD_eq_getElem?_getD, List.getElem?_eq_getElem hi] at this
    have a2 : ys[i] < 256 := by have := hy i; rwa [List.getD_eq_getElem?_getD, List.getElem?_eq_getElem (by omega)] at this
    have h3 := congrArg UInt8.toNat h2
    simp only [UInt8.toNat_ofNat'] at h3
    congr 1; omega
  · rw [List.getElem?_eq_none (by omega), List.getElem?_eq_none (by omega)]
set_option maxRecDepth 20000 in
set_option maxHeartbeats 1000000 in
theorem ibequal (ga gb q : Nat) (xs ys : List Nat) (w : World) (ha : Gr w ga xs) (hb : Gr w gb ys) (hx : xs.length = q) (hy : ys.length = q) (sx : Small xs) (sy : Small ys) :
    Calls Tryd.prog 53 #[.slice (some ⟨ga, 0, none⟩) q q, .slice (some ⟨gb, 0, none⟩) q q] w fun e w' => e = .returned (.bool (decide (xs = ys))) ∧ w' = w := by
  have c1 := run_convert_bytes_arg (P := Tryd.prog) w 22 5 Tryd.underlying22 Tryd.underlying5 ga 0 q q (nl xs) (by rw [nl_len]; exact hx) (fun i hi => by rw [Nat.zero_add, nl_at]; exact ha.cell (by omega)) 9 Tryd.underlying9
  have c2 := run_convert_bytes_arg (P := Tryd.prog) w 22 5 Tryd.underlying22 Tryd.underlying5 gb 0 q q (nl ys) (by rw [nl_len]; exact hy) (fun i hi => by rw [Nat.zero_add, nl_at]; exact hb.cell (by omega)) 9 Tryd.underlying9
  by_cases e : xs = ys
  · subst e
    obtain ⟨s, hs⟩ : ∃ s, s = strOfNums (nl xs) := ⟨_, rfl⟩
    rw [← hs] at c1 c2
    clear hs ha hb
    go_enter Tryd.func53, Tryd.ntmps53
    go_wp2
    go_ret
    exact ⟨by simp, rfl⟩
  · have hne : ¬ strOfNums (nl xs) = strOfNums (nl ys) := fun h => e (str_inj sx sy h)
    obtain ⟨s, hs⟩ : ∃ s, s = strOfNums (nl xs) := ⟨_, rfl⟩
    obtain ⟨t, ht⟩ : ∃ t, t = strOfNums (nl ys) := ⟨_, rfl⟩
    rw [← hs] at c1 hne
    rw [← ht] at c2 hne
    have hnl : ¬ s.toList = t.toList := fun h => hne (by
      rw [ByteArray.toList_eq, ByteArray.toList_eq] at h
      cases s; cases t; congr 1; exact Array.ext' h)
    have d2 : (s.toList == t.toList) = false := by simpa using hnl
    have d1 : (s == t) = false := by rw [beq_toListBytes]; exact d2
    clear hnl
    clear hs ht ha hb
    go_enter Tryd.func53, Tryd.ntmps53
    go_wp2
    go_ret
    exact ⟨by simp [e], rfl⟩
end Go.Proofs.YtlobnmcjnaibaaaDoorR
