import Derived.Test.YthdmaamocejodaaDoorIProd8
import Derived.Test.YthdmaamocejodaaDoorFieldPow
namespace Go.Proofs.YthdmaamocejodaaDoor
open Go.RowKit
set_option maxRecDepth 20000 in
set_option maxHeartbeats 1000000 in
theorem squarings8 (a : Nat) (ha : a < 256) (w : World) : Calls Tryd.prog 61 #[.agg #[.int .u8 29], .int .u8 a] w fun e w' => ∃ xs : List Nat, e = .returned (.agg (cells8 xs)) ∧ xs.length = 16 ∧ (∀ i, i < 8 → xs[i]? = some (sqs 8 29 i a)) ∧ Below w.heap.size w w' := by
  go_enter Tryd.func61, Tryd.ntmps61
  go_wp2_with fail
  refine (width8 _).mono ?_
  rintro e w1 ⟨rfl, rfl⟩
  go_wp2
  go_loopw [1, 9] (fun x y wr => ∃ (k A : Nat) (xs : List Nat), k ≤ 8 ∧ A < 256 ∧ A = sqs 8 29 k a ∧ xs.length = 16 ∧ (∀ i, i < k → xs[i]? = some (sqs 8 29 i a)) ∧ x = .int .u8 A ∧ y = .int .i64 k ∧ RowAt wr w.heap.size 129 #[.int .u8 29] ∧ RowAt wr (w.heap.size + 1) 135 (cells8 zeros) ∧ RowAt wr (w.heap.size + 1 + 1) 135 (cells8 xs) ∧ Below w.heap.size w wr) (fun _ y _ => 8 - (intOf y).toNat)
  case atStart =>
    refine ⟨0, a, zeros, Nat.zero_le _, ha, rfl, rfl, fun i hi => by omega, rfl, rfl, ?_, ?_, ?_, ?_⟩
    · exact (((RowAt.new w _ _).alloc _).alloc _).alloc _
    · exact ((RowAt.next (w.alloc _) _ _ (by rw [size_al])).alloc _).alloc _
    · exact (RowAt.next ((w.alloc _).alloc _) _ _ (by rw [size_al, size_al])).alloc _
    · exact ((((Below.refl _ _).alloc (Nat.le_refl _) _).alloc (by simp) _).alloc (by simp; omega) _).alloc (by simp; omega) _
  case round =>
    obtain ⟨k, A, xs, hk, hA, hAk, hxl, hxs, rfl, rfl, r0, r1, r2, hbel⟩ := hrel
    have HAk : Hid (A = sqs 8 29 k a) := hAk
    have HX : Hid (∀ i, i < k → xs[i]? = some (sqs 8 29 i a)) := hxs
    clear hAk hxs
    have l2 := r2.lt
    by_cases hlt : k < 8
    · have hlt' : (k : Int) < 8 := by omega
      have i0 : (0 : Int) ≤ (k : Int) := by omega
      have i1 : (k : Int) < 16 := by omega
      have f2 := r2.free k
      have c0 := (r0.other ⟨w.heap.size + 1 + 1, k, none⟩ (.int .u8 A) (by simp; omega)).cell 0
      obtain ⟨x, hx⟩ : ∃ x, xs[k]? = some x := ⟨xs[k]'(by omega), List.getElem?_eq_getElem _⟩
      have c2 := (r2.cell k).trans (cells8_at hx)
      have HX' : Hid (∀ i, i < k + 1 → (xs.set k A)[i]? = some (sqs 8 29 i a)) := fun i hi => by
        by_cases hik : i = k
        · subst hik; rw [List.getElem?_set_self (by omega), ← HAk.out]
        · rw [List.getElem?_set_ne (by omega)]; exact HX.out i (by omega)
      have HA' : Hid (gm 8 29 A A = sqs 8 29 (k + 1) a) := by show _ = _; rw [sqs_succ, ← HAk.out]
      have hA' : gm 8 29 A A < 256 := gm_lt fld8.toFld A hA
      clear hx
      go_wp2_with fail
      refine (product8 A A hA hA _).mono ?_
      rintro e w2 ⟨rfl, hb2⟩
      go_wp2
      go_roundw
      case rel =>
        refine ⟨k + 1, gm 8 29 A A, xs.set k A, by omega, hA', HA'.out, by rw [List.length_set]; exact hxl, HX'.out, rfl, by go_num, ?_, ?_, ?_, ?_⟩
        · exact (r0.other _ _ (by simp; omega)).below hb2 (by simp; omega)
        · exact (r1.other _ _ (by simp)).below hb2 (by simp; omega)
        · rw [← cells8_set]; exact (r2.set k _).below hb2 (by simp; omega)
        · exact (hbel.setCell (by simp; omega) _).trans (hb2.mono (by simp; omega))
      case measure => simp [intOf]; omega
    · have hke : k = 8 := by omega
      subst hke
      have HZ : Hid ((Tryd.prog.info? 135).map (·.size) = some (cells8 xs).size) := by show _ = _; rw [cells8_size, hxl]; kernel_rfl
      go_wp2_with (first
        | refine wpList_load_row rfl 135 (.tmp 5) rfl (w.heap.size + 1 + 1) rfl _ _ _ _ r2 Tryd.underlying135 rfl HZ.out ?_
        | refine wpList_store_row rfl 135 (.tmp 4) (.tmp 20) rfl (w.heap.size + 1) (cells8 xs) rfl rfl _ _ r1 HZ.out (by rw [cells8_size, cells8_size, hxl]; rfl) (cells8_one xs) ?_)
      refine bodyPost_ret (v := .agg (cells8 xs)) ?_ rfl ⟨xs, rfl, hxl, HX.out, ?_⟩
      · exact results_cell_row Tryd.results61 _ _ (w.heap.size + 1) _ _ _ _ rfl (r1.setRow _) Tryd.underlying135 rfl HZ.out
      · exact below_setRow hbel _ _ (by omega)
end Go.Proofs.YthdmaamocejodaaDoor
