import Derived.Test.YtgmgpkpicfpdhaaIProd16
import Derived.Test.YtgmgpkpicfpdhaaFieldPow
namespace Go.Proofs.Ytgmgpkpicfpdhaa
open Go.RowKit
set_option maxRecDepth 20000 in
set_option maxHeartbeats 1000000 in
theorem squarings16 (a : Nat) (ha : a < 65536) (w : World) : Calls Try.prog 63 #[.agg #[.int .u16 4107], .int .u16 a] w fun e w' => ∃ xs : List Nat, e = .returned (.agg (cells16 xs)) ∧ xs.length = 16 ∧ (∀ i, i < 16 → xs[i]? = some (sqs 16 4107 i a)) ∧ Below w.heap.size w w' := by
  go_enter Try.func63, Try.ntmps63
  go_wp2_with fail
  refine (width16 _).mono ?_
  rintro e w1 ⟨rfl, rfl⟩
  go_wp2
  go_loopw [1, 9] (fun x y wr => ∃ (k A : Nat) (xs : List Nat), k ≤ 16 ∧ A < 65536 ∧ A = sqs 16 4107 k a ∧ xs.length = 16 ∧ (∀ i, i < k → xs[i]? = some (sqs 16 4107 i a)) ∧ x = .int .u16 A ∧ y = .int .i64 k ∧ RowAt wr w.heap.size 65 #[.int .u16 4107] ∧ RowAt wr (w.heap.size + 1) 79 (cells16 zeros) ∧ RowAt wr (w.heap.size + 1 + 1) 79 (cells16 xs) ∧ Below w.heap.size w wr) (fun _ y _ => 16 - (intOf y).toNat)
  case atStart =>
    refine ⟨0, a, zeros, Nat.zero_le _, ha, rfl, rfl, fun i hi => by omega, rfl, rfl, ?_, ?_, ?_, ?_⟩
    · exact (((RowAt.new w _ _).alloc _).alloc _).alloc _
    · exact ((RowAt.next (w.alloc _) _ _ (by rw [size_al])).alloc _).alloc _
    · exact (RowAt.next ((w.alloc _).alloc _) _ _ (by rw [size_al, size_al])).alloc _
    · exact ((((Below.refl _ _).alloc (Nat.le_refl _) _).alloc (by simp) _).alloc (by simp; omega) _).alloc (by simp; omega) _
  case round =>
    obtain ⟨k, A, xs, hk, hA, hAk, hxl, hxs, rfl, rfl, r0, r1, r2, hbel⟩ := hrel
    have HAk : Hid (A = sqs 16 4107 k a) := hAk
    have HX : Hid (∀ i, i < k → xs[i]? = some (sqs 16 4107 i a)) := hxs
    clear hAk hxs
    have l2 := r2.lt
    by_cases hlt : k < 16
    · have hlt' : (k : Int) < 16 := by omega
      have i0 : (0 : Int) ≤ (k : Int) := by omega
      have i1 : (k : Int) < 16 := by omega
      have f2 := r2.free k
      have c0 := (r0.other ⟨w.heap.size + 1 + 1, k, none⟩ (.int .u16 A) (by simp; omega)).cell 0
      obtain ⟨x, hx⟩ : ∃ x, xs[k]? = some x := ⟨xs[k]'(by omega), List.getElem?_eq_getElem _⟩
      have c2 := (r2.cell k).trans (cells16_at hx)
      have HX' : Hid (∀ i, i < k + 1 → (xs.set k A)[i]? = some (sqs 16 4107 i a)) := fun i hi => by
        by_cases hik : i = k
        · subst hik; rw [List.getElem?_set_self (by omega), ← HAk.out]
        · rw [List.getElem?_set_ne (by omega)]; exact HX.out i (by omega)
      have HA' : Hid (gm 16 4107 A A = sqs 16 4107 (k + 1) a) := by show _ = _; rw [sqs_succ, ← HAk.out]
      have hA' : gm 16 4107 A A < 65536 := gm_lt fld16.toFld A hA
      clear hx
      go_wp2_with fail
      refine (product16 A A hA hA _).mono ?_
      rintro e w2 ⟨rfl, hb2⟩
      go_wp2
      go_roundw
      case rel =>
        refine ⟨k + 1, gm 16 4107 A A, xs.set k A, by omega, hA', HA'.out, by rw [List.length_set]; exact hxl, HX'.out, rfl, by go_num, ?_, ?_, ?_, ?_⟩
        · exact (r0.other _ _ (by simp; omega)).below hb2 (by simp; omega)
        · exact (r1.other _ _ (by simp)).below hb2 (by simp; omega)
        · rw [← cells16_set]; exact (r2.set k _).below hb2 (by simp; omega)
        · exact (hbel.setCell (by simp; omega) _).trans (hb2.mono (by simp; omega))
      case measure => simp [intOf]; omega
    · have hke : k = 16 := by omega
      subst hke
      have HZ : Hid ((Try.prog.info? 79).map (·.size) = some (cells16 xs).size) := by show _ = _; rw [cells16_size, hxl]; kernel_rfl
      go_wp2_with (first
        | refine wpList_load_row rfl 79 (.tmp 5) rfl (w.heap.size + 1 + 1) rfl _ _ _ _ r2 Try.underlying79 rfl HZ.out ?_
        | refine wpList_store_row rfl 79 (.tmp 4) (.tmp 20) rfl (w.heap.size + 1) (cells16 xs) rfl rfl _ _ r1 HZ.out (by rw [cells16_size, cells16_size, hxl]; rfl) (cells16_one xs) ?_)
      refine bodyPost_ret (v := .agg (cells16 xs)) ?_ rfl ⟨xs, rfl, hxl, HX.out, ?_⟩
      · exact results_cell_row Try.results63 _ _ (w.heap.size + 1) _ _ _ _ rfl (r1.setRow _) Try.underlying79 rfl HZ.out
      · exact below_setRow hbel _ _ (by omega)
end Go.Proofs.Ytgmgpkpicfpdhaa
