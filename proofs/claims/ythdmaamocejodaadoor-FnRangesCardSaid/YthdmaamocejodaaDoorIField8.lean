import Derived.Test.YthdmaamocejodaaDoorSPow
import Derived.Test.YthdmaamocejodaaDoorRows1
import Derived.Deep.RegionHeld3
import Derived.Deep.RegionLaw
namespace Go.Proofs.YthdmaamocejodaaDoor
open Go.RowKit
/-! The program's field of 2 ^ 8 elements. -/
def box8 : Array Value := #[.int .u8 29]
/-- cells of numbers -/
def cells8 (xs : List Nat) : Array Value := (xs.map fun x : Nat => Value.int .u8 x).toArray
theorem cells8_size (xs : List Nat) : (cells8 xs).size = xs.length := by simp [cells8]
theorem cells8_at {xs : List Nat} {i x : Nat} (h : xs[i]? = some x) : (cells8 xs)[i]? = some (.int .u8 x) := by simp [cells8, h]
theorem cells8_set (xs : List Nat) (k A : Nat) : (cells8 xs).setIfInBounds k (.int .u8 A) = cells8 (xs.set k A) := by simp [cells8, List.map_set]
theorem cells8_one (xs : List Nat) : (cells8 xs).all (·.oneCell') = true := by
  rw [Array.all_eq_true']; intro x hx; simp [cells8] at hx; obtain ⟨y, _, rfl⟩ := hx; rfl
theorem xtI8 (A : Nat) (h : A < 256) : bits .xor .u8 (IntKind.u8.wrap (2 * (A : Int))) (IntKind.u8.wrap (29 * ((A : Int) / 128))) = ((xt 8 29 A : Nat) : Int) := by
  rw [IntKind.wrap_u8', IntKind.wrap_u8']
  have e1 : (2 * (A : Int)) % 256 = ((2 * A % 2 ^ 8 : Nat) : Int) := by omega
  have e2 : (29 * ((A : Int) / 128)) % 256 = ((if A.testBit (8 - 1) then 29 else 0 : Nat) : Int) := by
    rw [top_bit 8 A (by decide) h]
    by_cases ht : 2 ^ 8 ≤ 2 * A
    · rw [decide_eq_true ht, if_pos rfl]; omega
    · rw [decide_eq_false ht, if_neg (by decide)]; omega
  rw [e1, e2, u8_xor_nat _ _ (by omega) (by split <;> decide)]; rfl
set_option maxRecDepth 20000 in
set_option maxHeartbeats 400000 in
theorem len8 (w : World) : Calls Tryd.prog 66 #[.int .u16 255] w fun e w' => e = .returned (.int .i64 8) ∧ w' = w := by
  go_enter Tryd.func66, Tryd.ntmps66
  go_wp2
  go_ret
  exact ⟨by kernel_rfl, rfl⟩
set_option maxHeartbeats 400000 in
theorem field8 (w : World) : Calls Tryd.prog 55 #[] w fun e w' => e = .returned (.agg #[.int .u8 29]) ∧ w' = w.alloc (.cells #[.int .u8 29] 129) := by
  go_enter Tryd.func55, Tryd.ntmps55
  go_wp2
  exact bodyPost_ret (v := .agg #[.int .u8 29]) (by simp [results, Tryd.results55, go_sem]) rfl ⟨rfl, rfl⟩
set_option maxHeartbeats 400000 in
theorem width8 (w : World) : Calls Tryd.prog 63 #[.agg #[.int .u8 29]] w fun e w' => e = .returned (.int .i64 8) ∧ w' = w.alloc (.cells #[.int .u8 29] 129) := by
  go_enter Tryd.func63, Tryd.ntmps63
  go_wp2_with fail
  refine (len8 _).mono ?_
  rintro e w1 ⟨rfl, rfl⟩
  go_wp2
  go_ret
  exact ⟨rfl, rfl⟩
set_option maxHeartbeats 400000 in
theorem timesX8 (a : Nat) (ha : a < 256) (w : World) : Calls Tryd.prog 59 #[.agg #[.int .u8 29], .int .u8 a] w fun e w' => ∃ xs : List Nat, e = .returned (.agg (cells8 xs)) ∧ xs.length = 16 ∧ (∀ i, i < 8 → xs[i]? = some (itx 8 29 i a)) ∧ Below w.heap.size w w' := by
  go_enter Tryd.func59, Tryd.ntmps59
  go_wp2_with fail
  refine (width8 _).mono ?_
  rintro e w1 ⟨rfl, rfl⟩
  go_wp2
  go_loopw [1, 13] (fun x y wr => ∃ (k A : Nat) (xs : List Nat), k ≤ 8 ∧ A < 256 ∧ A = itx 8 29 k a ∧ xs.length = 16 ∧ (∀ i, i < k → xs[i]? = some (itx 8 29 i a)) ∧ x = .int .u8 A ∧ y = .int .i64 k ∧ RowAt wr w.heap.size 129 #[.int .u8 29] ∧ RowAt wr (w.heap.size + 1) 135 (cells8 zeros) ∧ RowAt wr (w.heap.size + 1 + 1) 135 (cells8 xs) ∧ Below w.heap.size w wr) (fun _ y _ => 8 - (intOf y).toNat)
  case atStart => 
    refine ⟨0, a, zeros, Nat.zero_le _, ha, rfl, rfl, fun i hi => by omega, rfl, rfl, ?_, ?_, ?_, ?_⟩
    · exact (((RowAt.new w _ _).alloc _).alloc _).alloc _
    · exact ((RowAt.next (w.alloc _) _ _ (by rw [size_al])).alloc _).alloc _
    · exact (RowAt.next ((w.alloc _).alloc _) _ _ (by rw [size_al, size_al])).alloc _
    · exact ((((Below.refl _ _).alloc (Nat.le_refl _) _).alloc (by simp) _).alloc (by simp; omega) _).alloc (by simp; omega) _
  case round =>
    obtain ⟨k, A, xs, hk, hA, hAk, hxl, hxs, rfl, rfl, r0, r1, r2, hbel⟩ := hrel
    have HAk : Hid (A = itx 8 29 k a) := hAk
    have HX : Hid (∀ i, i < k → xs[i]? = some (itx 8 29 i a)) := hxs
    clear hAk hxs
    by_cases hlt : k < 8
    · have hlt' : (k : Int) < 8 := by omega
      have f2 := r2.free k
      have c0 := r0.cell 0
      obtain ⟨x, hx⟩ : ∃ x, xs[k]? = some x := ⟨xs[k]'(by omega), List.getElem?_eq_getElem _⟩
      have c2 := (r2.cell k).trans (cells8_at hx)
      have e1 := xtI8 A hA
      have HX' : Hid (∀ i, i < k + 1 → (xs.set k A)[i]? = some (itx 8 29 i a)) := fun i hi => by
        by_cases hik : i = k
        · subst hik; rw [List.getElem?_set_self (by omega), ← HAk.out]
        · rw [List.getElem?_set_ne (by omega)]; exact HX.out i (by omega)
      have HA' : Hid (xt 8 29 A = itx 8 29 (k + 1) a) := by show _ = _; rw [itx_succ, ← HAk.out]
      have hA' : xt 8 29 A < 256 := xt_lt 8 29 A (by decide)
      clear hx
      go_wp2_with fail
      go_quiet (fail)
      go_wp2
      go_roundw
      case rel =>
        refine ⟨k + 1, xt 8 29 A, xs.set k A, by omega, hA', HA'.out, by rw [List.length_set]; exact hxl, HX'.out, rfl, by go_num, ?_, ?_, ?_, ?_⟩
        · exact (r0.other _ _ (by simp; omega)).drewN nq
        · exact (r1.other _ _ (by simp)).drewN nq
        · rw [← cells8_set]; exact (r2.set k _).drewN nq
        · exact below_drewN (hbel.setCell (by simp; omega) _) nq
      case measure => simp [intOf]; omega
    · have hke : k = 8 := by omega
      subst hke
      have hsz : (Tryd.prog.info? 135).map (·.size) = some (cells8 xs).size := by rw [cells8_size, hxl]; kernel_rfl
      have HZ := hid hsz
      clear hsz
      go_wp2_with (first
        | refine wpList_load_row rfl 135 (.tmp 5) rfl (w.heap.size + 1 + 1) rfl _ _ _ _ r2 Tryd.underlying135 rfl HZ.out ?_
        | refine wpList_store_row rfl 135 (.tmp 4) (.tmp 29) rfl (w.heap.size + 1) (cells8 xs) rfl rfl _ _ r1 HZ.out (by rw [cells8_size, cells8_size, hxl]; rfl) (cells8_one xs) ?_)
      refine bodyPost_ret (v := .agg (cells8 xs)) ?_ rfl ⟨xs, rfl, hxl, HX.out, ?_⟩
      · exact results_cell_row Tryd.results59 _ _ (w.heap.size + 1) _ _ _ _ rfl (r1.setRow _) Tryd.underlying135 rfl HZ.out
      · exact below_setRow hbel _ _ (by omega)
end Go.Proofs.YthdmaamocejodaaDoor
