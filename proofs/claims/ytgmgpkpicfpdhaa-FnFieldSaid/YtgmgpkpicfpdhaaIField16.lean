import Derived.Test.YtgmgpkpicfpdhaaSPow
import Derived.Test.YtgmgpkpicfpdhaaRows1
import Derived.Deep.RegionHeld3
import Derived.Deep.RegionLaw
namespace Go.Proofs.Ytgmgpkpicfpdhaa
open Go.RowKit
/-! The program's field of 2 ^ 16 elements. -/
def box16 : Array Value := #[.int .u16 4107]
/-- cells of numbers -/
def cells16 (xs : List Nat) : Array Value := (xs.map fun x : Nat => Value.int .u16 x).toArray
theorem cells16_size (xs : List Nat) : (cells16 xs).size = xs.length := by simp [cells16]
theorem cells16_at {xs : List Nat} {i x : Nat} (h : xs[i]? = some x) : (cells16 xs)[i]? = some (.int .u16 x) := by simp [cells16, h]
theorem cells16_set (xs : List Nat) (k A : Nat) : (cells16 xs).setIfInBounds k (.int .u16 A) = cells16 (xs.set k A) := by simp [cells16, List.map_set]
theorem cells16_one (xs : List Nat) : (cells16 xs).all (·.oneCell') = true := by
  rw [Array.all_eq_true']; intro x hx; simp [cells16] at hx; obtain ⟨y, _, rfl⟩ := hx; rfl
theorem xtI16 (A : Nat) (h : A < 65536) : bits .xor .u16 (IntKind.u16.wrap (2 * (A : Int))) (IntKind.u16.wrap (4107 * ((A : Int) / 32768))) = ((xt 16 4107 A : Nat) : Int) := by
  rw [IntKind.wrap_u16, IntKind.wrap_u16]
  have e1 : (2 * (A : Int)) % 65536 = ((2 * A % 2 ^ 16 : Nat) : Int) := by omega
  have e2 : (4107 * ((A : Int) / 32768)) % 65536 = ((if A.testBit (16 - 1) then 4107 else 0 : Nat) : Int) := by
    rw [top_bit 16 A (by decide) h]
    by_cases ht : 2 ^ 16 ≤ 2 * A
    · rw [decide_eq_true ht, if_pos rfl]; omega
    · rw [decide_eq_false ht, if_neg (by decide)]; omega
  rw [e1, e2, u16_xor_nat _ _ (by omega) (by split <;> decide)]; rfl
set_option maxRecDepth 20000 in
set_option maxHeartbeats 400000 in
theorem len16 (w : World) : Calls Try.prog 62 #[.int .u16 65535] w fun e w' => e = .returned (.int .i64 16) ∧ w' = w := by
  go_enter Try.func62, Try.ntmps62
  go_wp2
  go_ret
  exact ⟨by kernel_rfl, rfl⟩
set_option maxHeartbeats 400000 in
theorem field16 (w : World) : Calls Try.prog 39 #[] w fun e w' => e = .returned (.agg #[.int .u16 4107]) ∧ w' = w.alloc (.cells #[.int .u16 4107] 65) := by
  go_enter Try.func39, Try.ntmps39
  go_wp2
  exact bodyPost_ret (v := .agg #[.int .u16 4107]) (by simp [results, Try.results39, go_sem]) rfl ⟨rfl, rfl⟩
set_option maxHeartbeats 400000 in
theorem width16 (w : World) : Calls Try.prog 59 #[.agg #[.int .u16 4107]] w fun e w' => e = .returned (.int .i64 16) ∧ w' = w.alloc (.cells #[.int .u16 4107] 65) := by
  go_enter Try.func59, Try.ntmps59
  go_wp2_with fail
  refine (len16 _).mono ?_
  rintro e w1 ⟨rfl, rfl⟩
  go_wp2
  go_ret
  exact ⟨rfl, rfl⟩
set_option maxHeartbeats 400000 in
theorem timesX16 (a : Nat) (ha : a < 65536) (w : World) : Calls Try.prog 58 #[.agg #[.int .u16 4107], .int .u16 a] w fun e w' => ∃ xs : List Nat, e = .returned (.agg (cells16 xs)) ∧ xs.length = 16 ∧ (∀ i, i < 16 → xs[i]? = some (itx 16 4107 i a)) ∧ Below w.heap.size w w' := by
  go_enter Try.func58, Try.ntmps58
  go_wp2_with fail
  refine (width16 _).mono ?_
  rintro e w1 ⟨rfl, rfl⟩
  go_wp2
  go_loopw [1, 13] (fun x y wr => ∃ (k A : Nat) (xs : List Nat), k ≤ 16 ∧ A < 65536 ∧ A = itx 16 4107 k a ∧ xs.length = 16 ∧ (∀ i, i < k → xs[i]? = some (itx 16 4107 i a)) ∧ x = .int .u16 A ∧ y = .int .i64 k ∧ RowAt wr w.heap.size 65 #[.int .u16 4107] ∧ RowAt wr (w.heap.size + 1) 79 (cells16 zeros) ∧ RowAt wr (w.heap.size + 1 + 1) 79 (cells16 xs) ∧ Below w.heap.size w wr) (fun _ y _ => 16 - (intOf y).toNat)
  case atStart => 
    refine ⟨0, a, zeros, Nat.zero_le _, ha, rfl, rfl, fun i hi => by omega, rfl, rfl, ?_, ?_, ?_, ?_⟩
    · exact (((RowAt.new w _ _).alloc _).alloc _).alloc _
    · exact ((RowAt.next (w.alloc _) _ _ (by rw [size_al])).alloc _).alloc _
    · exact (RowAt.next ((w.alloc _).alloc _) _ _ (by rw [size_al, size_al])).alloc _
    · exact ((((Below.refl _ _).alloc (Nat.le_refl _) _).alloc (by simp) _).alloc (by simp; omega) _).alloc (by simp; omega) _
  case round =>
    obtain ⟨k, A, xs, hk, hA, hAk, hxl, hxs, rfl, rfl, r0, r1, r2, hbel⟩ := hrel
    have HAk : Hid (A = itx 16 4107 k a) := hAk
    have HX : Hid (∀ i, i < k → xs[i]? = some (itx 16 4107 i a)) := hxs
    clear hAk hxs
    by_cases hlt : k < 16
    · have hlt' : (k : Int) < 16 := by omega
      have f2 := r2.free k
      have c0 := r0.cell 0
      obtain ⟨x, hx⟩ : ∃ x, xs[k]? = some x := ⟨xs[k]'(by omega), List.getElem?_eq_getElem _⟩
      have c2 := (r2.cell k).trans (cells16_at hx)
      have e1 := xtI16 A hA
      have HX' : Hid (∀ i, i < k + 1 → (xs.set k A)[i]? = some (itx 16 4107 i a)) := fun i hi => by
        by_cases hik : i = k
        · subst hik; rw [List.getElem?_set_self (by omega), ← HAk.out]
        · rw [List.getElem?_set_ne (by omega)]; exact HX.out i (by omega)
      have HA' : Hid (xt 16 4107 A = itx 16 4107 (k + 1) a) := by show _ = _; rw [itx_succ, ← HAk.out]
      have hA' : xt 16 4107 A < 65536 := xt_lt 16 4107 A (by decide)
      clear hx
      go_wp2_with fail
      go_quiet (fail)
      go_wp2
      go_roundw
      case rel =>
        refine ⟨k + 1, xt 16 4107 A, xs.set k A, by omega, hA', HA'.out, by rw [List.length_set]; exact hxl, HX'.out, rfl, by go_num, ?_, ?_, ?_, ?_⟩
        · exact (r0.other _ _ (by simp; omega)).drewN nq
        · exact (r1.other _ _ (by simp)).drewN nq
        · rw [← cells16_set]; exact (r2.set k _).drewN nq
        · exact below_drewN (hbel.setCell (by simp; omega) _) nq
      case measure => simp [intOf]; omega
    · have hke : k = 16 := by omega
      subst hke
      have hsz : (Try.prog.info? 79).map (·.size) = some (cells16 xs).size := by rw [cells16_size, hxl]; kernel_rfl
      have HZ := hid hsz
      clear hsz
      go_wp2_with (first
        | refine wpList_load_row rfl 79 (.tmp 5) rfl (w.heap.size + 1 + 1) rfl _ _ _ _ r2 Try.underlying79 rfl HZ.out ?_
        | refine wpList_store_row rfl 79 (.tmp 4) (.tmp 29) rfl (w.heap.size + 1) (cells16 xs) rfl rfl _ _ r1 HZ.out (by rw [cells16_size, cells16_size, hxl]; rfl) (cells16_one xs) ?_)
      refine bodyPost_ret (v := .agg (cells16 xs)) ?_ rfl ⟨xs, rfl, hxl, HX.out, ?_⟩
      · exact results_cell_row Try.results58 _ _ (w.heap.size + 1) _ _ _ _ rfl (r1.setRow _) Try.underlying79 rfl HZ.out
      · exact below_setRow hbel _ _ (by omega)
end Go.Proofs.Ytgmgpkpicfpdhaa
