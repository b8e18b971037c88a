import Derived.Test.YtlobnmcjnaibaaaDoorRInts
import Derived.Test.YtlobnmcjnaibaaaDoorRSPow
import Derived.Deep.RegionWith
import Derived.Deep.DrawnRows
namespace Go.Proofs.YtlobnmcjnaibaaaDoorR
open Go.RowKit
/-! The specification's matrices. -/
def nl (xs : List Nat) : List Int := xs.map (fun x : Nat => (x : Int))
theorem nl_len (xs : List Nat) : (nl xs).length = xs.length := by simp [nl]
theorem nl_at (xs : List Nat) (i : Nat) : (nl xs).getD i 0 = ((xs.getD i 0 : Nat) : Int) := by
  unfold nl
  rw [List.getD_eq_getElem?_getD, List.getD_eq_getElem?_getD, List.getElem?_map]
  cases xs[i]? <;> rfl
theorem nl_set (xs : List Nat) (i x : Nat) : (nl xs).set i (x : Int) = nl (xs.set i x) := by simp [nl, List.map_set]
theorem nl_zeros (q : Nat) : nl (List.replicate q 0) = List.replicate q 0 := by simp [nl]
def Small (xs : List Nat) : Prop := ∀ i, xs.getD i 0 < 256
/-- a matrix as a value -/
abbrev mxv (r c : Int) (a : Option Addr) (len cap : Nat) : Value := .agg #[.int .i64 r, .int .i64 c, .slice a len cap]
set_option maxRecDepth 20000 in
set_option maxHeartbeats 400000 in
theorem sat (r : Int) (C i j q : Nat) (a : Option Addr) (len cap : Nat) (xs : List Int) (w : World) (h : Ints .i64 w a len cap xs) (hq : (i : Int) * (C : Int) = (q : Int)) (hb : q + j < len) (hl : len ≤ 1048576) :
    Calls Tryd.prog 28 #[mxv r C a len cap, .int .i64 i, .int .i64 j] w fun e w' => e = .returned (.int .i64 (xs.getD (q + j) 0)) ∧ w' = w.alloc (.cells #[.int .i64 r, .int .i64 C, .slice a len cap] 25) := by
  rcases h.2.2 with h0 | ⟨b, off, rfl, hbl, hc⟩
  · omega
  · have c1 : w.cell? ⟨b, off + (q + j), none⟩ = some (.int .i64 (xs.getD (q + j) 0)) := hc (q + j) hb
    have i1 : ((q : Int) + (j : Int)) < (len : Int) := by omega
    have i0 : (0 : Int) ≤ (q : Int) + (j : Int) := by omega
    have e1 : ((q : Int) + (j : Int)).toNat = q + j := by omega
    obtain ⟨x, hx⟩ : ∃ x, x = xs.getD (q + j) 0 := ⟨_, rfl⟩
    rw [← hx] at c1 ⊢
    clear hx hc h
    go_enter Tryd.func28, Tryd.ntmps28
    go_wp2
    go_ret
    exact ⟨rfl, rfl⟩
theorem satn (r : Int) (C i j q X : Nat) (a : Option Addr) (len cap : Nat) (xs : List Nat) (w : World) (h : Ints .i64 w a len cap (nl xs)) (hq : Hid ((i : Int) * (C : Int) = (q : Int))) (hb : q + j < len) (hl : len ≤ 1048576) (HX : Hid (xs.getD (q + j) 0 = X)) :
    Calls Tryd.prog 28 #[mxv r C a len cap, .int .i64 i, .int .i64 j] w fun e w' => e = .returned (.int .i64 X) ∧ w' = w.alloc (.cells #[.int .i64 r, .int .i64 C, .slice a len cap] 25) := by
  have := sat r C i j q a len cap (nl xs) w h hq.out hb hl
  rw [nl_at, HX.out] at this; exact this
set_option maxRecDepth 20000 in
set_option maxHeartbeats 400000 in
theorem snew (R C q : Nat) (w : World) (hq : (R : Int) * (C : Int) = (q : Int)) (hl : q ≤ 1048576) :
    Calls Tryd.prog 27 #[.int .i64 R, .int .i64 C] w fun e w' => e = .returned (mxv R C (some ⟨w.heap.size + 1, 0, none⟩) q q) ∧ w' = (w.alloc (.cells #[.int .i64 R, .int .i64 C, .slice (some ⟨w.heap.size + 1, 0, none⟩) q q] 25)).alloc (.cells (ints .i64 (List.replicate q 0)) 2) := by
  have hmk := fun w => mk64 w q (by omega)
  go_enter Tryd.func27, Tryd.ntmps27
  go_wp2
  have r : RowAt ((w.alloc (.cells #[.int .i64 R, .int .i64 C, .slice (some ⟨w.heap.size + 1, 0, none⟩) q q] 25)).alloc (.cells (ints .i64 (List.replicate q 0)) 2)) w.heap.size 25 #[.int .i64 R, .int .i64 C, .slice (some ⟨w.heap.size + 1, 0, none⟩) q q] := (RowAt.new w _ _).alloc _
  refine bodyPost_ret (v := mxv R C (some ⟨w.heap.size + 1, 0, none⟩) q q) ?_ rfl ⟨rfl, rfl⟩
  · exact results_cell_row Tryd.results27 _ _ w.heap.size _ _ _ _ rfl r Tryd.underlying25 rfl (by kernel_rfl)
/-- what MatrixFault answers -/
def mfault (r c : Int) (xs : List Int) : Int := if 1 ≤ r ∧ r ≤ 64 ∧ 1 ≤ c ∧ c ≤ 64 ∧ (xs.length : Int) = r * c ∧ (∀ x ∈ xs, 0 ≤ x ∧ x < 256) then 0 else 1
theorem mfault_ok {r c : Int} {xs : List Int} (h : mfault r c xs = 0) : ∃ R C : Nat, r = R ∧ c = C ∧ 1 ≤ R ∧ R ≤ 64 ∧ 1 ≤ C ∧ C ≤ 64 ∧ ∃ ys : List Nat, xs = nl ys ∧ ys.length = R * C ∧ ∀ y ∈ ys, y < 256 := by
  unfold mfault at h
  by_cases g : 1 ≤ r ∧ r ≤ 64 ∧ 1 ≤ c ∧ c ≤ 64 ∧ (xs.length : Int) = r * c ∧ (∀ x ∈ xs, 0 ≤ x ∧ x < 256)
  · obtain ⟨g1, g2, g3, g4, g5, g6⟩ := g
    obtain ⟨R, rfl⟩ := Int.eq_ofNat_of_zero_le (show 0 ≤ r by omega)
    obtain ⟨C, rfl⟩ := Int.eq_ofNat_of_zero_le (show 0 ≤ c by omega)
    refine ⟨R, C, rfl, rfl, by omega, by omega, by omega, by omega, xs.map Int.toNat, ?_, ?_, ?_⟩
    · unfold nl
      rw [List.map_map]
      refine (List.map_id xs).symm.trans (List.map_congr_left fun x hx => ?_)
      have := g6 x hx
      show x = ((x.toNat : Nat) : Int); omega
    · rw [List.length_map]; exact_mod_cast g5
    · intro y hy
      obtain ⟨x, hx, rfl⟩ := List.mem_map.1 hy
      have := g6 x hx; omega
  · rw [if_neg g] at h; omega
set_option maxRecDepth 20000 in
set_option maxHeartbeats 2000000 in
theorem sfault (r c : Int) (a : Option Addr) (len cap : Nat) (xs : List Int) (w : World) (h : Ints .i64 w a len cap xs) (hl : len ≤ 1048576) :
    Calls Tryd.prog 8 #[mxv r c a len cap] w fun e w' => e = .returned (.int .i64 (mfault r c xs)) ∧ w' = w.alloc (.cells #[.int .i64 r, .int .i64 c, .slice a len cap] 25) := by
  have hx := h.1
  by_cases h1 : r < 1
  · have E : mfault r c xs = 1 := if_neg (by omega)
    rw [E]
    have d0 : decide (r < 1) = true := by simp; omega
    go_enter Tryd.func8, Tryd.ntmps8
    go_wp2
    go_ret
    exact ⟨rfl, rfl⟩
  have d0 : decide (r < 1) = false := by simp; omega
  by_cases h2 : 64 < r
  · have E : mfault r c xs = 1 := if_neg (by omega)
    rw [E]
    have d1 : decide (64 < r) = true := by simp; omega
    go_enter Tryd.func8, Tryd.ntmps8
    go_wp2
    go_ret
    exact ⟨rfl, rfl⟩
  have d1 : decide (64 < r) = false := by simp; omega
  by_cases h3 : c < 1
  · have E : mfault r c xs = 1 := if_neg (by omega)
    rw [E]
    have d2 : decide (c < 1) = true := by simp; omega
    go_enter Tryd.func8, Tryd.ntmps8
    go_wp2
    go_ret
    exact ⟨rfl, rfl⟩
  have d2 : decide (c < 1) = false := by simp; omega
  by_cases h4 : 64 < c
  · have E : mfault r c xs = 1 := if_neg (by omega)
    rw [E]
    have d3 : decide (64 < c) = true := by simp; omega
    go_enter Tryd.func8, Tryd.ntmps8
    go_wp2
    go_ret
    exact ⟨rfl, rfl⟩
  have d3 : decide (64 < c) = false := by simp; omega
  obtain ⟨R, rfl⟩ := Int.eq_ofNat_of_zero_le (show 0 ≤ r by omega)
  obtain ⟨C, rfl⟩ := Int.eq_ofNat_of_zero_le (show 0 ≤ c by omega)
  obtain ⟨q, hq⟩ : ∃ q : Nat, (R : Int) * (C : Int) = (q : Int) := ⟨R * C, by simp⟩
  have hq2 : q ≤ 4096 := by
    have : R * C ≤ 64 * 64 := Nat.mul_le_mul (by omega) (by omega)
    have e : (q : Int) = ((R * C : Nat) : Int) := by rw [← hq]; simp
    omega
  by_cases h5 : len = q
  · subst h5
    have HQ := hid hq
    go_enter Tryd.func8, Tryd.ntmps8
    go_wp2
    go_loop [3] (fun y => ∃ k : Nat, k ≤ len ∧ y = .int .i64 k ∧ ∀ i, i < k → 0 ≤ xs.getD i 0 ∧ xs.getD i 0 < 256) (fun y => len - (intOf y).toNat)
    case atStart => exact ⟨0, Nat.zero_le _, rfl, fun i hi => absurd hi (Nat.not_lt_zero _)⟩
    case round =>
      obtain ⟨k, hk, rfl, hall⟩ := hrel
      have HA := hid hall
      clear hall
      by_cases hlt : k < len
      · rcases h.2.2 with h00 | ⟨b, off, rfl, hbl, hc⟩
        · omega
        · have c1 : w.cell? ⟨b, off + k, none⟩ = some (.int .i64 (xs.getD k 0)) := hc k hlt
          have hlt' : (k : Int) < (len : Int) := by omega
          have i0 : (0 : Int) ≤ (k : Int) := by omega
          obtain ⟨x, hx2⟩ : ∃ x, x = xs.getD k 0 := ⟨_, rfl⟩
          have HX := hid hx2
          rw [← hx2] at c1
          clear hx2 hc h
          by_cases hin : 0 ≤ x ∧ x < 256
          · have e1 : inT 256 x = true := by unfold inT; simpa using hin
            have HA' : Hid (∀ i, i < k + 1 → 0 ≤ xs.getD i 0 ∧ xs.getD i 0 < 256) := fun i hi => by
              by_cases e : i = k
              · subst e; rw [← HX.out]; exact hin
              · exact HA.out i (by omega)
            have HI := hid hin
            clear hin
            go_wp2_with fail
            refine (sin x 256 _).mono ?_
            rintro e w2 ⟨rfl, rfl⟩
            rw [e1]
            clear e1
            go_wp2
            go_round
            case rel => exact ⟨k + 1, by omega, by go_num, HA'.out⟩
            case measure => simp [intOf]; omega
          · have e1 : inT 256 x = false := by unfold inT; simpa using hin
            have E : mfault R C xs = 1 := if_neg (by
              rintro ⟨_, _, _, _, _, g⟩
              refine hin (g x ?_)
              rw [HX.out, List.getD_eq_getElem?_getD, List.getElem?_eq_getElem (by omega)]; simp)
            clear hin
            go_wp2_with fail
            refine (sin x 256 _).mono ?_
            rintro e w2 ⟨rfl, rfl⟩
            rw [e1]
            clear e1
            go_wp2
            go_ret
            exact ⟨by first | rfl | (rw [E]; rfl), rfl⟩
      · have E : mfault R C xs = 0 := if_pos ⟨by omega, by omega, by omega, by omega, by rw [hx]; exact HQ.out.symm, fun x hxm => by
          obtain ⟨i, hi, rfl⟩ := List.getElem_of_mem hxm
          have := HA.out i (by omega)
          rw [List.getD_eq_getElem?_getD, List.getElem?_eq_getElem hi] at this; exact this⟩
        go_wp2
        go_ret
        exact ⟨by first | rfl | (rw [E]; rfl), rfl⟩
  · have E : mfault R C xs = 1 := if_neg (by rw [hx, hq]; omega)
    rw [E]
    have d4 : ((len : Int) != (q : Int)) = true := by simp; omega
    go_enter Tryd.func8, Tryd.ntmps8
    go_wp2
    go_ret
    exact ⟨rfl, rfl⟩
end Go.Proofs.YtlobnmcjnaibaaaDoorR
