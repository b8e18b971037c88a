import Derived.Test.YtfmafdjeonogjajLawInts
namespace Go.Proofs.Ytfmafdjeonogjaj
open Go.RowKit
/-! The laws' own ways with matrices. -/
theorem szi {p : Prop} [Decidable p] {x y z : Int} (h : p) (e : x = z) : (if p then x else y) = z := by rw [if_pos h, e]
theorem one3 (r c : Int) (a : Option Addr) (len cap : Nat) : (#[.int .i64 r, .int .i64 c, .slice a len cap] : Array Value).all (·.oneCell') = true := by simp [Value.oneCell']
set_option maxRecDepth 20000 in
set_option maxHeartbeats 400000 in
theorem eqMx (r c : Int) (a : Option Addr) (len cap : Nat) (a' : Option Addr) (len' cap' : Nat) (xs : List Int) (w : World) (h : Ints .i64 w a len cap xs) (h' : Ints .i64 w a' len' cap' xs) (hl : xs.length ≤ 1048576) :
    Calls Try.prog 14 #[.agg #[.int .i64 r, .int .i64 c, .slice a len cap], .agg #[.int .i64 r, .int .i64 c, .slice a' len' cap']] w fun e w' => e = .returned (.bool true) ∧ Below w.heap.size w w' := by
  have l1 := h.1
  have l2 := h'.1
  go_enter Try.func14, Try.ntmps14
  go_wp2_with fail
  refine (eq64 a len cap xs a' len' cap' xs _ ((h.alloc _).alloc _) ((h'.alloc _).alloc _) (by omega) (by omega) rfl).mono ?_
  rintro e w1 ⟨rfl, hb⟩
  go_wp2
  go_ret
  exact ⟨rfl, (((Below.refl _ _).alloc (Nat.le_refl _) _).alloc (by rw [size_al]; omega) _).trans (hb.mono (by rw [size_al, size_al]; omega))⟩
set_option maxRecDepth 20000 in
set_option maxHeartbeats 400000 in
theorem markMx (r c : Int) (base : Nat) (a : Option Addr) (len cap : Nat) (xs : List Int) (k0 : Nat) (w : World) (h : Ow w base a len cap xs) (hl : len ≤ 1048576) (hk0 : k0 ≤ 1073741824) :
    Calls Try.prog 15 #[.agg #[.int .i64 r, .int .i64 c, .slice a len cap], .int .i64 k0] w fun e w' => e = .returned (.int .i64 (k0 + len : Nat)) ∧ Ow w' base a len cap (marks k0 len) ∧ w.grownBy w' (blkOf a) := by
  go_enter Try.func15, Try.ntmps15
  go_wp2_with fail
  refine (markOw base a len cap xs k0 _ (h.alloc _) hl hk0).mono ?_
  rintro e w1 ⟨rfl, hw, hb⟩
  go_wp2
  go_ret
  exact ⟨rfl, hw, grown_trans (World.grownBy_alloc w _ _) hb⟩
set_option maxRecDepth 20000 in
set_option maxHeartbeats 400000 in
theorem heldMx (r c : Int) (base : Nat) (a : Option Addr) (len cap : Nat) (k0 : Nat) (w : World) (h : Ow w base a len cap (marks k0 len)) (hl : len ≤ 1048576) (hk0 : k0 ≤ 1073741824) :
    Calls Try.prog 16 #[.agg #[.int .i64 r, .int .i64 c, .slice a len cap], .int .i64 k0] w fun e w' => e = .returned (.int .i64 (k0 + len : Nat)) ∧ Below w.heap.size w w' := by
  have d0 : decide (((k0 + len : Nat) : Int) < 0) = false := by simp; omega
  go_enter Try.func16, Try.ntmps16
  go_wp2_with fail
  refine (heldOw base a len cap k0 _ (h.alloc _) hl hk0).mono ?_
  rintro e w1 ⟨rfl, rfl⟩
  go_wp2
  go_ret
  exact ⟨rfl, (Below.refl _ _).alloc (Nat.le_refl _) _⟩
set_option maxRecDepth 20000 in
set_option maxHeartbeats 400000 in
theorem eqMr (k r c : Int) (a : Option Addr) (len cap : Nat) (a' : Option Addr) (len' cap' : Nat) (xs : List Int) (w : World) (h : Ints .i64 w a len cap xs) (h' : Ints .i64 w a' len' cap' xs) (hl : xs.length ≤ 1048576) :
    Calls Try.prog 6 #[.agg #[.int .i64 k, .int .i64 r, .int .i64 c, .slice a len cap], .agg #[.int .i64 k, .int .i64 r, .int .i64 c, .slice a' len' cap']] w fun e w' => e = .returned (.bool true) ∧ Below w.heap.size w w' := by
  go_enter Try.func6, Try.ntmps6
  go_wp2_with fail
  refine (eqMx r c a len cap a' len' cap' xs _ ((h.alloc _).alloc _) ((h'.alloc _).alloc _) hl).mono ?_
  rintro e w1 ⟨rfl, hb⟩
  go_wp2
  go_ret
  exact ⟨rfl, (((Below.refl _ _).alloc (Nat.le_refl _) _).alloc (by rw [size_al]; omega) _).trans (hb.mono (by rw [size_al, size_al]; omega))⟩
set_option maxRecDepth 20000 in
set_option maxHeartbeats 400000 in
theorem markMr (k r c : Int) (base : Nat) (a : Option Addr) (len cap : Nat) (xs : List Int) (k0 : Nat) (w : World) (h : Ow w base a len cap xs) (hl : len ≤ 1048576) (hk0 : k0 ≤ 1073741824) :
    Calls Try.prog 7 #[.agg #[.int .i64 k, .int .i64 r, .int .i64 c, .slice a len cap], .int .i64 k0] w fun e w' => e = .returned (.int .i64 (k0 + len : Nat)) ∧ Ow w' base a len cap (marks k0 len) ∧ w.grownBy w' (blkOf a) := by
  go_enter Try.func7, Try.ntmps7
  go_wp2_with fail
  refine (markMx r c base a len cap xs k0 _ (h.alloc _) hl hk0).mono ?_
  rintro e w1 ⟨rfl, hw, hb⟩
  go_wp2
  go_ret
  exact ⟨rfl, hw, grown_trans (World.grownBy_alloc w _ _) hb⟩
set_option maxRecDepth 20000 in
set_option maxHeartbeats 400000 in
theorem heldMr (k r c : Int) (base : Nat) (a : Option Addr) (len cap : Nat) (k0 : Nat) (w : World) (h : Ow w base a len cap (marks k0 len)) (hl : len ≤ 1048576) (hk0 : k0 ≤ 1073741824) :
    Calls Try.prog 8 #[.agg #[.int .i64 k, .int .i64 r, .int .i64 c, .slice a len cap], .int .i64 k0] w fun e w' => e = .returned (.int .i64 (k0 + len : Nat)) ∧ Below w.heap.size w w' := by
  have d0 : decide (((k0 + len : Nat) : Int) < 0) = false := by simp; omega
  go_enter Try.func8, Try.ntmps8
  go_wp2_with fail
  refine (heldMx r c base a len cap k0 _ (h.alloc _) hl hk0).mono ?_
  rintro e w1 ⟨rfl, hb⟩
  go_wp2
  go_ret
  exact ⟨rfl, ((Below.refl _ _).alloc (Nat.le_refl _) _).trans (hb.mono (by rw [size_al]; omega))⟩
end Go.Proofs.Ytfmafdjeonogjaj
