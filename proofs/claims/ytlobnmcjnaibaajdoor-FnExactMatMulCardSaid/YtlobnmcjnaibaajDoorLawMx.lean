import Derived.Test.YtlobnmcjnaibaajDoorLawInts
namespace Go.Proofs.YtlobnmcjnaibaajDoor
open Go.RowKit
/-! The laws' own ways with matrices. -/
theorem szi {p : Prop} [Decidable p] {x y z : Int} (h : p) (e : x = z) : (if p then x else y) = z := by rw [if_pos h, e]
theorem one3 (r c : Int) (a : Option Addr) (len cap : Nat) : (#[.int .i64 r, .int .i64 c, .slice a len cap] : Array Value).all (·.oneCell') = true := by simp [Value.oneCell']
set_option maxRecDepth 20000 in
set_option maxHeartbeats 400000 in
theorem szMx (r c : Int) (a : Option Addr) (len cap : Nat) (L : Int) (h0 : 0 ≤ L) (h1 : L ≤ 1048576) (hl : len ≤ 9223372036854775807) (w : World) :
    Calls Tryd.prog 6 #[.agg #[.int .i64 r, .int .i64 c, .slice a len cap], .int .i64 L] w fun e w' => e = .returned (.int .i64 (if (len : Int) ≤ L then L - len else -1)) ∧ Below w.heap.size w w' := by
  obtain ⟨z, hz⟩ : ∃ z : Int, (if (len : Int) ≤ L then L - (len : Int) else -1) = z := ⟨_, rfl⟩
  have hzb : z = -1 ∨ 0 ≤ z := by subst hz; split <;> omega
  rw [hz]
  go_enter Tryd.func6, Tryd.ntmps6
  go_wp2_with fail
  refine (sz64 a len cap L h0 h1 hl _).mono ?_
  rintro e w1 ⟨rfl, rfl⟩
  rw [hz]
  clear hz
  rcases hzb with rfl | hzb
  · go_wp2
    go_ret
    exact ⟨rfl, (Below.refl _ _).alloc (Nat.le_refl _) _⟩
  · have d0 : decide (z < 0) = false := by simp; omega
    go_wp2
    go_ret
    exact ⟨rfl, (Below.refl _ _).alloc (Nat.le_refl _) _⟩
set_option maxRecDepth 20000 in
set_option maxHeartbeats 400000 in
theorem toMx (r c : Int) (a : Option Addr) (len cap : Nat) (xs : List Int) (w : World) (h : Ints .i64 w a len cap xs) (hl : len ≤ 1048576) :
    Calls Tryd.prog 8 #[.agg #[.int .i64 r, .int .i64 c, .slice a len cap]] w fun e w' => ∃ b, e = .returned (.agg #[.int .i64 r, .int .i64 c, .slice (some ⟨b, 0, none⟩) len len]) ∧ w.heap.size ≤ b ∧ Wr .i64 w' b 0 xs ∧ Below w.heap.size w w' := by
  go_enter Tryd.func8, Tryd.ntmps8
  go_wp2_with fail
  refine (to64 a len cap xs _ (((h.alloc _).alloc _).alloc _) hl).mono ?_
  rintro e w1 ⟨rfl, hw, hb⟩
  simp only [size_al] at hw hb ⊢
  have r1 : RowAt w1 (w.heap.size + 1) 26 #[.int .i64 0, .int .i64 0, .slice none 0 0] := ((RowAt.next (w.alloc _) _ _ (by rw [size_al])).alloc _).below hb (by omega)
  have r2 : RowAt w1 (w.heap.size + 1 + 1) 26 #[.int .i64 r, .int .i64 c, .slice none 0 0] := (RowAt.next ((w.alloc _).alloc _) _ _ (by rw [size_al, size_al])).below hb (by omega)
  have f2 := r2.free 2
  have c2 := r2.cell 2
  have q1 := r1.other ⟨w.heap.size + 1 + 1, 2, none⟩ (.slice (some ⟨w.heap.size + 1 + 1 + 1, 0, none⟩) len len) (by simp)
  have q2 := r2.set 2 (.slice (some ⟨w.heap.size + 1 + 1 + 1, 0, none⟩) len len)
  have qw := hw.other ⟨w.heap.size + 1 + 1, 2, none⟩ (.slice (some ⟨w.heap.size + 1 + 1 + 1, 0, none⟩) len len) (by simp)
  have hbel : Below w.heap.size w w1 := ((((Below.refl _ _).alloc (Nat.le_refl _) _).alloc (by rw [size_al]; omega) _).alloc (by rw [size_al, size_al]; omega) _).trans (hb.mono (by omega))
  have qb := hbel.setCell (p := ⟨w.heap.size + 1 + 1, 2, none⟩) (by show w.heap.size ≤ w.heap.size + 1 + 1; omega) (.slice (some ⟨w.heap.size + 1 + 1 + 1, 0, none⟩) len len)
  have Q1 := hid q1
  have Q2 := hid q2
  have QW := hid qw
  have QB := hid qb
  clear q1 q2 qw qb hw hb hbel r1 r2
  go_wp2_with (first
    | refine wpList_load_row rfl 26 (.tmp 3) rfl (w.heap.size + 1 + 1) rfl _ _ _ _ Q2.out Tryd.underlying26 rfl (by kernel_rfl) ?_
    | refine wpList_store_row rfl 26 (.tmp 2) (.tmp 14) rfl (w.heap.size + 1) #[.int .i64 r, .int .i64 c, .slice (some ⟨w.heap.size + 1 + 1 + 1, 0, none⟩) len len] rfl rfl _ _ Q1.out (by kernel_rfl) rfl (one3 _ _ _ _ _) ?_)
  refine bodyPost_ret (v := .agg #[.int .i64 r, .int .i64 c, .slice (some ⟨w.heap.size + 1 + 1 + 1, 0, none⟩) len len]) ?_ rfl ⟨w.heap.size + 1 + 1 + 1, rfl, by omega, ?_, ?_⟩
  · exact results_cell_row Tryd.results8 _ _ (w.heap.size + 1) _ _ _ _ rfl (Q1.out.setRow _) Tryd.underlying26 rfl (by kernel_rfl)
  · exact wr_setRow QW.out _ (by omega)
  · exact below_setRow QB.out _ _ (by omega)
set_option maxRecDepth 20000 in
set_option maxHeartbeats 400000 in
theorem eqMx (r c : Int) (a : Option Addr) (len cap : Nat) (a' : Option Addr) (len' cap' : Nat) (xs : List Int) (w : World) (h : Ints .i64 w a len cap xs) (h' : Ints .i64 w a' len' cap' xs) (hl : xs.length ≤ 1048576) :
    Calls Tryd.prog 11 #[.agg #[.int .i64 r, .int .i64 c, .slice a len cap], .agg #[.int .i64 r, .int .i64 c, .slice a' len' cap']] w fun e w' => e = .returned (.bool true) ∧ Below w.heap.size w w' := by
  have l1 := h.1
  have l2 := h'.1
  go_enter Tryd.func11, Tryd.ntmps11
  go_wp2_with fail
  refine (eq64 a len cap xs a' len' cap' xs _ ((h.alloc _).alloc _) ((h'.alloc _).alloc _) (by omega) (by omega) rfl).mono ?_
  rintro e w1 ⟨rfl, hb⟩
  go_wp2
  go_ret
  exact ⟨rfl, (((Below.refl _ _).alloc (Nat.le_refl _) _).alloc (by rw [size_al]; omega) _).trans (hb.mono (by rw [size_al, size_al]; omega))⟩
set_option maxRecDepth 20000 in
set_option maxHeartbeats 400000 in
theorem markMx (r c : Int) (base : Nat) (a : Option Addr) (len cap : Nat) (xs : List Int) (k0 : Nat) (w : World) (h : Ow w base a len cap xs) (hl : len ≤ 1048576) (hk0 : k0 ≤ 1073741824) :
    Calls Tryd.prog 12 #[.agg #[.int .i64 r, .int .i64 c, .slice a len cap], .int .i64 k0] w fun e w' => e = .returned (.int .i64 (k0 + len : Nat)) ∧ Ow w' base a len cap (marks k0 len) ∧ w.grownBy w' (blkOf a) := by
  go_enter Tryd.func12, Tryd.ntmps12
  go_wp2_with fail
  refine (markOw base a len cap xs k0 _ (h.alloc _) hl hk0).mono ?_
  rintro e w1 ⟨rfl, hw, hb⟩
  go_wp2
  go_ret
  exact ⟨rfl, hw, grown_trans (World.grownBy_alloc w _ _) hb⟩
set_option maxRecDepth 20000 in
set_option maxHeartbeats 400000 in
theorem heldMx (r c : Int) (base : Nat) (a : Option Addr) (len cap : Nat) (k0 : Nat) (w : World) (h : Ow w base a len cap (marks k0 len)) (hl : len ≤ 1048576) (hk0 : k0 ≤ 1073741824) :
    Calls Tryd.prog 31 #[.agg #[.int .i64 r, .int .i64 c, .slice a len cap], .int .i64 k0] w fun e w' => e = .returned (.int .i64 (k0 + len : Nat)) ∧ Below w.heap.size w w' := by
  have d0 : decide (((k0 + len : Nat) : Int) < 0) = false := by simp; omega
  go_enter Tryd.func31, Tryd.ntmps31
  go_wp2_with fail
  refine (heldOw base a len cap k0 _ (h.alloc _) hl hk0).mono ?_
  rintro e w1 ⟨rfl, rfl⟩
  go_wp2
  go_ret
  exact ⟨rfl, (Below.refl _ _).alloc (Nat.le_refl _) _⟩
set_option maxRecDepth 20000 in
set_option maxHeartbeats 400000 in
theorem eqMr (k r c : Int) (a : Option Addr) (len cap : Nat) (a' : Option Addr) (len' cap' : Nat) (xs : List Int) (w : World) (h : Ints .i64 w a len cap xs) (h' : Ints .i64 w a' len' cap' xs) (hl : xs.length ≤ 1048576) :
    Calls Tryd.prog 10 #[.agg #[.int .i64 k, .int .i64 r, .int .i64 c, .slice a len cap], .agg #[.int .i64 k, .int .i64 r, .int .i64 c, .slice a' len' cap']] w fun e w' => e = .returned (.bool true) ∧ Below w.heap.size w w' := by
  go_enter Tryd.func10, Tryd.ntmps10
  go_wp2_with fail
  refine (eqMx r c a len cap a' len' cap' xs _ ((h.alloc _).alloc _) ((h'.alloc _).alloc _) hl).mono ?_
  rintro e w1 ⟨rfl, hb⟩
  go_wp2
  go_ret
  exact ⟨rfl, (((Below.refl _ _).alloc (Nat.le_refl _) _).alloc (by rw [size_al]; omega) _).trans (hb.mono (by rw [size_al, size_al]; omega))⟩
set_option maxRecDepth 20000 in
set_option maxHeartbeats 400000 in
theorem markMr (k r c : Int) (base : Nat) (a : Option Addr) (len cap : Nat) (xs : List Int) (k0 : Nat) (w : World) (h : Ow w base a len cap xs) (hl : len ≤ 1048576) (hk0 : k0 ≤ 1073741824) :
    Calls Tryd.prog 13 #[.agg #[.int .i64 k, .int .i64 r, .int .i64 c, .slice a len cap], .int .i64 k0] w fun e w' => e = .returned (.int .i64 (k0 + len : Nat)) ∧ Ow w' base a len cap (marks k0 len) ∧ w.grownBy w' (blkOf a) := by
  go_enter Tryd.func13, Tryd.ntmps13
  go_wp2_with fail
  refine (markMx r c base a len cap xs k0 _ (h.alloc _) hl hk0).mono ?_
  rintro e w1 ⟨rfl, hw, hb⟩
  go_wp2
  go_ret
  exact ⟨rfl, hw, grown_trans (World.grownBy_alloc w _ _) hb⟩
set_option maxRecDepth 20000 in
set_option maxHeartbeats 400000 in
theorem heldMr (k r c : Int) (base : Nat) (a : Option Addr) (len cap : Nat) (k0 : Nat) (w : World) (h : Ow w base a len cap (marks k0 len)) (hl : len ≤ 1048576) (hk0 : k0 ≤ 1073741824) :
    Calls Tryd.prog 14 #[.agg #[.int .i64 k, .int .i64 r, .int .i64 c, .slice a len cap], .int .i64 k0] w fun e w' => e = .returned (.int .i64 (k0 + len : Nat)) ∧ Below w.heap.size w w' := by
  have d0 : decide (((k0 + len : Nat) : Int) < 0) = false := by simp; omega
  go_enter Tryd.func14, Tryd.ntmps14
  go_wp2_with fail
  refine (heldMx r c base a len cap k0 _ (h.alloc _) hl hk0).mono ?_
  rintro e w1 ⟨rfl, hb⟩
  go_wp2
  go_ret
  exact ⟨rfl, ((Below.refl _ _).alloc (Nat.le_refl _) _).trans (hb.mono (by rw [size_al]; omega))⟩
end Go.Proofs.YtlobnmcjnaibaajDoor
