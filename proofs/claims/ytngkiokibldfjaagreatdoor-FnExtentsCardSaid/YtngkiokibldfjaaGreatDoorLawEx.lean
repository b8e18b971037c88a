import Derived.Test.YtngkiokibldfjaaGreatDoorPB
import Derived.Test.YtngkiokibldfjaaGreatDoorPA
import Derived.WalkLawsBesides
import Derived.WalkSpells
import Derived.OpenShut
import Derived.BigQuiet
import Derived.Deep.QuietTactic
import Derived.Deep.RegionHeld3
import Derived.Deep.CutRange
namespace Go.Proofs.YtngkiokibldfjaaGreatDoor
open Go.RowKit
/-! An extent's operations: what the laws do with them. -/
structure Op where
  kd : Int
  ky : ByteArray
  dt : ByteArray
  kp : Int
  at_ : Int
  tn : Int
def Op.row (o : Op) : Array Value := #[.int .i64 o.kd, .string o.ky, .string o.dt, .int .i64 o.kp, .int .i64 o.at_, .int .i64 o.tn]
/-- the cells of a row of operations -/
def exF (o : Nat → Op) (p : Nat) : Value :=
  if p % 6 = 0 then .int .i64 (o (p / 6)).kd else if p % 6 = 1 then .string (o (p / 6)).ky else if p % 6 = 2 then .string (o (p / 6)).dt
  else if p % 6 = 3 then .int .i64 (o (p / 6)).kp else if p % 6 = 4 then .int .i64 (o (p / 6)).at_ else .int .i64 (o (p / 6)).tn
theorem exF0 (o : Nat → Op) (k : Nat) : exF o (k * 6) = .int .i64 (o k).kd := by unfold exF; rw [if_pos (by omega), show k * 6 / 6 = k by omega]
theorem exF1 (o : Nat → Op) (k : Nat) : exF o (k * 6 + 1) = .string (o k).ky := by unfold exF; rw [if_neg (by omega), if_pos (by omega), show (k * 6 + 1) / 6 = k by omega]
theorem exF2 (o : Nat → Op) (k : Nat) : exF o (k * 6 + 2) = .string (o k).dt := by unfold exF; rw [if_neg (by omega), if_neg (by omega), if_pos (by omega), show (k * 6 + 2) / 6 = k by omega]
theorem exF3 (o : Nat → Op) (k : Nat) : exF o (k * 6 + 3) = .int .i64 (o k).kp := by unfold exF; rw [if_neg (by omega), if_neg (by omega), if_neg (by omega), if_pos (by omega), show (k * 6 + 3) / 6 = k by omega]
theorem exF4 (o : Nat → Op) (k : Nat) : exF o (k * 6 + 4) = .int .i64 (o k).at_ := by unfold exF; rw [if_neg (by omega), if_neg (by omega), if_neg (by omega), if_neg (by omega), if_pos (by omega), show (k * 6 + 4) / 6 = k by omega]
theorem exF5 (o : Nat → Op) (k : Nat) : exF o (k * 6 + 5) = .int .i64 (o k).tn := by unfold exF; rw [if_neg (by omega), if_neg (by omega), if_neg (by omega), if_neg (by omega), if_neg (by omega), show (k * 6 + 5) / 6 = k by omega]
/-- a slice of operations that is read -/
def Exs (w : World) (a : Option Addr) (n cap : Nat) (o : Nat → Op) : Prop :=
  n ≤ cap ∧ (n = 0 ∨ ∃ b off, a = some ⟨b, off, none⟩ ∧ b < w.heap.size ∧ ∀ k, k < n → w.cell? ⟨b, off + k * 6, none⟩ = some (.int .i64 (o k).kd) ∧ w.cell? ⟨b, off + k * 6 + 1, none⟩ = some (.string (o k).ky) ∧ w.cell? ⟨b, off + k * 6 + 2, none⟩ = some (.string (o k).dt) ∧ w.cell? ⟨b, off + k * 6 + 3, none⟩ = some (.int .i64 (o k).kp) ∧ w.cell? ⟨b, off + k * 6 + 4, none⟩ = some (.int .i64 (o k).at_) ∧ w.cell? ⟨b, off + k * 6 + 5, none⟩ = some (.int .i64 (o k).tn))
theorem Exs.below {w w' : World} {a : Option Addr} {n cap : Nat} {o : Nat → Op} (h : Exs w a n cap o) (hb : Below w.heap.size w w') : Exs w' a n cap o := by
  refine ⟨h.1, ?_⟩
  rcases h.2 with h0 | ⟨b, off, rfl, h1, h2⟩
  · exact Or.inl h0
  · refine Or.inr ⟨b, off, rfl, Nat.lt_of_lt_of_le h1 hb.size, fun k hk => ?_⟩
    obtain ⟨c0, c1, c2, c3, c4, c5⟩ := h2 k hk
    exact ⟨(hb.cell (p := ⟨b, _, none⟩) h1).trans c0, (hb.cell (p := ⟨b, _, none⟩) h1).trans c1, (hb.cell (p := ⟨b, _, none⟩) h1).trans c2, (hb.cell (p := ⟨b, _, none⟩) h1).trans c3, (hb.cell (p := ⟨b, _, none⟩) h1).trans c4, (hb.cell (p := ⟨b, _, none⟩) h1).trans c5⟩
theorem Exs.of_row {w : World} {b : Nat} {t : TypeId} {n : Nat} {o : Nat → Op} (h : FRow w b t (n * 6) (exF o)) : Exs w (some ⟨b, 0, none⟩) n n o := by
  refine ⟨Nat.le_refl _, Or.inr ⟨b, 0, rfl, h.lt, fun k hk => ?_⟩⟩
  have g0 := h.cell (show k * 6 < n * 6 by omega)
  have g1 := h.cell (show k * 6 + 1 < n * 6 by omega)
  have g2 := h.cell (show k * 6 + 2 < n * 6 by omega)
  have g3 := h.cell (show k * 6 + 3 < n * 6 by omega)
  have g4 := h.cell (show k * 6 + 4 < n * 6 by omega)
  have g5 := h.cell (show k * 6 + 5 < n * 6 by omega)
  rw [exF0] at g0
  rw [exF1] at g1
  rw [exF2] at g2
  rw [exF3] at g3
  rw [exF4] at g4
  rw [exF5] at g5
  simp only [Nat.zero_add]
  exact ⟨g0, g1, g2, g3, g4, g5⟩
/-- how much the laws count operations -/
def szO (o : Nat → Op) : Nat → Nat
  | 0 => 0
  | k + 1 => szO o k + (o k).ky.size + (o k).dt.size
theorem szO_mono (o : Nat → Op) {j k : Nat} (h : j ≤ k) : szO o j ≤ szO o k := by
  induction k with
  | zero => rw [Nat.le_zero.mp h]; exact Nat.le_refl _
  | succ k ih => rcases Nat.lt_or_ge j (k + 1) with h1 | h1
                 · have := ih (by omega); show _ ≤ szO o k + _ + _; omega
                 · rw [show j = k + 1 by omega]; exact Nat.le_refl _
set_option maxRecDepth 20000 in
set_option maxHeartbeats 1000000 in
theorem eqOp (i : Int) (k d : ByteArray) (x y z : Int) (w : World) :
    Calls Tryz.prog 41 #[.agg #[.int .i64 i, .string k, .string d, .int .i64 x, .int .i64 y, .int .i64 z], .agg #[.int .i64 i, .string k, .string d, .int .i64 x, .int .i64 y, .int .i64 z]] w fun e w' => e = .returned (.bool true) ∧ Below w.heap.size w w' := by
  have d0 : (i != i) = false := by simp
  have d1 : (x != x) = false := by simp
  have d2 : (y != y) = false := by simp
  have d3 : (z != z) = false := by simp
  go_enter Tryz.func41, Tryz.ntmps41
  go_wp2
  go_ret
  exact ⟨rfl, ((Below.refl _ _).alloc (Nat.le_refl _) _).alloc (by simp) _⟩
set_option maxRecDepth 20000 in
set_option maxHeartbeats 1000000 in
theorem szOp (i : Int) (k d : ByteArray) (x y z : Int) (l : Int) (hl : l ≤ 1048576) (hl0 : 0 ≤ l) (hk : k.size ≤ 9223372036854775807) (hd : d.size ≤ 9223372036854775807) (w : World) :
    Calls Tryz.prog 37 #[.agg #[.int .i64 i, .string k, .string d, .int .i64 x, .int .i64 y, .int .i64 z], .int .i64 l] w fun e w' => e = .returned (.int .i64 (if (k.size : Int) + d.size ≤ l then l - k.size - d.size else -1)) ∧ Below w.heap.size w w' := by
  by_cases h1 : l - (k.size : Int) < 0
  · rw [if_neg (by omega)]
    go_enter Tryz.func37, Tryz.ntmps37
    go_wp2
    go_ret
    exact ⟨rfl, (Below.refl _ _).alloc (Nat.le_refl _) _⟩
  · by_cases h2 : l - (k.size : Int) - (d.size : Int) < 0
    · rw [if_neg (by omega)]
      go_enter Tryz.func37, Tryz.ntmps37
      go_wp2
      go_ret
      exact ⟨rfl, (Below.refl _ _).alloc (Nat.le_refl _) _⟩
    · rw [if_pos (by omega)]
      go_enter Tryz.func37, Tryz.ntmps37
      go_wp2
      go_ret
      exact ⟨rfl, (Below.refl _ _).alloc (Nat.le_refl _) _⟩
theorem balE {w w' : World} (h : Below w.heap.size w w') (o : Obj) : Below w.heap.size w (w'.alloc o) := h.alloc h.size o
theorem oneOp (i : Int) (k d : ByteArray) (x y z : Int) : (#[.int .i64 i, .string k, .string d, .int .i64 x, .int .i64 y, .int .i64 z] : Array Value).all (·.oneCell') = true := by simp [Value.oneCell']
set_option maxRecDepth 20000 in
set_option maxHeartbeats 2000000 in
theorem toOp (i : Int) (k d : ByteArray) (x y z : Int) (w : World) :
    Calls Tryz.prog 38 #[.agg #[.int .i64 i, .string k, .string d, .int .i64 x, .int .i64 y, .int .i64 z]] w fun e w' => e = .returned (.agg #[.int .i64 i, .string k, .string d, .int .i64 x, .int .i64 y, .int .i64 z]) ∧ Below w.heap.size w w' := by
  obtain ⟨W0, hW0⟩ : ∃ W, W = (((w.alloc (.cells #[.int .i64 i, .string k, .string d, .int .i64 x, .int .i64 y, .int .i64 z] 84)).alloc (.cells #[.int .i64 0, .string ⟨#[]⟩, .string ⟨#[]⟩, .int .i64 0, .int .i64 0, .int .i64 0] 27)).alloc (.cells #[.int .i64 0, .string ⟨#[]⟩, .string ⟨#[]⟩, .int .i64 0, .int .i64 0, .int .i64 0] 27)) := ⟨_, rfl⟩
  have A0 : RowAt W0 w.heap.size 84 #[.int .i64 i, .string k, .string d, .int .i64 x, .int .i64 y, .int .i64 z] := by rw [hW0]; exact ((RowAt.new _ _ _).alloc _).alloc _
  have R0 : RowAt W0 (w.heap.size + 1) 27 #[.int .i64 0, .string ⟨#[]⟩, .string ⟨#[]⟩, .int .i64 0, .int .i64 0, .int .i64 0] := by rw [hW0]; exact (RowAt.next _ _ _ (by rw [size_al])).alloc _
  have O0 : RowAt W0 (w.heap.size + 1 + 1) 27 #[.int .i64 0, .string ⟨#[]⟩, .string ⟨#[]⟩, .int .i64 0, .int .i64 0, .int .i64 0] := by rw [hW0]; exact RowAt.next _ _ _ (by simp only [size_al])
  have B0 : Below w.heap.size w W0 := by rw [hW0]; exact balE (balE (balE (Below.refl _ _) _) _) _
  obtain ⟨W1, hW1⟩ : ∃ W, W = W0.setCell ⟨w.heap.size + 1 + 1, 0, none⟩ (.int .i64 i) := ⟨_, rfl⟩
  have A1 : RowAt W1 w.heap.size 84 #[.int .i64 i, .string k, .string d, .int .i64 x, .int .i64 y, .int .i64 z] := by rw [hW1]; exact A0.other _ _ (by simp; omega)
  have R1 : RowAt W1 (w.heap.size + 1) 27 #[.int .i64 0, .string ⟨#[]⟩, .string ⟨#[]⟩, .int .i64 0, .int .i64 0, .int .i64 0] := by rw [hW1]; exact R0.other _ _ (by simp)
  have O1 : RowAt W1 (w.heap.size + 1 + 1) 27 #[.int .i64 i, .string ⟨#[]⟩, .string ⟨#[]⟩, .int .i64 0, .int .i64 0, .int .i64 0] := by rw [hW1]; exact O0.set 0 _
  have B1 : Below w.heap.size w W1 := by rw [hW1]; exact B0.setCell (by simp; omega) _
  have a0 : W0.cell? ⟨w.heap.size, 0, none⟩ = some (.int .i64 i) := A0.cell 0
  have o0 : W0.cell? ⟨w.heap.size + 1 + 1, 0, none⟩ = some (.int .i64 0) := O0.cell 0
  have f0 := O0.free 0
  obtain ⟨W2, hW2⟩ : ∃ W, W = W1.setCell ⟨w.heap.size + 1 + 1, 1, none⟩ (.string k) := ⟨_, rfl⟩
  have A2 : RowAt W2 w.heap.size 84 #[.int .i64 i, .string k, .string d, .int .i64 x, .int .i64 y, .int .i64 z] := by rw [hW2]; exact A1.other _ _ (by simp; omega)
  have R2 : RowAt W2 (w.heap.size + 1) 27 #[.int .i64 0, .string ⟨#[]⟩, .string ⟨#[]⟩, .int .i64 0, .int .i64 0, .int .i64 0] := by rw [hW2]; exact R1.other _ _ (by simp)
  have O2 : RowAt W2 (w.heap.size + 1 + 1) 27 #[.int .i64 i, .string k, .string ⟨#[]⟩, .int .i64 0, .int .i64 0, .int .i64 0] := by rw [hW2]; exact O1.set 1 _
  have B2 : Below w.heap.size w W2 := by rw [hW2]; exact B1.setCell (by simp; omega) _
  have a1 : W1.cell? ⟨w.heap.size, 1, none⟩ = some (.string k) := A1.cell 1
  have o1 : W1.cell? ⟨w.heap.size + 1 + 1, 1, none⟩ = some (.string ⟨#[]⟩) := O1.cell 1
  have f1 := O1.free 1
  obtain ⟨W3, hW3⟩ : ∃ W, W = W2.setCell ⟨w.heap.size + 1 + 1, 2, none⟩ (.string d) := ⟨_, rfl⟩
  have A3 : RowAt W3 w.heap.size 84 #[.int .i64 i, .string k, .string d, .int .i64 x, .int .i64 y, .int .i64 z] := by rw [hW3]; exact A2.other _ _ (by simp; omega)
  have R3 : RowAt W3 (w.heap.size + 1) 27 #[.int .i64 0, .string ⟨#[]⟩, .string ⟨#[]⟩, .int .i64 0, .int .i64 0, .int .i64 0] := by rw [hW3]; exact R2.other _ _ (by simp)
  have O3 : RowAt W3 (w.heap.size + 1 + 1) 27 #[.int .i64 i, .string k, .string d, .int .i64 0, .int .i64 0, .int .i64 0] := by rw [hW3]; exact O2.set 2 _
  have B3 : Below w.heap.size w W3 := by rw [hW3]; exact B2.setCell (by simp; omega) _
  have a2 : W2.cell? ⟨w.heap.size, 2, none⟩ = some (.string d) := A2.cell 2
  have o2 : W2.cell? ⟨w.heap.size + 1 + 1, 2, none⟩ = some (.string ⟨#[]⟩) := O2.cell 2
  have f2 := O2.free 2
  obtain ⟨W4, hW4⟩ : ∃ W, W = W3.setCell ⟨w.heap.size + 1 + 1, 3, none⟩ (.int .i64 x) := ⟨_, rfl⟩
  have A4 : RowAt W4 w.heap.size 84 #[.int .i64 i, .string k, .string d, .int .i64 x, .int .i64 y, .int .i64 z] := by rw [hW4]; exact A3.other _ _ (by simp; omega)
  have R4 : RowAt W4 (w.heap.size + 1) 27 #[.int .i64 0, .string ⟨#[]⟩, .string ⟨#[]⟩, .int .i64 0, .int .i64 0, .int .i64 0] := by rw [hW4]; exact R3.other _ _ (by simp)
  have O4 : RowAt W4 (w.heap.size + 1 + 1) 27 #[.int .i64 i, .string k, .string d, .int .i64 x, .int .i64 0, .int .i64 0] := by rw [hW4]; exact O3.set 3 _
  have B4 : Below w.heap.size w W4 := by rw [hW4]; exact B3.setCell (by simp; omega) _
  have a3 : W3.cell? ⟨w.heap.size, 3, none⟩ = some (.int .i64 x) := A3.cell 3
  have o3 : W3.cell? ⟨w.heap.size + 1 + 1, 3, none⟩ = some (.int .i64 0) := O3.cell 3
  have f3 := O3.free 3
  obtain ⟨W5, hW5⟩ : ∃ W, W = W4.setCell ⟨w.heap.size + 1 + 1, 4, none⟩ (.int .i64 y) := ⟨_, rfl⟩
  have A5 : RowAt W5 w.heap.size 84 #[.int .i64 i, .string k, .string d, .int .i64 x, .int .i64 y, .int .i64 z] := by rw [hW5]; exact A4.other _ _ (by simp; omega)
  have R5 : RowAt W5 (w.heap.size + 1) 27 #[.int .i64 0, .string ⟨#[]⟩, .string ⟨#[]⟩, .int .i64 0, .int .i64 0, .int .i64 0] := by rw [hW5]; exact R4.other _ _ (by simp)
  have O5 : RowAt W5 (w.heap.size + 1 + 1) 27 #[.int .i64 i, .string k, .string d, .int .i64 x, .int .i64 y, .int .i64 0] := by rw [hW5]; exact O4.set 4 _
  have B5 : Below w.heap.size w W5 := by rw [hW5]; exact B4.setCell (by simp; omega) _
  have a4 : W4.cell? ⟨w.heap.size, 4, none⟩ = some (.int .i64 y) := A4.cell 4
  have o4 : W4.cell? ⟨w.heap.size + 1 + 1, 4, none⟩ = some (.int .i64 0) := O4.cell 4
  have f4 := O4.free 4
  obtain ⟨W6, hW6⟩ : ∃ W, W = W5.setCell ⟨w.heap.size + 1 + 1, 5, none⟩ (.int .i64 z) := ⟨_, rfl⟩
  have A6 : RowAt W6 w.heap.size 84 #[.int .i64 i, .string k, .string d, .int .i64 x, .int .i64 y, .int .i64 z] := by rw [hW6]; exact A5.other _ _ (by simp; omega)
  have R6 : RowAt W6 (w.heap.size + 1) 27 #[.int .i64 0, .string ⟨#[]⟩, .string ⟨#[]⟩, .int .i64 0, .int .i64 0, .int .i64 0] := by rw [hW6]; exact R5.other _ _ (by simp)
  have O6 : RowAt W6 (w.heap.size + 1 + 1) 27 #[.int .i64 i, .string k, .string d, .int .i64 x, .int .i64 y, .int .i64 z] := by rw [hW6]; exact O5.set 5 _
  have B6 : Below w.heap.size w W6 := by rw [hW6]; exact B5.setCell (by simp; omega) _
  have a5 : W5.cell? ⟨w.heap.size, 5, none⟩ = some (.int .i64 z) := A5.cell 5
  have o5 : W5.cell? ⟨w.heap.size + 1 + 1, 5, none⟩ = some (.int .i64 0) := O5.cell 5
  have f5 := O5.free 5
  have HW0 := hid hW0
  have HW1 := hid hW1
  have HW2 := hid hW2
  have HW3 := hid hW3
  have HW4 := hid hW4
  have HW5 := hid hW5
  have HW6 := hid hW6
  have q0 : W6.cell? ⟨w.heap.size + 1 + 1, 0, none⟩ = some (.int .i64 i) := O6.cell 0
  have q1 : W6.cell? ⟨w.heap.size + 1 + 1, 1, none⟩ = some (.string k) := O6.cell 1
  have q2 : W6.cell? ⟨w.heap.size + 1 + 1, 2, none⟩ = some (.string d) := O6.cell 2
  have q3 : W6.cell? ⟨w.heap.size + 1 + 1, 3, none⟩ = some (.int .i64 x) := O6.cell 3
  have q4 : W6.cell? ⟨w.heap.size + 1 + 1, 4, none⟩ = some (.int .i64 y) := O6.cell 4
  have q5 : W6.cell? ⟨w.heap.size + 1 + 1, 5, none⟩ = some (.int .i64 z) := O6.cell 5
  have HR := hid R6
  have HB := hid B6
  clear hW0 A0 R0 O0 B0 hW1 A1 R1 O1 B1 hW2 A2 R2 O2 B2 hW3 A3 R3 O3 B3 hW4 A4 R4 O4 B4 hW5 A5 R5 O5 B5 hW6 A6 R6 O6 B6
  go_enter Tryz.func38, Tryz.ntmps38
  go_upto_region 2 with fail
  rw [← HW0.out]
  go_upto_region 3 with fail
  rw [← HW1.out]
  clear a0 o0 f0
  go_upto_region 4 with fail
  rw [← HW2.out]
  clear a1 o1 f1
  go_upto_region 5 with fail
  rw [← HW3.out]
  clear a2 o2 f2
  go_upto_region 6 with fail
  rw [← HW4.out]
  clear a3 o3 f3
  go_upto_region 7 with fail
  rw [← HW5.out]
  clear a4 o4 f4
  go_upto_region 8 with fail
  rw [← HW6.out]
  clear a5 o5 f5
  go_wp2_with (refine wpList_store_row rfl 27 (.tmp 2) (.tmp 22) rfl (w.heap.size + 1) #[.int .i64 i, .string k, .string d, .int .i64 x, .int .i64 y, .int .i64 z] rfl rfl _ _ HR.out (by kernel_rfl) rfl (oneOp _ _ _ _ _ _) ?_)
  refine bodyPost_ret (v := .agg #[.int .i64 i, .string k, .string d, .int .i64 x, .int .i64 y, .int .i64 z]) ?_ rfl ⟨rfl, below_setRow HB.out _ _ (by omega)⟩
  exact results_cell_row Tryz.results38 _ _ (w.heap.size + 1) _ _ _ _ rfl (HR.out.setRow _) Tryz.underlying27 rfl (by kernel_rfl)
end Go.Proofs.YtngkiokibldfjaaGreatDoor
