import Derived.Test.YtokjfffcciddhaaGreatDoorQA
import Derived.Test.YtokjfffcciddhaaGreatDoorQA
import Derived.Test.YtokjfffcciddhaaGreatDoorQA
import Derived.WalkLawsBesides
import Derived.WalkSpells
import Derived.OpenShut
import Derived.BigQuiet
import Derived.Deep.QuietTactic
import Derived.Deep.RegionHeld3
import Derived.Deep.CutRange
namespace Go.Proofs.YtokjfffcciddhaaGreatDoor
open Go.RowKit
/-! Version: what the laws do with one (by lawrow.py). -/
structure Ve where
  ky : ByteArray
  id : Int
  mr : Bool
  dt : ByteArray
  tm : Int
  un : Int
  ho : Bool
def Ve.row (o : Ve) : Array Value := #[.string (o).ky, .int .i64 (o).id, .bool (o).mr, .string (o).dt, .int .i64 (o).tm, .int .i64 (o).un, .bool (o).ho]
/-- the cells of a row of them -/
def veF (o : Nat → Ve) (p : Nat) : Value :=
  if p % 7 = 0 then .string (o (p / 7)).ky else if p % 7 = 1 then .int .i64 (o (p / 7)).id else if p % 7 = 2 then .bool (o (p / 7)).mr else if p % 7 = 3 then .string (o (p / 7)).dt else if p % 7 = 4 then .int .i64 (o (p / 7)).tm else if p % 7 = 5 then .int .i64 (o (p / 7)).un else .bool (o (p / 7)).ho
theorem veF0 (o : Nat → Ve) (k : Nat) : veF o (k * 7) = .string (o k).ky := by unfold veF; rw [if_pos (by omega), show (k * 7) / 7 = k by omega]
theorem veF1 (o : Nat → Ve) (k : Nat) : veF o (k * 7 + 1) = .int .i64 (o k).id := by unfold veF; rw [if_neg (by omega), if_pos (by omega), show (k * 7 + 1) / 7 = k by omega]
theorem veF2 (o : Nat → Ve) (k : Nat) : veF o (k * 7 + 2) = .bool (o k).mr := by unfold veF; rw [if_neg (by omega), if_neg (by omega), if_pos (by omega), show (k * 7 + 2) / 7 = k by omega]
theorem veF3 (o : Nat → Ve) (k : Nat) : veF o (k * 7 + 3) = .string (o k).dt := by unfold veF; rw [if_neg (by omega), if_neg (by omega), if_neg (by omega), if_pos (by omega), show (k * 7 + 3) / 7 = k by omega]
theorem veF4 (o : Nat → Ve) (k : Nat) : veF o (k * 7 + 4) = .int .i64 (o k).tm := by unfold veF; rw [if_neg (by omega), if_neg (by omega), if_neg (by omega), if_neg (by omega), if_pos (by omega), show (k * 7 + 4) / 7 = k by omega]
theorem veF5 (o : Nat → Ve) (k : Nat) : veF o (k * 7 + 5) = .int .i64 (o k).un := by unfold veF; rw [if_neg (by omega), if_neg (by omega), if_neg (by omega), if_neg (by omega), if_neg (by omega), if_pos (by omega), show (k * 7 + 5) / 7 = k by omega]
theorem veF6 (o : Nat → Ve) (k : Nat) : veF o (k * 7 + 6) = .bool (o k).ho := by unfold veF; rw [if_neg (by omega), if_neg (by omega), if_neg (by omega), if_neg (by omega), if_neg (by omega), if_neg (by omega), show (k * 7 + 6) / 7 = k by omega]
/-- a slice of them that is read -/
def Ves (w : World) (a : Option Addr) (n cap : Nat) (o : Nat → Ve) : Prop :=
  n ≤ cap ∧ (n = 0 ∨ ∃ b off, a = some ⟨b, off, none⟩ ∧ b < w.heap.size ∧ ∀ k, k < n → w.cell? ⟨b, off + k * 7, none⟩ = some (.string (o k).ky) ∧ w.cell? ⟨b, off + k * 7 + 1, none⟩ = some (.int .i64 (o k).id) ∧ w.cell? ⟨b, off + k * 7 + 2, none⟩ = some (.bool (o k).mr) ∧ w.cell? ⟨b, off + k * 7 + 3, none⟩ = some (.string (o k).dt) ∧ w.cell? ⟨b, off + k * 7 + 4, none⟩ = some (.int .i64 (o k).tm) ∧ w.cell? ⟨b, off + k * 7 + 5, none⟩ = some (.int .i64 (o k).un) ∧ w.cell? ⟨b, off + k * 7 + 6, none⟩ = some (.bool (o k).ho))
theorem Ves.below {w w' : World} {a : Option Addr} {n cap : Nat} {o : Nat → Ve} (h : Ves w a n cap o) (hb : Below w.heap.size w w') : Ves w' a n cap o := by
  refine ⟨h.1, ?_⟩
  rcases h.2 with h0 | ⟨b, off, rfl, h1, h2⟩
  · exact Or.inl h0
  · refine Or.inr ⟨b, off, rfl, Nat.lt_of_lt_of_le h1 hb.size, fun k hk => ?_⟩
    obtain ⟨c0, c1, c2, c3, c4, c5, c6⟩ := h2 k hk
    exact ⟨(hb.cell (p := ⟨b, _, none⟩) h1).trans c0, (hb.cell (p := ⟨b, _, none⟩) h1).trans c1, (hb.cell (p := ⟨b, _, none⟩) h1).trans c2, (hb.cell (p := ⟨b, _, none⟩) h1).trans c3, (hb.cell (p := ⟨b, _, none⟩) h1).trans c4, (hb.cell (p := ⟨b, _, none⟩) h1).trans c5, (hb.cell (p := ⟨b, _, none⟩) h1).trans c6⟩
theorem Ves.of_row {w : World} {b : Nat} {t : TypeId} {n : Nat} {o : Nat → Ve} (h : FRow w b t (n * 7) (veF o)) : Ves w (some ⟨b, 0, none⟩) n n o := by
  refine ⟨Nat.le_refl _, Or.inr ⟨b, 0, rfl, h.lt, fun k hk => ?_⟩⟩
  have g0 := h.cell (show k * 7 < n * 7 by omega)
  have g1 := h.cell (show k * 7 + 1 < n * 7 by omega)
  have g2 := h.cell (show k * 7 + 2 < n * 7 by omega)
  have g3 := h.cell (show k * 7 + 3 < n * 7 by omega)
  have g4 := h.cell (show k * 7 + 4 < n * 7 by omega)
  have g5 := h.cell (show k * 7 + 5 < n * 7 by omega)
  have g6 := h.cell (show k * 7 + 6 < n * 7 by omega)
  rw [veF0] at g0
  rw [veF1] at g1
  rw [veF2] at g2
  rw [veF3] at g3
  rw [veF4] at g4
  rw [veF5] at g5
  rw [veF6] at g6
  simp only [Nat.zero_add]
  exact ⟨g0, g1, g2, g3, g4, g5, g6⟩
/-- how much the laws count them -/
def szVe (o : Nat → Ve) : Nat → Nat
  | 0 => 0
  | k + 1 => szVe o k + (o k).ky.size + (o k).dt.size
theorem szVe_mono (o : Nat → Ve) {j k : Nat} (h : j ≤ k) : szVe o j ≤ szVe o k := by
  induction k with
  | zero => rw [Nat.le_zero.mp h]; exact Nat.le_refl _
  | succ k ih => rcases Nat.lt_or_ge j (k + 1) with h1 | h1
                 · have := ih (by omega); show _ ≤ szVe o k + _ + _; omega
                 · rw [show j = k + 1 by omega]; exact Nat.le_refl _
theorem balVe {w w' : World} (h : Below w.heap.size w w') (o : Obj) : Below w.heap.size w (w'.alloc o) := h.alloc h.size o
set_option maxRecDepth 20000 in
set_option maxHeartbeats 1000000 in
theorem eqVe (p0 : ByteArray) (p1 : Int) (p2 : Bool) (p3 : ByteArray) (p4 : Int) (p5 : Int) (p6 : Bool) (w : World) :
    Calls Tryz.prog 74 #[.agg #[.string p0, .int .i64 p1, .bool p2, .string p3, .int .i64 p4, .int .i64 p5, .bool p6], .agg #[.string p0, .int .i64 p1, .bool p2, .string p3, .int .i64 p4, .int .i64 p5, .bool p6]] w fun e w' => e = .returned (.bool true) ∧ Below w.heap.size w w' := by
  have d1 : (p1 != p1) = false := by simp
  have d2 : (p2 != p2) = false := by simp
  have d4 : (p4 != p4) = false := by simp
  have d5 : (p5 != p5) = false := by simp
  have d6 : (p6 != p6) = false := by simp
  go_enter Tryz.func74, Tryz.ntmps74
  go_wp2
  go_ret
  exact ⟨rfl, ((Below.refl _ _).alloc (Nat.le_refl _) _).alloc (by simp) _⟩
set_option maxRecDepth 20000 in
set_option maxHeartbeats 1000000 in
theorem sz1Ve (p0 : ByteArray) (p1 : Int) (p2 : Bool) (p3 : ByteArray) (p4 : Int) (p5 : Int) (p6 : Bool) (l : Int) (hl : l ≤ 1048576) (hl0 : 0 ≤ l) (h0 : p0.size ≤ 9223372036854775807) (h3 : p3.size ≤ 9223372036854775807) (w : World) :
    Calls Tryz.prog 56 #[.agg #[.string p0, .int .i64 p1, .bool p2, .string p3, .int .i64 p4, .int .i64 p5, .bool p6], .int .i64 l] w fun e w' => e = .returned (.int .i64 (if (p0.size : Int) + p3.size ≤ l then l - p0.size - p3.size else -1)) ∧ Below w.heap.size w w' := by
  by_cases g0 : l - (p0.size : Int) < 0
  · rw [if_neg (by omega)]
    go_enter Tryz.func56, Tryz.ntmps56
    go_wp2
    go_ret
    exact ⟨rfl, (Below.refl _ _).alloc (Nat.le_refl _) _⟩
  ·
    by_cases g3 : l - (p0.size : Int) - (p3.size : Int) < 0
    · rw [if_neg (by omega)]
      go_enter Tryz.func56, Tryz.ntmps56
      go_wp2
      go_ret
      exact ⟨rfl, (Below.refl _ _).alloc (Nat.le_refl _) _⟩
    · rw [if_pos (by omega)]
      go_enter Tryz.func56, Tryz.ntmps56
      go_wp2
      go_ret
      exact ⟨rfl, (Below.refl _ _).alloc (Nat.le_refl _) _⟩
theorem oneVe (p0 : ByteArray) (p1 : Int) (p2 : Bool) (p3 : ByteArray) (p4 : Int) (p5 : Int) (p6 : Bool) : (#[.string p0, .int .i64 p1, .bool p2, .string p3, .int .i64 p4, .int .i64 p5, .bool p6] : Array Value).all (·.oneCell') = true := by simp [Value.oneCell']
set_option maxRecDepth 20000 in
set_option maxHeartbeats 2000000 in
theorem to1Ve (p0 : ByteArray) (p1 : Int) (p2 : Bool) (p3 : ByteArray) (p4 : Int) (p5 : Int) (p6 : Bool) (w : World) :
    Calls Tryz.prog 61 #[.agg #[.string p0, .int .i64 p1, .bool p2, .string p3, .int .i64 p4, .int .i64 p5, .bool p6]] w fun e w' => e = .returned (.agg #[.string p0, .int .i64 p1, .bool p2, .string p3, .int .i64 p4, .int .i64 p5, .bool p6]) ∧ Below w.heap.size w w' := by
  obtain ⟨W0, hW0⟩ : ∃ W, W = (((w.alloc (.cells #[.string p0, .int .i64 p1, .bool p2, .string p3, .int .i64 p4, .int .i64 p5, .bool p6] 107)).alloc (.cells #[.string ⟨#[]⟩, .int .i64 0, .bool false, .string ⟨#[]⟩, .int .i64 0, .int .i64 0, .bool false] 79)).alloc (.cells #[.string ⟨#[]⟩, .int .i64 0, .bool false, .string ⟨#[]⟩, .int .i64 0, .int .i64 0, .bool false] 79)) := ⟨_, rfl⟩
  have A0 : RowAt W0 w.heap.size 107 #[.string p0, .int .i64 p1, .bool p2, .string p3, .int .i64 p4, .int .i64 p5, .bool p6] := by rw [hW0]; exact ((RowAt.new _ _ _).alloc _).alloc _
  have R0 : RowAt W0 (w.heap.size + 1) 79 #[.string ⟨#[]⟩, .int .i64 0, .bool false, .string ⟨#[]⟩, .int .i64 0, .int .i64 0, .bool false] := by rw [hW0]; exact (RowAt.next _ _ _ (by rw [size_al])).alloc _
  have O0 : RowAt W0 (w.heap.size + 1 + 1) 79 #[.string ⟨#[]⟩, .int .i64 0, .bool false, .string ⟨#[]⟩, .int .i64 0, .int .i64 0, .bool false] := by rw [hW0]; exact RowAt.next _ _ _ (by simp only [size_al])
  have B0 : Below w.heap.size w W0 := by rw [hW0]; exact balVe (balVe (balVe (Below.refl _ _) _) _) _
  obtain ⟨W1, hW1⟩ : ∃ W, W = W0.setCell ⟨w.heap.size + 1 + 1, 0, none⟩ (.string p0) := ⟨_, rfl⟩
  have A1 : RowAt W1 w.heap.size 107 #[.string p0, .int .i64 p1, .bool p2, .string p3, .int .i64 p4, .int .i64 p5, .bool p6] := by rw [hW1]; exact A0.other _ _ (by simp; omega)
  have R1 : RowAt W1 (w.heap.size + 1) 79 #[.string ⟨#[]⟩, .int .i64 0, .bool false, .string ⟨#[]⟩, .int .i64 0, .int .i64 0, .bool false] := by rw [hW1]; exact R0.other _ _ (by simp)
  have O1 : RowAt W1 (w.heap.size + 1 + 1) 79 #[.string p0, .int .i64 0, .bool false, .string ⟨#[]⟩, .int .i64 0, .int .i64 0, .bool false] := by rw [hW1]; exact O0.set 0 _
  have B1 : Below w.heap.size w W1 := by rw [hW1]; exact B0.setCell (by simp; omega) _
  have a0 : W0.cell? ⟨w.heap.size, 0, none⟩ = some (.string p0) := A0.cell 0
  have o0 : W0.cell? ⟨w.heap.size + 1 + 1, 0, none⟩ = some (.string ⟨#[]⟩) := O0.cell 0
  have f0 := O0.free 0
  obtain ⟨W2, hW2⟩ : ∃ W, W = W1.setCell ⟨w.heap.size + 1 + 1, 1, none⟩ (.int .i64 p1) := ⟨_, rfl⟩
  have A2 : RowAt W2 w.heap.size 107 #[.string p0, .int .i64 p1, .bool p2, .string p3, .int .i64 p4, .int .i64 p5, .bool p6] := by rw [hW2]; exact A1.other _ _ (by simp; omega)
  have R2 : RowAt W2 (w.heap.size + 1) 79 #[.string ⟨#[]⟩, .int .i64 0, .bool false, .string ⟨#[]⟩, .int .i64 0, .int .i64 0, .bool false] := by rw [hW2]; exact R1.other _ _ (by simp)
  have O2 : RowAt W2 (w.heap.size + 1 + 1) 79 #[.string p0, .int .i64 p1, .bool false, .string ⟨#[]⟩, .int .i64 0, .int .i64 0, .bool false] := by rw [hW2]; exact O1.set 1 _
  have B2 : Below w.heap.size w W2 := by rw [hW2]; exact B1.setCell (by simp; omega) _
  have a1 : W1.cell? ⟨w.heap.size, 1, none⟩ = some (.int .i64 p1) := A1.cell 1
  have o1 : W1.cell? ⟨w.heap.size + 1 + 1, 1, none⟩ = some (.int .i64 0) := O1.cell 1
  have f1 := O1.free 1
  obtain ⟨W3, hW3⟩ : ∃ W, W = W2.setCell ⟨w.heap.size + 1 + 1, 2, none⟩ (.bool p2) := ⟨_, rfl⟩
  have A3 : RowAt W3 w.heap.size 107 #[.string p0, .int .i64 p1, .bool p2, .string p3, .int .i64 p4, .int .i64 p5, .bool p6] := by rw [hW3]; exact A2.other _ _ (by simp; omega)
  have R3 : RowAt W3 (w.heap.size + 1) 79 #[.string ⟨#[]⟩, .int .i64 0, .bool false, .string ⟨#[]⟩, .int .i64 0, .int .i64 0, .bool false] := by rw [hW3]; exact R2.other _ _ (by simp)
  have O3 : RowAt W3 (w.heap.size + 1 + 1) 79 #[.string p0, .int .i64 p1, .bool p2, .string ⟨#[]⟩, .int .i64 0, .int .i64 0, .bool false] := by rw [hW3]; exact O2.set 2 _
  have B3 : Below w.heap.size w W3 := by rw [hW3]; exact B2.setCell (by simp; omega) _
  have a2 : W2.cell? ⟨w.heap.size, 2, none⟩ = some (.bool p2) := A2.cell 2
  have o2 : W2.cell? ⟨w.heap.size + 1 + 1, 2, none⟩ = some (.bool false) := O2.cell 2
  have f2 := O2.free 2
  obtain ⟨W4, hW4⟩ : ∃ W, W = W3.setCell ⟨w.heap.size + 1 + 1, 3, none⟩ (.string p3) := ⟨_, rfl⟩
  have A4 : RowAt W4 w.heap.size 107 #[.string p0, .int .i64 p1, .bool p2, .string p3, .int .i64 p4, .int .i64 p5, .bool p6] := by rw [hW4]; exact A3.other _ _ (by simp; omega)
  have R4 : RowAt W4 (w.heap.size + 1) 79 #[.string ⟨#[]⟩, .int .i64 0, .bool false, .string ⟨#[]⟩, .int .i64 0, .int .i64 0, .bool false] := by rw [hW4]; exact R3.other _ _ (by simp)
  have O4 : RowAt W4 (w.heap.size + 1 + 1) 79 #[.string p0, .int .i64 p1, .bool p2, .string p3, .int .i64 0, .int .i64 0, .bool false] := by rw [hW4]; exact O3.set 3 _
  have B4 : Below w.heap.size w W4 := by rw [hW4]; exact B3.setCell (by simp; omega) _
  have a3 : W3.cell? ⟨w.heap.size, 3, none⟩ = some (.string p3) := A3.cell 3
  have o3 : W3.cell? ⟨w.heap.size + 1 + 1, 3, none⟩ = some (.string ⟨#[]⟩) := O3.cell 3
  have f3 := O3.free 3
  obtain ⟨W5, hW5⟩ : ∃ W, W = W4.setCell ⟨w.heap.size + 1 + 1, 4, none⟩ (.int .i64 p4) := ⟨_, rfl⟩
  have A5 : RowAt W5 w.heap.size 107 #[.string p0, .int .i64 p1, .bool p2, .string p3, .int .i64 p4, .int .i64 p5, .bool p6] := by rw [hW5]; exact A4.other _ _ (by simp; omega)
  have R5 : RowAt W5 (w.heap.size + 1) 79 #[.string ⟨#[]⟩, .int .i64 0, .bool false, .string ⟨#[]⟩, .int .i64 0, .int .i64 0, .bool false] := by rw [hW5]; exact R4.other _ _ (by simp)
  have O5 : RowAt W5 (w.heap.size + 1 + 1) 79 #[.string p0, .int .i64 p1, .bool p2, .string p3, .int .i64 p4, .int .i64 0, .bool false] := by rw [hW5]; exact O4.set 4 _
  have B5 : Below w.heap.size w W5 := by rw [hW5]; exact B4.setCell (by simp; omega) _
  have a4 : W4.cell? ⟨w.heap.size, 4, none⟩ = some (.int .i64 p4) := A4.cell 4
  have o4 : W4.cell? ⟨w.heap.size + 1 + 1, 4, none⟩ = some (.int .i64 0) := O4.cell 4
  have f4 := O4.free 4
  obtain ⟨W6, hW6⟩ : ∃ W, W = W5.setCell ⟨w.heap.size + 1 + 1, 5, none⟩ (.int .i64 p5) := ⟨_, rfl⟩
  have A6 : RowAt W6 w.heap.size 107 #[.string p0, .int .i64 p1, .bool p2, .string p3, .int .i64 p4, .int .i64 p5, .bool p6] := by rw [hW6]; exact A5.other _ _ (by simp; omega)
  have R6 : RowAt W6 (w.heap.size + 1) 79 #[.string ⟨#[]⟩, .int .i64 0, .bool false, .string ⟨#[]⟩, .int .i64 0, .int .i64 0, .bool false] := by rw [hW6]; exact R5.other _ _ (by simp)
  have O6 : RowAt W6 (w.heap.size + 1 + 1) 79 #[.string p0, .int .i64 p1, .bool p2, .string p3, .int .i64 p4, .int .i64 p5, .bool false] := by rw [hW6]; exact O5.set 5 _
  have B6 : Below w.heap.size w W6 := by rw [hW6]; exact B5.setCell (by simp; omega) _
  have a5 : W5.cell? ⟨w.heap.size, 5, none⟩ = some (.int .i64 p5) := A5.cell 5
  have o5 : W5.cell? ⟨w.heap.size + 1 + 1, 5, none⟩ = some (.int .i64 0) := O5.cell 5
  have f5 := O5.free 5
  obtain ⟨W7, hW7⟩ : ∃ W, W = W6.setCell ⟨w.heap.size + 1 + 1, 6, none⟩ (.bool p6) := ⟨_, rfl⟩
  have A7 : RowAt W7 w.heap.size 107 #[.string p0, .int .i64 p1, .bool p2, .string p3, .int .i64 p4, .int .i64 p5, .bool p6] := by rw [hW7]; exact A6.other _ _ (by simp; omega)
  have R7 : RowAt W7 (w.heap.size + 1) 79 #[.string ⟨#[]⟩, .int .i64 0, .bool false, .string ⟨#[]⟩, .int .i64 0, .int .i64 0, .bool false] := by rw [hW7]; exact R6.other _ _ (by simp)
  have O7 : RowAt W7 (w.heap.size + 1 + 1) 79 #[.string p0, .int .i64 p1, .bool p2, .string p3, .int .i64 p4, .int .i64 p5, .bool p6] := by rw [hW7]; exact O6.set 6 _
  have B7 : Below w.heap.size w W7 := by rw [hW7]; exact B6.setCell (by simp; omega) _
  have a6 : W6.cell? ⟨w.heap.size, 6, none⟩ = some (.bool p6) := A6.cell 6
  have o6 : W6.cell? ⟨w.heap.size + 1 + 1, 6, none⟩ = some (.bool false) := O6.cell 6
  have f6 := O6.free 6
  have HW0 := hid hW0
  have HW1 := hid hW1
  have HW2 := hid hW2
  have HW3 := hid hW3
  have HW4 := hid hW4
  have HW5 := hid hW5
  have HW6 := hid hW6
  have HW7 := hid hW7
  have q0 : W7.cell? ⟨w.heap.size + 1 + 1, 0, none⟩ = some (.string p0) := O7.cell 0
  have q1 : W7.cell? ⟨w.heap.size + 1 + 1, 1, none⟩ = some (.int .i64 p1) := O7.cell 1
  have q2 : W7.cell? ⟨w.heap.size + 1 + 1, 2, none⟩ = some (.bool p2) := O7.cell 2
  have q3 : W7.cell? ⟨w.heap.size + 1 + 1, 3, none⟩ = some (.string p3) := O7.cell 3
  have q4 : W7.cell? ⟨w.heap.size + 1 + 1, 4, none⟩ = some (.int .i64 p4) := O7.cell 4
  have q5 : W7.cell? ⟨w.heap.size + 1 + 1, 5, none⟩ = some (.int .i64 p5) := O7.cell 5
  have q6 : W7.cell? ⟨w.heap.size + 1 + 1, 6, none⟩ = some (.bool p6) := O7.cell 6
  have HR := hid R7
  have HB := hid B7
  clear hW0 A0 R0 O0 B0 hW1 A1 R1 O1 B1 hW2 A2 R2 O2 B2 hW3 A3 R3 O3 B3 hW4 A4 R4 O4 B4 hW5 A5 R5 O5 B5 hW6 A6 R6 O6 B6 hW7 A7 R7 O7 B7
  go_enter Tryz.func61, Tryz.ntmps61
  go_upto_region 2 with fail
  rw [← HW0.out]
  go_upto_region 3 with fail
  rw [← HW1.out]
  clear a0 o0 f0
  go_upto_region 4 with fail
  rw [← HW2.out]
  clear a1 o1 f1
  go_upto_region 5 with fail
  rw [← HW3.out]
  clear a2 o2 f2
  go_upto_region 6 with fail
  rw [← HW4.out]
  clear a3 o3 f3
  go_upto_region 7 with fail
  rw [← HW5.out]
  clear a4 o4 f4
  go_upto_region 8 with fail
  rw [← HW6.out]
  clear a5 o5 f5
  go_upto_region 9 with fail
  rw [← HW7.out]
  clear a6 o6 f6
  go_wp2_with (refine wpList_store_row rfl 79 (.tmp 2) (.tmp 25) rfl (w.heap.size + 1) #[.string p0, .int .i64 p1, .bool p2, .string p3, .int .i64 p4, .int .i64 p5, .bool p6] rfl rfl _ _ HR.out (by kernel_rfl) rfl (oneVe _ _ _ _ _ _ _) ?_)
  refine bodyPost_ret (v := .agg #[.string p0, .int .i64 p1, .bool p2, .string p3, .int .i64 p4, .int .i64 p5, .bool p6]) ?_ rfl ⟨rfl, below_setRow HB.out _ _ (by omega)⟩
  exact results_cell_row Tryz.results61 _ _ (w.heap.size + 1) _ _ _ _ rfl (HR.out.setRow _) Tryz.underlying79 rfl (by kernel_rfl)
end Go.Proofs.YtokjfffcciddhaaGreatDoor
namespace Go.Proofs.YtokjfffcciddhaaGreatDoor
open Go.RowKit
/-! Rows of Version: what the laws do with them (by lawrow.py). -/
def ve0 : Ve := ⟨⟨#[]⟩, 0, false, ⟨#[]⟩, 0, 0, false⟩
/-- the first k of them, then empty ones -/
def veTo (o : Nat → Ve) (k i : Nat) : Ve := if i < k then o i else ve0
theorem Tryz.infoVe : (Tryz.prog.info? 79).map (fun i => (i.zero, i.size, i.bytes)) = some (some (.agg #[.string ⟨#[]⟩, .int .i64 0, .bool false, .string ⟨#[]⟩, .int .i64 0, .int .i64 0, .bool false]), 7, 72) := by kernel_rfl
theorem mkVe (w : World) (n : Nat) (hn : n ≤ 1048576) : (Instr.makeSlice 42 (.int .i64 n) (.int .i64 n)).run Tryz.prog w = .ok (.slice (some ⟨w.heap.size, 0, none⟩) n n) (w.alloc (.cells (madeCells #[.string ⟨#[]⟩, .int .i64 0, .bool false, .string ⟨#[]⟩, .int .i64 0, .int .i64 0, .bool false] (n * 7)) 79)) := by
  obtain ⟨i0, hi, hz0, hz1, hz2⟩ := info_parts Tryz.infoVe
  have := run_make (P := Tryz.prog) w 42 79 i0 _ Tryz.underlying42 hi hz0 .i64 .i64 n n (by omega) (Int.le_refl _) (by rw [hz2]; omega) (by omega)
  rw [this, hz1]
  simp only [Int.toNat_natCast, Value.cells]
theorem veTo_put (o : Nat → Ve) (k p : Nat) : putF (putF (putF (putF (putF (putF (putF (veF (veTo o k)) (k * 7) (.string (o k).ky)) (k * 7 + 1) (.int .i64 (o k).id)) (k * 7 + 2) (.bool (o k).mr)) (k * 7 + 3) (.string (o k).dt)) (k * 7 + 4) (.int .i64 (o k).tm)) (k * 7 + 5) (.int .i64 (o k).un)) (k * 7 + 6) (.bool (o k).ho) p = veF (veTo o (k + 1)) p := by
  by_cases e : p / 7 = k
  · have hk : veTo o (k + 1) k = o k := by unfold veTo; rw [if_pos (by omega)]
    have : p = k * 7 ∨ p = k * 7 + 1 ∨ p = k * 7 + 2 ∨ p = k * 7 + 3 ∨ p = k * 7 + 4 ∨ p = k * 7 + 5 ∨ p = k * 7 + 6 := by omega
    rcases this with e | e | e | e | e | e | e <;> subst e
    · rw [veF0, hk]; unfold putF; rw [if_neg (by omega), if_neg (by omega), if_neg (by omega), if_neg (by omega), if_neg (by omega), if_neg (by omega), if_pos rfl]
    · rw [veF1, hk]; unfold putF; rw [if_neg (by omega), if_neg (by omega), if_neg (by omega), if_neg (by omega), if_neg (by omega), if_pos rfl]
    · rw [veF2, hk]; unfold putF; rw [if_neg (by omega), if_neg (by omega), if_neg (by omega), if_neg (by omega), if_pos rfl]
    · rw [veF3, hk]; unfold putF; rw [if_neg (by omega), if_neg (by omega), if_neg (by omega), if_pos rfl]
    · rw [veF4, hk]; unfold putF; rw [if_neg (by omega), if_neg (by omega), if_pos rfl]
    · rw [veF5, hk]; unfold putF; rw [if_neg (by omega), if_pos rfl]
    · rw [veF6, hk]; unfold putF; rw [if_pos rfl]
  · have hk : veTo o (k + 1) (p / 7) = veTo o k (p / 7) := by
      unfold veTo
      by_cases h : p / 7 < k
      · rw [if_pos (by omega), if_pos h]
      · rw [if_neg (by omega), if_neg h]
    unfold putF
    rw [if_neg (by omega), if_neg (by omega), if_neg (by omega), if_neg (by omega), if_neg (by omega), if_neg (by omega), if_neg (by omega)]
    unfold veF
    rw [hk]
set_option maxRecDepth 20000 in
set_option maxHeartbeats 4000000 in
theorem toVes (a : Option Addr) (len cap : Nat) (o : Nat → Ve) (hl : len ≤ 1048576) (w : World) (h : Ves w a len cap o) :
    Calls Tryz.prog 43 #[.slice a len cap] w fun e w' => e = .returned (.slice (some ⟨w.heap.size, 0, none⟩) len len) ∧ FRow w' w.heap.size 79 (len * 7) (veF o) ∧ Below w.heap.size w w' := by
  have hmk := fun w => mkVe w len hl
  have HH := hid h
  clear h
  go_enter Tryz.func43, Tryz.ntmps43
  go_wp2_with fail
  obtain ⟨W0, hW0⟩ : ∃ W0, W0 = w.alloc (.cells (madeCells #[.string ⟨#[]⟩, .int .i64 0, .bool false, .string ⟨#[]⟩, .int .i64 0, .int .i64 0, .bool false] (len * 7)) 79) := ⟨_, rfl⟩
  have F0 : Hid (FRow W0 w.heap.size 79 (len * 7) (veF (veTo o 0))) := by
    rw [hW0]
    refine FRow.of (RowAt.new _ _ _) (by simp [madeCells]) fun p hp => ?_
    have h2 : p % 7 < 7 := Nat.mod_lt _ (by decide)
    have h3 : veTo o 0 (p / 7) = ve0 := by unfold veTo; rw [if_neg (by omega)]
    simp [madeCells, hp, veF, h3, ve0]
    rcases (show p % 7 = 0 ∨ p % 7 = 1 ∨ p % 7 = 2 ∨ p % 7 = 3 ∨ p % 7 = 4 ∨ p % 7 = 5 ∨ p % 7 = 6 by omega) with e | e | e | e | e | e | e <;> rw [e] <;> rfl
  have B0 : Hid (Below w.heap.size w W0) := by rw [hW0]; exact (Below.refl _ _).alloc (Nat.le_refl _) _
  rw [← hW0]
  clear hW0 hmk
  go_loopw [4] (fun q wr => ∃ (k : Nat), k ≤ len ∧ q = .int .i64 k ∧ FRow wr w.heap.size 79 (len * 7) (veF (veTo o k)) ∧ Below w.heap.size w wr) (fun q _ => len - (intOf q).toNat)
  case atStart => exact ⟨0, Nat.zero_le _, rfl, F0.out, B0.out⟩
  case round =>
    obtain ⟨k, hk, rfl, hF, hB⟩ := hrel
    have HF := hid hF
    have HB := hid hB
    clear hF hB F0 B0
    by_cases hlt : k < len
    · have hlt' : (k : Int) < (len : Int) := by omega
      have k0 : (0 : Int) ≤ (k : Int) := by omega
      rcases (HH.out.below HB.out).2 with h00 | ⟨b, off, rfl, hbl, hc⟩
      · omega
      obtain ⟨c0, c1, c2, c3, c4, c5, c6⟩ := hc k hlt
      have HP := hid (veTo_put o k)
      obtain ⟨X0, hX0⟩ : ∃ v, v = (o k).ky := ⟨_, rfl⟩
      obtain ⟨X1, hX1⟩ : ∃ v, v = (o k).id := ⟨_, rfl⟩
      obtain ⟨X2, hX2⟩ : ∃ v, v = (o k).mr := ⟨_, rfl⟩
      obtain ⟨X3, hX3⟩ : ∃ v, v = (o k).dt := ⟨_, rfl⟩
      obtain ⟨X4, hX4⟩ : ∃ v, v = (o k).tm := ⟨_, rfl⟩
      obtain ⟨X5, hX5⟩ : ∃ v, v = (o k).un := ⟨_, rfl⟩
      obtain ⟨X6, hX6⟩ : ∃ v, v = (o k).ho := ⟨_, rfl⟩
      rw [← hX0] at c0 HP
      rw [← hX1] at c1 HP
      rw [← hX2] at c2 HP
      rw [← hX3] at c3 HP
      rw [← hX4] at c4 HP
      rw [← hX5] at c5 HP
      rw [← hX6] at c6 HP
      clear hc hX0 hX1 hX2 hX3 hX4 hX5 hX6
      go_wp2_with fail
      refine (to1Ve X0 X1 X2 X3 X4 X5 X6 wr).mono ?_
      rintro e w2 ⟨rfl, hb2⟩
      have F2 := hid (HF.out.below hb2 HF.out.lt)
      have B2 := hid (HB.out.trans (hb2.mono HB.out.size))
      clear hb2 HF HB
      have q0 := (F2.out).cell (show k * 7 < len * 7 by omega)
      rw [veF0] at q0
      have q1 := (F2.out).cell (show k * 7 + 1 < len * 7 by omega)
      rw [veF1] at q1
      have q2 := (F2.out).cell (show k * 7 + 2 < len * 7 by omega)
      rw [veF2] at q2
      have q3 := (F2.out).cell (show k * 7 + 3 < len * 7 by omega)
      rw [veF3] at q3
      have q4 := (F2.out).cell (show k * 7 + 4 < len * 7 by omega)
      rw [veF4] at q4
      have q5 := (F2.out).cell (show k * 7 + 5 < len * 7 by omega)
      rw [veF5] at q5
      have q6 := (F2.out).cell (show k * 7 + 6 < len * 7 by omega)
      rw [veF6] at q6
      have f0 := F2.out.free (k * 7)
      have G1 : FRow (w2.setCell ⟨w.heap.size, k * 7, none⟩ (.string X0)) w.heap.size 79 (len * 7) (putF (veF (veTo o k)) (k * 7) (.string X0)) := F2.out.set (k * 7) (.string X0)
      have f1 := G1.free (k * 7 + 1)
      have G2 : FRow ((w2.setCell ⟨w.heap.size, k * 7, none⟩ (.string X0)).setCell ⟨w.heap.size, k * 7 + 1, none⟩ (.int .i64 X1)) w.heap.size 79 (len * 7) (putF (putF (veF (veTo o k)) (k * 7) (.string X0)) (k * 7 + 1) (.int .i64 X1)) := G1.set (k * 7 + 1) (.int .i64 X1)
      have f2 := G2.free (k * 7 + 2)
      have G3 : FRow (((w2.setCell ⟨w.heap.size, k * 7, none⟩ (.string X0)).setCell ⟨w.heap.size, k * 7 + 1, none⟩ (.int .i64 X1)).setCell ⟨w.heap.size, k * 7 + 2, none⟩ (.bool X2)) w.heap.size 79 (len * 7) (putF (putF (putF (veF (veTo o k)) (k * 7) (.string X0)) (k * 7 + 1) (.int .i64 X1)) (k * 7 + 2) (.bool X2)) := G2.set (k * 7 + 2) (.bool X2)
      have f3 := G3.free (k * 7 + 3)
      have G4 : FRow ((((w2.setCell ⟨w.heap.size, k * 7, none⟩ (.string X0)).setCell ⟨w.heap.size, k * 7 + 1, none⟩ (.int .i64 X1)).setCell ⟨w.heap.size, k * 7 + 2, none⟩ (.bool X2)).setCell ⟨w.heap.size, k * 7 + 3, none⟩ (.string X3)) w.heap.size 79 (len * 7) (putF (putF (putF (putF (veF (veTo o k)) (k * 7) (.string X0)) (k * 7 + 1) (.int .i64 X1)) (k * 7 + 2) (.bool X2)) (k * 7 + 3) (.string X3)) := G3.set (k * 7 + 3) (.string X3)
      have f4 := G4.free (k * 7 + 4)
      have G5 : FRow (((((w2.setCell ⟨w.heap.size, k * 7, none⟩ (.string X0)).setCell ⟨w.heap.size, k * 7 + 1, none⟩ (.int .i64 X1)).setCell ⟨w.heap.size, k * 7 + 2, none⟩ (.bool X2)).setCell ⟨w.heap.size, k * 7 + 3, none⟩ (.string X3)).setCell ⟨w.heap.size, k * 7 + 4, none⟩ (.int .i64 X4)) w.heap.size 79 (len * 7) (putF (putF (putF (putF (putF (veF (veTo o k)) (k * 7) (.string X0)) (k * 7 + 1) (.int .i64 X1)) (k * 7 + 2) (.bool X2)) (k * 7 + 3) (.string X3)) (k * 7 + 4) (.int .i64 X4)) := G4.set (k * 7 + 4) (.int .i64 X4)
      have f5 := G5.free (k * 7 + 5)
      have G6 : FRow ((((((w2.setCell ⟨w.heap.size, k * 7, none⟩ (.string X0)).setCell ⟨w.heap.size, k * 7 + 1, none⟩ (.int .i64 X1)).setCell ⟨w.heap.size, k * 7 + 2, none⟩ (.bool X2)).setCell ⟨w.heap.size, k * 7 + 3, none⟩ (.string X3)).setCell ⟨w.heap.size, k * 7 + 4, none⟩ (.int .i64 X4)).setCell ⟨w.heap.size, k * 7 + 5, none⟩ (.int .i64 X5)) w.heap.size 79 (len * 7) (putF (putF (putF (putF (putF (putF (veF (veTo o k)) (k * 7) (.string X0)) (k * 7 + 1) (.int .i64 X1)) (k * 7 + 2) (.bool X2)) (k * 7 + 3) (.string X3)) (k * 7 + 4) (.int .i64 X4)) (k * 7 + 5) (.int .i64 X5)) := G5.set (k * 7 + 5) (.int .i64 X5)
      have f6 := G6.free (k * 7 + 6)
      have G7 : FRow (((((((w2.setCell ⟨w.heap.size, k * 7, none⟩ (.string X0)).setCell ⟨w.heap.size, k * 7 + 1, none⟩ (.int .i64 X1)).setCell ⟨w.heap.size, k * 7 + 2, none⟩ (.bool X2)).setCell ⟨w.heap.size, k * 7 + 3, none⟩ (.string X3)).setCell ⟨w.heap.size, k * 7 + 4, none⟩ (.int .i64 X4)).setCell ⟨w.heap.size, k * 7 + 5, none⟩ (.int .i64 X5)).setCell ⟨w.heap.size, k * 7 + 6, none⟩ (.bool X6)) w.heap.size 79 (len * 7) (putF (putF (putF (putF (putF (putF (putF (veF (veTo o k)) (k * 7) (.string X0)) (k * 7 + 1) (.int .i64 X1)) (k * 7 + 2) (.bool X2)) (k * 7 + 3) (.string X3)) (k * 7 + 4) (.int .i64 X4)) (k * 7 + 5) (.int .i64 X5)) (k * 7 + 6) (.bool X6)) := G6.set (k * 7 + 6) (.bool X6)
      have F4 : Hid (FRow (((((((w2.setCell ⟨w.heap.size, k * 7, none⟩ (.string X0)).setCell ⟨w.heap.size, k * 7 + 1, none⟩ (.int .i64 X1)).setCell ⟨w.heap.size, k * 7 + 2, none⟩ (.bool X2)).setCell ⟨w.heap.size, k * 7 + 3, none⟩ (.string X3)).setCell ⟨w.heap.size, k * 7 + 4, none⟩ (.int .i64 X4)).setCell ⟨w.heap.size, k * 7 + 5, none⟩ (.int .i64 X5)).setCell ⟨w.heap.size, k * 7 + 6, none⟩ (.bool X6)) w.heap.size 79 (len * 7) (veF (veTo o (k + 1)))) := G7.congr fun p _ => HP.out p
      have B4 : Hid (Below w.heap.size w (((((((w2.setCell ⟨w.heap.size, k * 7, none⟩ (.string X0)).setCell ⟨w.heap.size, k * 7 + 1, none⟩ (.int .i64 X1)).setCell ⟨w.heap.size, k * 7 + 2, none⟩ (.bool X2)).setCell ⟨w.heap.size, k * 7 + 3, none⟩ (.string X3)).setCell ⟨w.heap.size, k * 7 + 4, none⟩ (.int .i64 X4)).setCell ⟨w.heap.size, k * 7 + 5, none⟩ (.int .i64 X5)).setCell ⟨w.heap.size, k * 7 + 6, none⟩ (.bool X6))) := (((((((B2.out.setCell (Nat.le_refl _) _).setCell (Nat.le_refl _) _).setCell (Nat.le_refl _) _).setCell (Nat.le_refl _) _).setCell (Nat.le_refl _) _).setCell (Nat.le_refl _) _).setCell (Nat.le_refl _) _)
      clear G1 G2 G3 G4 G5 G6 G7 HP F2 B2
      go_wp2
      go_roundw
      case rel => exact ⟨k + 1, by omega, by go_num, F4.out, B4.out⟩
      case measure => simp [intOf]; omega
    · have hlt' : ¬ (k : Int) < (len : Int) := by omega
      have hke : k = len := by omega
      go_wp2
      go_ret
      refine ⟨rfl, HF.out.congr fun p hp => ?_, HB.out⟩
      unfold veF
      rw [show veTo o k (p / 7) = o (p / 7) by unfold veTo; rw [if_pos (by omega)]]
set_option maxRecDepth 20000 in
set_option maxHeartbeats 4000000 in
theorem szVes (a : Option Addr) (n cap : Nat) (o : Nat → Ve) (l : Nat) (hl : l ≤ 1048576) (hn : n ≤ 9223372036854775807) (hs : ∀ k, k < n → (o k).ky.size ≤ 9223372036854775807 ∧ (o k).dt.size ≤ 9223372036854775807) (w : World) (h : Ves w a n cap o) :
    Calls Tryz.prog 30 #[.slice a n cap, .int .i64 l] w fun e w' => e = .returned (.int .i64 (if n + szVe o n ≤ l then ((l - n - szVe o n : Nat) : Int) else -1)) ∧ Below w.heap.size w w' := by
  have HH := hid h
  have HS := hid hs
  clear h hs
  obtain ⟨RV, hRV⟩ : ∃ v : Int, v = if n + szVe o n ≤ l then ((l - n - szVe o n : Nat) : Int) else -1 := ⟨_, rfl⟩
  rw [← hRV]
  by_cases h0 : (l : Int) - (n : Int) < 0
  · rw [if_neg (by omega)] at hRV
    subst hRV
    go_enter Tryz.func30, Tryz.ntmps30
    go_wp2
    go_ret
    exact ⟨rfl, Below.refl _ _⟩
  obtain ⟨m, hm⟩ : ∃ m : Nat, m = l - n := ⟨_, rfl⟩
  have hme : (l : Int) - (n : Int) = m := by omega
  have HM := hid hm
  have hml : m + n = l ∧ True := ⟨by omega, trivial⟩
  clear hm
  go_enter Tryz.func30, Tryz.ntmps30
  go_wp2_with fail
  go_loopw [5, 1] (fun q y wr => ∃ (k : Nat), k ≤ n ∧ q = .int .i64 k ∧ szVe o k ≤ m ∧ y = .int .i64 ((m - szVe o k : Nat) : Int) ∧ Below w.heap.size w wr) (fun q _ _ => n - (intOf q).toNat)
  case atStart => exact ⟨0, Nat.zero_le _, rfl, Nat.zero_le _, by simp [szVe], Below.refl _ _⟩
  case round =>
    obtain ⟨k, hk, rfl, hz, rfl, hB⟩ := hrel
    have HB := hid hB
    clear hB
    by_cases hlt : k < n
    · have hlt' : (k : Int) < (n : Int) := by omega
      have k0 : (0 : Int) ≤ (k : Int) := by omega
      rcases (HH.out.below HB.out).2 with h00 | ⟨b, off, rfl, hbl, hc⟩
      · omega
      obtain ⟨c0, c1, c2, c3, c4, c5, c6⟩ := hc k hlt
      obtain ⟨s0, s3⟩ := HS.out k hlt
      have hz1 : szVe o (k + 1) = szVe o k + (o k).ky.size + (o k).dt.size := rfl
      have hzn := szVe_mono o (show k + 1 ≤ n by omega)
      obtain ⟨X0, hX0⟩ : ∃ v, v = (o k).ky := ⟨_, rfl⟩
      obtain ⟨X1, hX1⟩ : ∃ v, v = (o k).id := ⟨_, rfl⟩
      obtain ⟨X2, hX2⟩ : ∃ v, v = (o k).mr := ⟨_, rfl⟩
      obtain ⟨X3, hX3⟩ : ∃ v, v = (o k).dt := ⟨_, rfl⟩
      obtain ⟨X4, hX4⟩ : ∃ v, v = (o k).tm := ⟨_, rfl⟩
      obtain ⟨X5, hX5⟩ : ∃ v, v = (o k).un := ⟨_, rfl⟩
      obtain ⟨X6, hX6⟩ : ∃ v, v = (o k).ho := ⟨_, rfl⟩
      rw [← hX0] at c0 s0 hz1
      rw [← hX1] at c1
      rw [← hX2] at c2
      rw [← hX3] at c3 s3 hz1
      rw [← hX4] at c4
      rw [← hX5] at c5
      rw [← hX6] at c6
      clear hc hX0 hX1 hX2 hX3 hX4 hX5 hX6
      obtain ⟨r, hr⟩ : ∃ r, r = m - szVe o k := ⟨_, rfl⟩
      rw [← hr]
      by_cases hfit : X0.size + X3.size ≤ r
      · obtain ⟨v, hv⟩ : ∃ v : Nat, v = r - X0.size - X3.size := ⟨_, rfl⟩
        have hpos : ¬ (v : Int) < 0 := by omega
        have hv1 : v ≤ 1048576 := by omega
        have Z1 : Hid (szVe o (k + 1) ≤ m ∧ m - szVe o (k + 1) = v) := by constructor <;> omega
        have hif : (if (X0.size : Int) + X3.size ≤ (r : Int) then (r : Int) - X0.size - X3.size else -1) = (v : Int) := by rw [if_pos (by omega)]; omega
        have S := sz1Ve X0 X1 X2 X3 X4 X5 X6 r (by omega) (by omega) s0 s3 wr
        rw [hif] at S
        have HS2 := hid S
        have HRV := hid hRV
        have HR2 := hid hr
        clear S hif hRV hr hz1 hv
        go_wp2_with fail
        refine HS2.out.mono ?_
        rintro e w2 ⟨rfl, hb2⟩
        have B2 := hid (HB.out.trans (hb2.mono HB.out.size))
        clear hb2 HB c0 c1 c2 c3 c4 c5 c6 hfit hz hzn s0 s3
        go_wp2
        go_roundw
        case rel => exact ⟨k + 1, by omega, by go_num, Z1.out.1, by rw [Z1.out.2], B2.out⟩
        case measure => simp [intOf]; omega
      · have hneg : (-1 : Int) < 0 := by omega
        have hif : (if (X0.size : Int) + X3.size ≤ (r : Int) then (r : Int) - X0.size - X3.size else -1) = -1 := if_neg (by omega)
        rw [if_neg (by omega)] at hRV
        have S := sz1Ve X0 X1 X2 X3 X4 X5 X6 r (by omega) (by omega) s0 s3 wr
        rw [hif] at S
        have HS2 := hid S
        have HRV := hid hRV
        have HR2 := hid hr
        clear S hif hRV hr hz1
        go_wp2_with fail
        refine HS2.out.mono ?_
        rintro e w2 ⟨rfl, hb2⟩
        have B2 := hid (HB.out.trans (hb2.mono HB.out.size))
        clear hb2 HB
        go_wp2
        go_ret
        exact ⟨by rw [HRV.out]; rfl, B2.out⟩
    · have hlt' : ¬ (k : Int) < (n : Int) := by omega
      have hke : k = n := by omega
      subst hke
      rw [if_pos (by omega)] at hRV
      have HRV := hid hRV
      clear hRV
      go_wp2
      go_ret
      exact ⟨by rw [HRV.out, ← HM.out]; rfl, HB.out⟩
set_option maxRecDepth 20000 in
set_option maxHeartbeats 4000000 in
theorem eqVes (a : Option Addr) (n cap : Nat) (a' : Option Addr) (cap' : Nat) (o : Nat → Ve) (hl : n ≤ 1048576) (w : World) (h : Ves w a n cap o) (h' : Ves w a' n cap' o) :
    Calls Tryz.prog 54 #[.slice a n cap, .slice a' n cap'] w fun e w' => e = .returned (.bool true) ∧ Below w.heap.size w w' := by
  have HH := hid h
  have HH' := hid h'
  have dn : ((n : Int) != (n : Int)) = false := by simp
  clear h h'
  go_enter Tryz.func54, Tryz.ntmps54
  go_wp2_with fail
  go_loopw [5] (fun q wr => ∃ (k : Nat), k ≤ n ∧ q = .int .i64 k ∧ Below w.heap.size w wr) (fun q _ => n - (intOf q).toNat)
  case atStart => exact ⟨0, Nat.zero_le _, rfl, Below.refl _ _⟩
  case round =>
    obtain ⟨k, hk, rfl, hB⟩ := hrel
    have HB := hid hB
    clear hB
    by_cases hlt : k < n
    · have hlt' : (k : Int) < (n : Int) := by omega
      have k0 : (0 : Int) ≤ (k : Int) := by omega
      rcases (HH.out.below HB.out).2 with h00 | ⟨b, off, rfl, hbl, hc⟩
      · omega
      rcases (HH'.out.below HB.out).2 with h00 | ⟨b', off', rfl, hbl', hc'⟩
      · omega
      obtain ⟨c0, c1, c2, c3, c4, c5, c6⟩ := hc k hlt
      obtain ⟨e0, e1, e2, e3, e4, e5, e6⟩ := hc' k hlt
      obtain ⟨X0, hX0⟩ : ∃ v, v = (o k).ky := ⟨_, rfl⟩
      obtain ⟨X1, hX1⟩ : ∃ v, v = (o k).id := ⟨_, rfl⟩
      obtain ⟨X2, hX2⟩ : ∃ v, v = (o k).mr := ⟨_, rfl⟩
      obtain ⟨X3, hX3⟩ : ∃ v, v = (o k).dt := ⟨_, rfl⟩
      obtain ⟨X4, hX4⟩ : ∃ v, v = (o k).tm := ⟨_, rfl⟩
      obtain ⟨X5, hX5⟩ : ∃ v, v = (o k).un := ⟨_, rfl⟩
      obtain ⟨X6, hX6⟩ : ∃ v, v = (o k).ho := ⟨_, rfl⟩
      rw [← hX0] at c0 e0
      rw [← hX1] at c1 e1
      rw [← hX2] at c2 e2
      rw [← hX3] at c3 e3
      rw [← hX4] at c4 e4
      rw [← hX5] at c5 e5
      rw [← hX6] at c6 e6
      clear hc hc' hX0 hX1 hX2 hX3 hX4 hX5 hX6
      go_wp2_with fail
      go_region_held3 (fun wx => (wx.cell? ⟨b, off + k * 7, none⟩ = some (.string X0) ∧ wx.cell? ⟨b, off + k * 7 + 1, none⟩ = some (.int .i64 X1) ∧ wx.cell? ⟨b, off + k * 7 + 2, none⟩ = some (.bool X2) ∧ wx.cell? ⟨b, off + k * 7 + 3, none⟩ = some (.string X3) ∧ wx.cell? ⟨b, off + k * 7 + 4, none⟩ = some (.int .i64 X4) ∧ wx.cell? ⟨b, off + k * 7 + 5, none⟩ = some (.int .i64 X5) ∧ wx.cell? ⟨b, off + k * 7 + 6, none⟩ = some (.bool X6)) ∧ wx.cell? ⟨b', off' + k * 7, none⟩ = some (.string X0) ∧ wx.cell? ⟨b', off' + k * 7 + 1, none⟩ = some (.int .i64 X1) ∧ wx.cell? ⟨b', off' + k * 7 + 2, none⟩ = some (.bool X2) ∧ wx.cell? ⟨b', off' + k * 7 + 3, none⟩ = some (.string X3) ∧ wx.cell? ⟨b', off' + k * 7 + 4, none⟩ = some (.int .i64 X4) ∧ wx.cell? ⟨b', off' + k * 7 + 5, none⟩ = some (.int .i64 X5) ∧ wx.cell? ⟨b', off' + k * 7 + 6, none⟩ = some (.bool X6))
        (first | exact ⟨⟨c0, c1, c2, c3, c4, c5, c6⟩, e0, e1, e2, e3, e4, e5, e6⟩ | exact ⟨⟨(hb2.cell hbl).trans c0, (hb2.cell hbl).trans c1, (hb2.cell hbl).trans c2, (hb2.cell hbl).trans c3, (hb2.cell hbl).trans c4, (hb2.cell hbl).trans c5, (hb2.cell hbl).trans c6⟩, (hb2.cell hbl').trans e0, (hb2.cell hbl').trans e1, (hb2.cell hbl').trans e2, (hb2.cell hbl').trans e3, (hb2.cell hbl').trans e4, (hb2.cell hbl').trans e5, (hb2.cell hbl').trans e6⟩)
        ((go_at_call 74; refine (eqVe X0 X1 X2 X3 X4 X5 X6 _).mono ?_; rintro e w2 ⟨rfl, hb2⟩))
      have N2 : Hid (Below w.heap.size w w2) := HB.out.drew.trans (hb2.mono HB.out.size)
      clear hb2 c0 e0 c1 e1 c2 e2 c3 e3 c4 e4 c5 e5 c6 e6 HB
      go_wp2
      go_roundw
      case rel => exact ⟨k + 1, by omega, by go_num, N2.out⟩
      case measure => simp [intOf]; omega
    · have hlt' : ¬ (k : Int) < (n : Int) := by omega
      go_wp2
      go_ret
      exact ⟨rfl, HB.out⟩
end Go.Proofs.YtokjfffcciddhaaGreatDoor
namespace Go.Proofs.YtokjfffcciddhaaGreatDoor
open Go.RowKit
/-! LifeRule: what the laws do with one (by lawrow.py). -/
structure Lr where
  kd : Int
  px : ByteArray
  ag : Int
def Lr.row (o : Lr) : Array Value := #[.int .i64 (o).kd, .string (o).px, .int .i64 (o).ag]
/-- the cells of a row of them -/
def lrF (o : Nat → Lr) (p : Nat) : Value :=
  if p % 3 = 0 then .int .i64 (o (p / 3)).kd else if p % 3 = 1 then .string (o (p / 3)).px else .int .i64 (o (p / 3)).ag
theorem lrF0 (o : Nat → Lr) (k : Nat) : lrF o (k * 3) = .int .i64 (o k).kd := by unfold lrF; rw [if_pos (by omega), show (k * 3) / 3 = k by omega]
theorem lrF1 (o : Nat → Lr) (k : Nat) : lrF o (k * 3 + 1) = .string (o k).px := by unfold lrF; rw [if_neg (by omega), if_pos (by omega), show (k * 3 + 1) / 3 = k by omega]
theorem lrF2 (o : Nat → Lr) (k : Nat) : lrF o (k * 3 + 2) = .int .i64 (o k).ag := by unfold lrF; rw [if_neg (by omega), if_neg (by omega), show (k * 3 + 2) / 3 = k by omega]
/-- a slice of them that is read -/
def Lrs (w : World) (a : Option Addr) (n cap : Nat) (o : Nat → Lr) : Prop :=
  n ≤ cap ∧ (n = 0 ∨ ∃ b off, a = some ⟨b, off, none⟩ ∧ b < w.heap.size ∧ ∀ k, k < n → w.cell? ⟨b, off + k * 3, none⟩ = some (.int .i64 (o k).kd) ∧ w.cell? ⟨b, off + k * 3 + 1, none⟩ = some (.string (o k).px) ∧ w.cell? ⟨b, off + k * 3 + 2, none⟩ = some (.int .i64 (o k).ag))
theorem Lrs.below {w w' : World} {a : Option Addr} {n cap : Nat} {o : Nat → Lr} (h : Lrs w a n cap o) (hb : Below w.heap.size w w') : Lrs w' a n cap o := by
  refine ⟨h.1, ?_⟩
  rcases h.2 with h0 | ⟨b, off, rfl, h1, h2⟩
  · exact Or.inl h0
  · refine Or.inr ⟨b, off, rfl, Nat.lt_of_lt_of_le h1 hb.size, fun k hk => ?_⟩
    obtain ⟨c0, c1, c2⟩ := h2 k hk
    exact ⟨(hb.cell (p := ⟨b, _, none⟩) h1).trans c0, (hb.cell (p := ⟨b, _, none⟩) h1).trans c1, (hb.cell (p := ⟨b, _, none⟩) h1).trans c2⟩
theorem Lrs.of_row {w : World} {b : Nat} {t : TypeId} {n : Nat} {o : Nat → Lr} (h : FRow w b t (n * 3) (lrF o)) : Lrs w (some ⟨b, 0, none⟩) n n o := by
  refine ⟨Nat.le_refl _, Or.inr ⟨b, 0, rfl, h.lt, fun k hk => ?_⟩⟩
  have g0 := h.cell (show k * 3 < n * 3 by omega)
  have g1 := h.cell (show k * 3 + 1 < n * 3 by omega)
  have g2 := h.cell (show k * 3 + 2 < n * 3 by omega)
  rw [lrF0] at g0
  rw [lrF1] at g1
  rw [lrF2] at g2
  simp only [Nat.zero_add]
  exact ⟨g0, g1, g2⟩
/-- how much the laws count them -/
def szLr (o : Nat → Lr) : Nat → Nat
  | 0 => 0
  | k + 1 => szLr o k + (o k).px.size
theorem szLr_mono (o : Nat → Lr) {j k : Nat} (h : j ≤ k) : szLr o j ≤ szLr o k := by
  induction k with
  | zero => rw [Nat.le_zero.mp h]; exact Nat.le_refl _
  | succ k ih => rcases Nat.lt_or_ge j (k + 1) with h1 | h1
                 · have := ih (by omega); show _ ≤ szLr o k + _; omega
                 · rw [show j = k + 1 by omega]; exact Nat.le_refl _
theorem balLr {w w' : World} (h : Below w.heap.size w w') (o : Obj) : Below w.heap.size w (w'.alloc o) := h.alloc h.size o
set_option maxRecDepth 20000 in
set_option maxHeartbeats 1000000 in
theorem eqLr (p0 : Int) (p1 : ByteArray) (p2 : Int) (w : World) :
    Calls Tryz.prog 73 #[.agg #[.int .i64 p0, .string p1, .int .i64 p2], .agg #[.int .i64 p0, .string p1, .int .i64 p2]] w fun e w' => e = .returned (.bool true) ∧ Below w.heap.size w w' := by
  have d0 : (p0 != p0) = false := by simp
  have d2 : (p2 != p2) = false := by simp
  go_enter Tryz.func73, Tryz.ntmps73
  go_wp2
  go_ret
  exact ⟨rfl, ((Below.refl _ _).alloc (Nat.le_refl _) _).alloc (by simp) _⟩
set_option maxRecDepth 20000 in
set_option maxHeartbeats 1000000 in
theorem sz1Lr (p0 : Int) (p1 : ByteArray) (p2 : Int) (l : Int) (hl : l ≤ 1048576) (hl0 : 0 ≤ l) (h1 : p1.size ≤ 9223372036854775807) (w : World) :
    Calls Tryz.prog 55 #[.agg #[.int .i64 p0, .string p1, .int .i64 p2], .int .i64 l] w fun e w' => e = .returned (.int .i64 (if (p1.size : Int) ≤ l then l - p1.size else -1)) ∧ Below w.heap.size w w' := by
  by_cases g1 : l - (p1.size : Int) < 0
  · rw [if_neg (by omega)]
    go_enter Tryz.func55, Tryz.ntmps55
    go_wp2
    go_ret
    exact ⟨rfl, (Below.refl _ _).alloc (Nat.le_refl _) _⟩
  · rw [if_pos (by omega)]
    go_enter Tryz.func55, Tryz.ntmps55
    go_wp2
    go_ret
    exact ⟨rfl, (Below.refl _ _).alloc (Nat.le_refl _) _⟩
theorem oneLr (p0 : Int) (p1 : ByteArray) (p2 : Int) : (#[.int .i64 p0, .string p1, .int .i64 p2] : Array Value).all (·.oneCell') = true := by simp [Value.oneCell']
set_option maxRecDepth 20000 in
set_option maxHeartbeats 2000000 in
theorem to1Lr (p0 : Int) (p1 : ByteArray) (p2 : Int) (w : World) :
    Calls Tryz.prog 60 #[.agg #[.int .i64 p0, .string p1, .int .i64 p2]] w fun e w' => e = .returned (.agg #[.int .i64 p0, .string p1, .int .i64 p2]) ∧ Below w.heap.size w w' := by
  obtain ⟨W0, hW0⟩ : ∃ W, W = (((w.alloc (.cells #[.int .i64 p0, .string p1, .int .i64 p2] 105)).alloc (.cells #[.int .i64 0, .string ⟨#[]⟩, .int .i64 0] 110)).alloc (.cells #[.int .i64 0, .string ⟨#[]⟩, .int .i64 0] 110)) := ⟨_, rfl⟩
  have A0 : RowAt W0 w.heap.size 105 #[.int .i64 p0, .string p1, .int .i64 p2] := by rw [hW0]; exact ((RowAt.new _ _ _).alloc _).alloc _
  have R0 : RowAt W0 (w.heap.size + 1) 110 #[.int .i64 0, .string ⟨#[]⟩, .int .i64 0] := by rw [hW0]; exact (RowAt.next _ _ _ (by rw [size_al])).alloc _
  have O0 : RowAt W0 (w.heap.size + 1 + 1) 110 #[.int .i64 0, .string ⟨#[]⟩, .int .i64 0] := by rw [hW0]; exact RowAt.next _ _ _ (by simp only [size_al])
  have B0 : Below w.heap.size w W0 := by rw [hW0]; exact balLr (balLr (balLr (Below.refl _ _) _) _) _
  obtain ⟨W1, hW1⟩ : ∃ W, W = W0.setCell ⟨w.heap.size + 1 + 1, 0, none⟩ (.int .i64 p0) := ⟨_, rfl⟩
  have A1 : RowAt W1 w.heap.size 105 #[.int .i64 p0, .string p1, .int .i64 p2] := by rw [hW1]; exact A0.other _ _ (by simp; omega)
  have R1 : RowAt W1 (w.heap.size + 1) 110 #[.int .i64 0, .string ⟨#[]⟩, .int .i64 0] := by rw [hW1]; exact R0.other _ _ (by simp)
  have O1 : RowAt W1 (w.heap.size + 1 + 1) 110 #[.int .i64 p0, .string ⟨#[]⟩, .int .i64 0] := by rw [hW1]; exact O0.set 0 _
  have B1 : Below w.heap.size w W1 := by rw [hW1]; exact B0.setCell (by simp; omega) _
  have a0 : W0.cell? ⟨w.heap.size, 0, none⟩ = some (.int .i64 p0) := A0.cell 0
  have o0 : W0.cell? ⟨w.heap.size + 1 + 1, 0, none⟩ = some (.int .i64 0) := O0.cell 0
  have f0 := O0.free 0
  obtain ⟨W2, hW2⟩ : ∃ W, W = W1.setCell ⟨w.heap.size + 1 + 1, 1, none⟩ (.string p1) := ⟨_, rfl⟩
  have A2 : RowAt W2 w.heap.size 105 #[.int .i64 p0, .string p1, .int .i64 p2] := by rw [hW2]; exact A1.other _ _ (by simp; omega)
  have R2 : RowAt W2 (w.heap.size + 1) 110 #[.int .i64 0, .string ⟨#[]⟩, .int .i64 0] := by rw [hW2]; exact R1.other _ _ (by simp)
  have O2 : RowAt W2 (w.heap.size + 1 + 1) 110 #[.int .i64 p0, .string p1, .int .i64 0] := by rw [hW2]; exact O1.set 1 _
  have B2 : Below w.heap.size w W2 := by rw [hW2]; exact B1.setCell (by simp; omega) _
  have a1 : W1.cell? ⟨w.heap.size, 1, none⟩ = some (.string p1) := A1.cell 1
  have o1 : W1.cell? ⟨w.heap.size + 1 + 1, 1, none⟩ = some (.string ⟨#[]⟩) := O1.cell 1
  have f1 := O1.free 1
  obtain ⟨W3, hW3⟩ : ∃ W, W = W2.setCell ⟨w.heap.size + 1 + 1, 2, none⟩ (.int .i64 p2) := ⟨_, rfl⟩
  have A3 : RowAt W3 w.heap.size 105 #[.int .i64 p0, .string p1, .int .i64 p2] := by rw [hW3]; exact A2.other _ _ (by simp; omega)
  have R3 : RowAt W3 (w.heap.size + 1) 110 #[.int .i64 0, .string ⟨#[]⟩, .int .i64 0] := by rw [hW3]; exact R2.other _ _ (by simp)
  have O3 : RowAt W3 (w.heap.size + 1 + 1) 110 #[.int .i64 p0, .string p1, .int .i64 p2] := by rw [hW3]; exact O2.set 2 _
  have B3 : Below w.heap.size w W3 := by rw [hW3]; exact B2.setCell (by simp; omega) _
  have a2 : W2.cell? ⟨w.heap.size, 2, none⟩ = some (.int .i64 p2) := A2.cell 2
  have o2 : W2.cell? ⟨w.heap.size + 1 + 1, 2, none⟩ = some (.int .i64 0) := O2.cell 2
  have f2 := O2.free 2
  have HW0 := hid hW0
  have HW1 := hid hW1
  have HW2 := hid hW2
  have HW3 := hid hW3
  have q0 : W3.cell? ⟨w.heap.size + 1 + 1, 0, none⟩ = some (.int .i64 p0) := O3.cell 0
  have q1 : W3.cell? ⟨w.heap.size + 1 + 1, 1, none⟩ = some (.string p1) := O3.cell 1
  have q2 : W3.cell? ⟨w.heap.size + 1 + 1, 2, none⟩ = some (.int .i64 p2) := O3.cell 2
  have HR := hid R3
  have HB := hid B3
  clear hW0 A0 R0 O0 B0 hW1 A1 R1 O1 B1 hW2 A2 R2 O2 B2 hW3 A3 R3 O3 B3
  go_enter Tryz.func60, Tryz.ntmps60
  go_upto_region 2 with fail
  rw [← HW0.out]
  go_upto_region 3 with fail
  rw [← HW1.out]
  clear a0 o0 f0
  go_upto_region 4 with fail
  rw [← HW2.out]
  clear a1 o1 f1
  go_upto_region 5 with fail
  rw [← HW3.out]
  clear a2 o2 f2
  go_wp2_with (refine wpList_store_row rfl 110 (.tmp 2) (.tmp 13) rfl (w.heap.size + 1) #[.int .i64 p0, .string p1, .int .i64 p2] rfl rfl _ _ HR.out (by kernel_rfl) rfl (oneLr _ _ _) ?_)
  refine bodyPost_ret (v := .agg #[.int .i64 p0, .string p1, .int .i64 p2]) ?_ rfl ⟨rfl, below_setRow HB.out _ _ (by omega)⟩
  exact results_cell_row Tryz.results60 _ _ (w.heap.size + 1) _ _ _ _ rfl (HR.out.setRow _) Tryz.underlying110 rfl (by kernel_rfl)
end Go.Proofs.YtokjfffcciddhaaGreatDoor
namespace Go.Proofs.YtokjfffcciddhaaGreatDoor
open Go.RowKit
/-! Rows of LifeRule: what the laws do with them (by lawrow.py). -/
def lr0 : Lr := ⟨0, ⟨#[]⟩, 0⟩
/-- the first k of them, then empty ones -/
def lrTo (o : Nat → Lr) (k i : Nat) : Lr := if i < k then o i else lr0
theorem Tryz.infoLr : (Tryz.prog.info? 110).map (fun i => (i.zero, i.size, i.bytes)) = some (some (.agg #[.int .i64 0, .string ⟨#[]⟩, .int .i64 0]), 3, 32) := by kernel_rfl
theorem mkLr (w : World) (n : Nat) (hn : n ≤ 1048576) : (Instr.makeSlice 41 (.int .i64 n) (.int .i64 n)).run Tryz.prog w = .ok (.slice (some ⟨w.heap.size, 0, none⟩) n n) (w.alloc (.cells (madeCells #[.int .i64 0, .string ⟨#[]⟩, .int .i64 0] (n * 3)) 110)) := by
  obtain ⟨i0, hi, hz0, hz1, hz2⟩ := info_parts Tryz.infoLr
  have := run_make (P := Tryz.prog) w 41 110 i0 _ Tryz.underlying41 hi hz0 .i64 .i64 n n (by omega) (Int.le_refl _) (by rw [hz2]; omega) (by omega)
  rw [this, hz1]
  simp only [Int.toNat_natCast, Value.cells]
theorem lrTo_put (o : Nat → Lr) (k p : Nat) : putF (putF (putF (lrF (lrTo o k)) (k * 3) (.int .i64 (o k).kd)) (k * 3 + 1) (.string (o k).px)) (k * 3 + 2) (.int .i64 (o k).ag) p = lrF (lrTo o (k + 1)) p := by
  by_cases e : p / 3 = k
  · have hk : lrTo o (k + 1) k = o k := by unfold lrTo; rw [if_pos (by omega)]
    have : p = k * 3 ∨ p = k * 3 + 1 ∨ p = k * 3 + 2 := by omega
    rcases this with e | e | e <;> subst e
    · rw [lrF0, hk]; unfold putF; rw [if_neg (by omega), if_neg (by omega), if_pos rfl]
    · rw [lrF1, hk]; unfold putF; rw [if_neg (by omega), if_pos rfl]
    · rw [lrF2, hk]; unfold putF; rw [if_pos rfl]
  · have hk : lrTo o (k + 1) (p / 3) = lrTo o k (p / 3) := by
      unfold lrTo
      by_cases h : p / 3 < k
      · rw [if_pos (by omega), if_pos h]
      · rw [if_neg (by omega), if_neg h]
    unfold putF
    rw [if_neg (by omega), if_neg (by omega), if_neg (by omega)]
    unfold lrF
    rw [hk]
set_option maxRecDepth 20000 in
set_option maxHeartbeats 4000000 in
theorem toLrs (a : Option Addr) (len cap : Nat) (o : Nat → Lr) (hl : len ≤ 1048576) (w : World) (h : Lrs w a len cap o) :
    Calls Tryz.prog 42 #[.slice a len cap] w fun e w' => e = .returned (.slice (some ⟨w.heap.size, 0, none⟩) len len) ∧ FRow w' w.heap.size 110 (len * 3) (lrF o) ∧ Below w.heap.size w w' := by
  have hmk := fun w => mkLr w len hl
  have HH := hid h
  clear h
  go_enter Tryz.func42, Tryz.ntmps42
  go_wp2_with fail
  obtain ⟨W0, hW0⟩ : ∃ W0, W0 = w.alloc (.cells (madeCells #[.int .i64 0, .string ⟨#[]⟩, .int .i64 0] (len * 3)) 110) := ⟨_, rfl⟩
  have F0 : Hid (FRow W0 w.heap.size 110 (len * 3) (lrF (lrTo o 0))) := by
    rw [hW0]
    refine FRow.of (RowAt.new _ _ _) (by simp [madeCells]) fun p hp => ?_
    have h2 : p % 3 < 3 := Nat.mod_lt _ (by decide)
    have h3 : lrTo o 0 (p / 3) = lr0 := by unfold lrTo; rw [if_neg (by omega)]
    simp [madeCells, hp, lrF, h3, lr0]
    rcases (show p % 3 = 0 ∨ p % 3 = 1 ∨ p % 3 = 2 by omega) with e | e | e <;> rw [e] <;> rfl
  have B0 : Hid (Below w.heap.size w W0) := by rw [hW0]; exact (Below.refl _ _).alloc (Nat.le_refl _) _
  rw [← hW0]
  clear hW0 hmk
  go_loopw [4] (fun q wr => ∃ (k : Nat), k ≤ len ∧ q = .int .i64 k ∧ FRow wr w.heap.size 110 (len * 3) (lrF (lrTo o k)) ∧ Below w.heap.size w wr) (fun q _ => len - (intOf q).toNat)
  case atStart => exact ⟨0, Nat.zero_le _, rfl, F0.out, B0.out⟩
  case round =>
    obtain ⟨k, hk, rfl, hF, hB⟩ := hrel
    have HF := hid hF
    have HB := hid hB
    clear hF hB F0 B0
    by_cases hlt : k < len
    · have hlt' : (k : Int) < (len : Int) := by omega
      have k0 : (0 : Int) ≤ (k : Int) := by omega
      rcases (HH.out.below HB.out).2 with h00 | ⟨b, off, rfl, hbl, hc⟩
      · omega
      obtain ⟨c0, c1, c2⟩ := hc k hlt
      have HP := hid (lrTo_put o k)
      obtain ⟨X0, hX0⟩ : ∃ v, v = (o k).kd := ⟨_, rfl⟩
      obtain ⟨X1, hX1⟩ : ∃ v, v = (o k).px := ⟨_, rfl⟩
      obtain ⟨X2, hX2⟩ : ∃ v, v = (o k).ag := ⟨_, rfl⟩
      rw [← hX0] at c0 HP
      rw [← hX1] at c1 HP
      rw [← hX2] at c2 HP
      clear hc hX0 hX1 hX2
      go_wp2_with fail
      refine (to1Lr X0 X1 X2 wr).mono ?_
      rintro e w2 ⟨rfl, hb2⟩
      have F2 := hid (HF.out.below hb2 HF.out.lt)
      have B2 := hid (HB.out.trans (hb2.mono HB.out.size))
      clear hb2 HF HB
      have q0 := (F2.out).cell (show k * 3 < len * 3 by omega)
      rw [lrF0] at q0
      have q1 := (F2.out).cell (show k * 3 + 1 < len * 3 by omega)
      rw [lrF1] at q1
      have q2 := (F2.out).cell (show k * 3 + 2 < len * 3 by omega)
      rw [lrF2] at q2
      have f0 := F2.out.free (k * 3)
      have G1 : FRow (w2.setCell ⟨w.heap.size, k * 3, none⟩ (.int .i64 X0)) w.heap.size 110 (len * 3) (putF (lrF (lrTo o k)) (k * 3) (.int .i64 X0)) := F2.out.set (k * 3) (.int .i64 X0)
      have f1 := G1.free (k * 3 + 1)
      have G2 : FRow ((w2.setCell ⟨w.heap.size, k * 3, none⟩ (.int .i64 X0)).setCell ⟨w.heap.size, k * 3 + 1, none⟩ (.string X1)) w.heap.size 110 (len * 3) (putF (putF (lrF (lrTo o k)) (k * 3) (.int .i64 X0)) (k * 3 + 1) (.string X1)) := G1.set (k * 3 + 1) (.string X1)
      have f2 := G2.free (k * 3 + 2)
      have G3 : FRow (((w2.setCell ⟨w.heap.size, k * 3, none⟩ (.int .i64 X0)).setCell ⟨w.heap.size, k * 3 + 1, none⟩ (.string X1)).setCell ⟨w.heap.size, k * 3 + 2, none⟩ (.int .i64 X2)) w.heap.size 110 (len * 3) (putF (putF (putF (lrF (lrTo o k)) (k * 3) (.int .i64 X0)) (k * 3 + 1) (.string X1)) (k * 3 + 2) (.int .i64 X2)) := G2.set (k * 3 + 2) (.int .i64 X2)
      have F4 : Hid (FRow (((w2.setCell ⟨w.heap.size, k * 3, none⟩ (.int .i64 X0)).setCell ⟨w.heap.size, k * 3 + 1, none⟩ (.string X1)).setCell ⟨w.heap.size, k * 3 + 2, none⟩ (.int .i64 X2)) w.heap.size 110 (len * 3) (lrF (lrTo o (k + 1)))) := G3.congr fun p _ => HP.out p
      have B4 : Hid (Below w.heap.size w (((w2.setCell ⟨w.heap.size, k * 3, none⟩ (.int .i64 X0)).setCell ⟨w.heap.size, k * 3 + 1, none⟩ (.string X1)).setCell ⟨w.heap.size, k * 3 + 2, none⟩ (.int .i64 X2))) := (((B2.out.setCell (Nat.le_refl _) _).setCell (Nat.le_refl _) _).setCell (Nat.le_refl _) _)
      clear G1 G2 G3 HP F2 B2
      go_wp2
      go_roundw
      case rel => exact ⟨k + 1, by omega, by go_num, F4.out, B4.out⟩
      case measure => simp [intOf]; omega
    · have hlt' : ¬ (k : Int) < (len : Int) := by omega
      have hke : k = len := by omega
      go_wp2
      go_ret
      refine ⟨rfl, HF.out.congr fun p hp => ?_, HB.out⟩
      unfold lrF
      rw [show lrTo o k (p / 3) = o (p / 3) by unfold lrTo; rw [if_pos (by omega)]]
set_option maxRecDepth 20000 in
set_option maxHeartbeats 4000000 in
theorem szLrs (a : Option Addr) (n cap : Nat) (o : Nat → Lr) (l : Nat) (hl : l ≤ 1048576) (hn : n ≤ 9223372036854775807) (hs : ∀ k, k < n → (o k).px.size ≤ 9223372036854775807) (w : World) (h : Lrs w a n cap o) :
    Calls Tryz.prog 29 #[.slice a n cap, .int .i64 l] w fun e w' => e = .returned (.int .i64 (if n + szLr o n ≤ l then ((l - n - szLr o n : Nat) : Int) else -1)) ∧ Below w.heap.size w w' := by
  have HH := hid h
  have HS := hid hs
  clear h hs
  obtain ⟨RV, hRV⟩ : ∃ v : Int, v = if n + szLr o n ≤ l then ((l - n - szLr o n : Nat) : Int) else -1 := ⟨_, rfl⟩
  rw [← hRV]
  by_cases h0 : (l : Int) - (n : Int) < 0
  · rw [if_neg (by omega)] at hRV
    subst hRV
    go_enter Tryz.func29, Tryz.ntmps29
    go_wp2
    go_ret
    exact ⟨rfl, Below.refl _ _⟩
  obtain ⟨m, hm⟩ : ∃ m : Nat, m = l - n := ⟨_, rfl⟩
  have hme : (l : Int) - (n : Int) = m := by omega
  have HM := hid hm
  have hml : m + n = l ∧ True := ⟨by omega, trivial⟩
  clear hm
  go_enter Tryz.func29, Tryz.ntmps29
  go_wp2_with fail
  go_loopw [5, 1] (fun q y wr => ∃ (k : Nat), k ≤ n ∧ q = .int .i64 k ∧ szLr o k ≤ m ∧ y = .int .i64 ((m - szLr o k : Nat) : Int) ∧ Below w.heap.size w wr) (fun q _ _ => n - (intOf q).toNat)
  case atStart => exact ⟨0, Nat.zero_le _, rfl, Nat.zero_le _, by simp [szLr], Below.refl _ _⟩
  case round =>
    obtain ⟨k, hk, rfl, hz, rfl, hB⟩ := hrel
    have HB := hid hB
    clear hB
    by_cases hlt : k < n
    · have hlt' : (k : Int) < (n : Int) := by omega
      have k0 : (0 : Int) ≤ (k : Int) := by omega
      rcases (HH.out.below HB.out).2 with h00 | ⟨b, off, rfl, hbl, hc⟩
      · omega
      obtain ⟨c0, c1, c2⟩ := hc k hlt
      obtain s1 := HS.out k hlt
      have hz1 : szLr o (k + 1) = szLr o k + (o k).px.size := rfl
      have hzn := szLr_mono o (show k + 1 ≤ n by omega)
      obtain ⟨X0, hX0⟩ : ∃ v, v = (o k).kd := ⟨_, rfl⟩
      obtain ⟨X1, hX1⟩ : ∃ v, v = (o k).px := ⟨_, rfl⟩
      obtain ⟨X2, hX2⟩ : ∃ v, v = (o k).ag := ⟨_, rfl⟩
      rw [← hX0] at c0
      rw [← hX1] at c1 s1 hz1
      rw [← hX2] at c2
      clear hc hX0 hX1 hX2
      obtain ⟨r, hr⟩ : ∃ r, r = m - szLr o k := ⟨_, rfl⟩
      rw [← hr]
      by_cases hfit : X1.size ≤ r
      · obtain ⟨v, hv⟩ : ∃ v : Nat, v = r - X1.size := ⟨_, rfl⟩
        have hpos : ¬ (v : Int) < 0 := by omega
        have hv1 : v ≤ 1048576 := by omega
        have Z1 : Hid (szLr o (k + 1) ≤ m ∧ m - szLr o (k + 1) = v) := by constructor <;> omega
        have hif : (if (X1.size : Int) ≤ (r : Int) then (r : Int) - X1.size else -1) = (v : Int) := by rw [if_pos (by omega)]; omega
        have S := sz1Lr X0 X1 X2 r (by omega) (by omega) s1 wr
        rw [hif] at S
        have HS2 := hid S
        have HRV := hid hRV
        have HR2 := hid hr
        clear S hif hRV hr hz1 hv
        go_wp2_with fail
        refine HS2.out.mono ?_
        rintro e w2 ⟨rfl, hb2⟩
        have B2 := hid (HB.out.trans (hb2.mono HB.out.size))
        clear hb2 HB c0 c1 c2 hfit hz hzn s1
        go_wp2
        go_roundw
        case rel => exact ⟨k + 1, by omega, by go_num, Z1.out.1, by rw [Z1.out.2], B2.out⟩
        case measure => simp [intOf]; omega
      · have hneg : (-1 : Int) < 0 := by omega
        have hif : (if (X1.size : Int) ≤ (r : Int) then (r : Int) - X1.size else -1) = -1 := if_neg (by omega)
        rw [if_neg (by omega)] at hRV
        have S := sz1Lr X0 X1 X2 r (by omega) (by omega) s1 wr
        rw [hif] at S
        have HS2 := hid S
        have HRV := hid hRV
        have HR2 := hid hr
        clear S hif hRV hr hz1
        go_wp2_with fail
        refine HS2.out.mono ?_
        rintro e w2 ⟨rfl, hb2⟩
        have B2 := hid (HB.out.trans (hb2.mono HB.out.size))
        clear hb2 HB
        go_wp2
        go_ret
        exact ⟨by rw [HRV.out]; rfl, B2.out⟩
    · have hlt' : ¬ (k : Int) < (n : Int) := by omega
      have hke : k = n := by omega
      subst hke
      rw [if_pos (by omega)] at hRV
      have HRV := hid hRV
      clear hRV
      go_wp2
      go_ret
      exact ⟨by rw [HRV.out, ← HM.out]; rfl, HB.out⟩
set_option maxRecDepth 20000 in
set_option maxHeartbeats 4000000 in
theorem eqLrs (a : Option Addr) (n cap : Nat) (a' : Option Addr) (cap' : Nat) (o : Nat → Lr) (hl : n ≤ 1048576) (w : World) (h : Lrs w a n cap o) (h' : Lrs w a' n cap' o) :
    Calls Tryz.prog 53 #[.slice a n cap, .slice a' n cap'] w fun e w' => e = .returned (.bool true) ∧ Below w.heap.size w w' := by
  have HH := hid h
  have HH' := hid h'
  have dn : ((n : Int) != (n : Int)) = false := by simp
  clear h h'
  go_enter Tryz.func53, Tryz.ntmps53
  go_wp2_with fail
  go_loopw [5] (fun q wr => ∃ (k : Nat), k ≤ n ∧ q = .int .i64 k ∧ Below w.heap.size w wr) (fun q _ => n - (intOf q).toNat)
  case atStart => exact ⟨0, Nat.zero_le _, rfl, Below.refl _ _⟩
  case round =>
    obtain ⟨k, hk, rfl, hB⟩ := hrel
    have HB := hid hB
    clear hB
    by_cases hlt : k < n
    · have hlt' : (k : Int) < (n : Int) := by omega
      have k0 : (0 : Int) ≤ (k : Int) := by omega
      rcases (HH.out.below HB.out).2 with h00 | ⟨b, off, rfl, hbl, hc⟩
      · omega
      rcases (HH'.out.below HB.out).2 with h00 | ⟨b', off', rfl, hbl', hc'⟩
      · omega
      obtain ⟨c0, c1, c2⟩ := hc k hlt
      obtain ⟨e0, e1, e2⟩ := hc' k hlt
      obtain ⟨X0, hX0⟩ : ∃ v, v = (o k).kd := ⟨_, rfl⟩
      obtain ⟨X1, hX1⟩ : ∃ v, v = (o k).px := ⟨_, rfl⟩
      obtain ⟨X2, hX2⟩ : ∃ v, v = (o k).ag := ⟨_, rfl⟩
      rw [← hX0] at c0 e0
      rw [← hX1] at c1 e1
      rw [← hX2] at c2 e2
      clear hc hc' hX0 hX1 hX2
      go_wp2_with fail
      go_region_held3 (fun wx => (wx.cell? ⟨b, off + k * 3, none⟩ = some (.int .i64 X0) ∧ wx.cell? ⟨b, off + k * 3 + 1, none⟩ = some (.string X1) ∧ wx.cell? ⟨b, off + k * 3 + 2, none⟩ = some (.int .i64 X2)) ∧ wx.cell? ⟨b', off' + k * 3, none⟩ = some (.int .i64 X0) ∧ wx.cell? ⟨b', off' + k * 3 + 1, none⟩ = some (.string X1) ∧ wx.cell? ⟨b', off' + k * 3 + 2, none⟩ = some (.int .i64 X2))
        (first | exact ⟨⟨c0, c1, c2⟩, e0, e1, e2⟩ | exact ⟨⟨(hb2.cell hbl).trans c0, (hb2.cell hbl).trans c1, (hb2.cell hbl).trans c2⟩, (hb2.cell hbl').trans e0, (hb2.cell hbl').trans e1, (hb2.cell hbl').trans e2⟩)
        ((go_at_call 73; refine (eqLr X0 X1 X2 _).mono ?_; rintro e w2 ⟨rfl, hb2⟩))
      have N2 : Hid (Below w.heap.size w w2) := HB.out.drew.trans (hb2.mono HB.out.size)
      clear hb2 c0 e0 c1 e1 c2 e2 HB
      go_wp2
      go_roundw
      case rel => exact ⟨k + 1, by omega, by go_num, N2.out⟩
      case measure => simp [intOf]; omega
    · have hlt' : ¬ (k : Int) < (n : Int) := by omega
      go_wp2
      go_ret
      exact ⟨rfl, HB.out⟩
end Go.Proofs.YtokjfffcciddhaaGreatDoor
