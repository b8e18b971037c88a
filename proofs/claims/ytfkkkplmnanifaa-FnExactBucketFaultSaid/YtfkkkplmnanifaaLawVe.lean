import Derived.Test.YtfkkkplmnanifaaMarkT
import Derived.Test.YtfkkkplmnanifaaRows1
import Derived.Test.YtfkkkplmnanifaaFRow
import Derived.WalkLawsBesides
import Derived.WalkSpells
import Derived.OpenShut
import Derived.BigQuiet
import Derived.Deep.QuietTactic
import Derived.Deep.RegionHeld3
import Derived.Deep.CutRange
namespace Go.Proofs.Ytfkkkplmnanifaa
open Go.RowKit
/-! Version: what the laws do with one (by lawrow.py). -/
structure Ve where
  ky : ByteArray
  id : Int
  mr : Bool
  dt : ByteArray
  tm : Int
  un : Int
  ho : Bool
def Ve.row (o : Ve) : Array Value := #[.string (o).ky, .int .i64 (o).id, .bool (o).mr, .string (o).dt, .int .i64 (o).tm, .int .i64 (o).un, .bool (o).ho]
/-- the cells of a row of them -/
def veF (o : Nat → Ve) (p : Nat) : Value :=
  if p % 7 = 0 then .string (o (p / 7)).ky else if p % 7 = 1 then .int .i64 (o (p / 7)).id else if p % 7 = 2 then .bool (o (p / 7)).mr else if p % 7 = 3 then .string (o (p / 7)).dt else if p % 7 = 4 then .int .i64 (o (p / 7)).tm else if p % 7 = 5 then .int .i64 (o (p / 7)).un else .bool (o (p / 7)).ho
theorem veF0 (o : Nat → Ve) (k : Nat) : veF o (k * 7) = .string (o k).ky := by unfold veF; rw [if_pos (by omega), show (k * 7) / 7 = k by omega]
theorem veF1 (o : Nat → Ve) (k : Nat) : veF o (k * 7 + 1) = .int .i64 (o k).id := by unfold veF; rw [if_neg (by omega), if_pos (by omega), show (k * 7 + 1) / 7 = k by omega]
theorem veF2 (o : Nat → Ve) (k : Nat) : veF o (k * 7 + 2) = .bool (o k).mr := by unfold veF; rw [if_neg (by omega), if_neg (by omega), if_pos (by omega), show (k * 7 + 2) / 7 = k by omega]
theorem veF3 (o : Nat → Ve) (k : Nat) : veF o (k * 7 + 3) = .string (o k).dt := by unfold veF; rw [if_neg (by omega), if_neg (by omega), if_neg (by omega), if_pos (by omega), show (k * 7 + 3) / 7 = k by omega]
theorem veF4 (o : Nat → Ve) (k : Nat) : veF o (k * 7 + 4) = .int .i64 (o k).tm := by unfold veF; rw [if_neg (by omega), if_neg (by omega), if_neg (by omega), if_neg (by omega), if_pos (by omega), show (k * 7 + 4) / 7 = k by omega]
theorem veF5 (o : Nat → Ve) (k : Nat) : veF o (k * 7 + 5) = .int .i64 (o k).un := by unfold veF; rw [if_neg (by omega), if_neg (by omega), if_neg (by omega), if_neg (by omega), if_neg (by omega), if_pos (by omega), show (k * 7 + 5) / 7 = k by omega]
theorem veF6 (o : Nat → Ve) (k : Nat) : veF o (k * 7 + 6) = .bool (o k).ho := by unfold veF; rw [if_neg (by omega), if_neg (by omega), if_neg (by omega), if_neg (by omega), if_neg (by omega), if_neg (by omega), show (k * 7 + 6) / 7 = k by omega]
/-- a slice of them that is read -/
def Ves (w : World) (a : Option Addr) (n cap : Nat) (o : Nat → Ve) : Prop :=
  n ≤ cap ∧ (n = 0 ∨ ∃ b off, a = some ⟨b, off, none⟩ ∧ b < w.heap.size ∧ ∀ k, k < n → w.cell? ⟨b, off + k * 7, none⟩ = some (.string (o k).ky) ∧ w.cell? ⟨b, off + k * 7 + 1, none⟩ = some (.int .i64 (o k).id) ∧ w.cell? ⟨b, off + k * 7 + 2, none⟩ = some (.bool (o k).mr) ∧ w.cell? ⟨b, off + k * 7 + 3, none⟩ = some (.string (o k).dt) ∧ w.cell? ⟨b, off + k * 7 + 4, none⟩ = some (.int .i64 (o k).tm) ∧ w.cell? ⟨b, off + k * 7 + 5, none⟩ = some (.int .i64 (o k).un) ∧ w.cell? ⟨b, off + k * 7 + 6, none⟩ = some (.bool (o k).ho))
theorem Ves.below {w w' : World} {a : Option Addr} {n cap : Nat} {o : Nat → Ve} (h : Ves w a n cap o) (hb : Below w.heap.size w w') : Ves w' a n cap o := by
  refine ⟨h.1, ?_⟩
  rcases h.2 with h0 | ⟨b, off, rfl, h1, h2⟩
  · exact Or.inl h0
  · refine Or.inr ⟨b, off, rfl, Nat.lt_of_lt_of_le h1 hb.size, fun k hk => ?_⟩
    obtain ⟨c0, c1, c2, c3, c4, c5, c6⟩ := h2 k hk
    exact ⟨(hb.cell (p := ⟨b, _, none⟩) h1).trans c0, (hb.cell (p := ⟨b, _, none⟩) h1).trans c1, (hb.cell (p := ⟨b, _, none⟩) h1).trans c2, (hb.cell (p := ⟨b, _, none⟩) h1).trans c3, (hb.cell (p := ⟨b, _, none⟩) h1).trans c4, (hb.cell (p := ⟨b, _, none⟩) h1).trans c5, (hb.cell (p := ⟨b, _, none⟩) h1).trans c6⟩
theorem Ves.of_row {w : World} {b : Nat} {t : TypeId} {n : Nat} {o : Nat → Ve} (h : FRow w b t (n * 7) (veF o)) : Ves w (some ⟨b, 0, none⟩) n n o := by
  refine ⟨Nat.le_refl _, Or.inr ⟨b, 0, rfl, h.lt, fun k hk => ?_⟩⟩
  have g0 := h.cell (show k * 7 < n * 7 by omega)
  have g1 := h.cell (show k * 7 + 1 < n * 7 by omega)
  have g2 := h.cell (show k * 7 + 2 < n * 7 by omega)
  have g3 := h.cell (show k * 7 + 3 < n * 7 by omega)
  have g4 := h.cell (show k * 7 + 4 < n * 7 by omega)
  have g5 := h.cell (show k * 7 + 5 < n * 7 by omega)
  have g6 := h.cell (show k * 7 + 6 < n * 7 by omega)
  rw [veF0] at g0
  rw [veF1] at g1
  rw [veF2] at g2
  rw [veF3] at g3
  rw [veF4] at g4
  rw [veF5] at g5
  rw [veF6] at g6
  simp only [Nat.zero_add]
  exact ⟨g0, g1, g2, g3, g4, g5, g6⟩
/-- how much the laws count them -/
def szVe (o : Nat → Ve) : Nat → Nat
  | 0 => 0
  | k + 1 => szVe o k + (o k).ky.size + (o k).dt.size
theorem szVe_mono (o : Nat → Ve) {j k : Nat} (h : j ≤ k) : szVe o j ≤ szVe o k := by
  induction k with
  | zero => rw [Nat.le_zero.mp h]; exact Nat.le_refl _
  | succ k ih => rcases Nat.lt_or_ge j (k + 1) with h1 | h1
                 · have := ih (by omega); show _ ≤ szVe o k + _ + _; omega
                 · rw [show j = k + 1 by omega]; exact Nat.le_refl _
theorem balVe {w w' : World} (h : Below w.heap.size w w') (o : Obj) : Below w.heap.size w (w'.alloc o) := h.alloc h.size o
set_option maxRecDepth 20000 in
set_option maxHeartbeats 1000000 in
theorem eqVe (p0 : ByteArray) (p1 : Int) (p2 : Bool) (p3 : ByteArray) (p4 : Int) (p5 : Int) (p6 : Bool) (w : World) :
    Calls Try.prog 32 #[.agg #[.string p0, .int .i64 p1, .bool p2, .string p3, .int .i64 p4, .int .i64 p5, .bool p6], .agg #[.string p0, .int .i64 p1, .bool p2, .string p3, .int .i64 p4, .int .i64 p5, .bool p6]] w fun e w' => e = .returned (.bool true) ∧ Below w.heap.size w w' := by
  have d1 : (p1 != p1) = false := by simp
  have d2 : (p2 != p2) = false := by simp
  have d4 : (p4 != p4) = false := by simp
  have d5 : (p5 != p5) = false := by simp
  have d6 : (p6 != p6) = false := by simp
  go_enter Try.func32, Try.ntmps32
  go_wp2
  go_ret
  exact ⟨rfl, ((Below.refl _ _).alloc (Nat.le_refl _) _).alloc (by simp) _⟩
set_option maxRecDepth 20000 in
set_option maxHeartbeats 1000000 in
theorem sz1Ve (p0 : ByteArray) (p1 : Int) (p2 : Bool) (p3 : ByteArray) (p4 : Int) (p5 : Int) (p6 : Bool) (l : Int) (hl : l ≤ 1048576) (hl0 : 0 ≤ l) (h0 : p0.size ≤ 9223372036854775807) (h3 : p3.size ≤ 9223372036854775807) (w : World) :
    Calls Try.prog 25 #[.agg #[.string p0, .int .i64 p1, .bool p2, .string p3, .int .i64 p4, .int .i64 p5, .bool p6], .int .i64 l] w fun e w' => e = .returned (.int .i64 (if (p0.size : Int) + p3.size ≤ l then l - p0.size - p3.size else -1)) ∧ Below w.heap.size w w' := by
  by_cases g0 : l - (p0.size : Int) < 0
  · rw [if_neg (by omega)]
    go_enter Try.func25, Try.ntmps25
    go_wp2
    go_ret
    exact ⟨rfl, (Below.refl _ _).alloc (Nat.le_refl _) _⟩
  ·
    by_cases g3 : l - (p0.size : Int) - (p3.size : Int) < 0
    · rw [if_neg (by omega)]
      go_enter Try.func25, Try.ntmps25
      go_wp2
      go_ret
      exact ⟨rfl, (Below.refl _ _).alloc (Nat.le_refl _) _⟩
    · rw [if_pos (by omega)]
      go_enter Try.func25, Try.ntmps25
      go_wp2
      go_ret
      exact ⟨rfl, (Below.refl _ _).alloc (Nat.le_refl _) _⟩
theorem oneVe (p0 : ByteArray) (p1 : Int) (p2 : Bool) (p3 : ByteArray) (p4 : Int) (p5 : Int) (p6 : Bool) : (#[.string p0, .int .i64 p1, .bool p2, .string p3, .int .i64 p4, .int .i64 p5, .bool p6] : Array Value).all (·.oneCell') = true := by simp [Value.oneCell']
set_option maxRecDepth 20000 in
set_option maxHeartbeats 2000000 in
theorem to1Ve (p0 : ByteArray) (p1 : Int) (p2 : Bool) (p3 : ByteArray) (p4 : Int) (p5 : Int) (p6 : Bool) (w : World) :
    Calls Try.prog 27 #[.agg #[.string p0, .int .i64 p1, .bool p2, .string p3, .int .i64 p4, .int .i64 p5, .bool p6]] w fun e w' => e = .returned (.agg #[.string p0, .int .i64 p1, .bool p2, .string p3, .int .i64 p4, .int .i64 p5, .bool p6]) ∧ Below w.heap.size w w' := by
  obtain ⟨W0, hW0⟩ : ∃ W, W = (((w.alloc (.cells #[.string p0, .int .i64 p1, .bool p2, .string p3, .int .i64 p4, .int .i64 p5, .bool p6] 52)).alloc (.cells #[.string ⟨#[]⟩, .int .i64 0, .bool false, .string ⟨#[]⟩, .int .i64 0, .int .i64 0, .bool false] 39)).alloc (.cells #[.string ⟨#[]⟩, .int .i64 0, .bool false, .string ⟨#[]⟩, .int .i64 0, .int .i64 0, .bool false] 39)) := ⟨_, rfl⟩
  have A0 : RowAt W0 w.heap.size 52 #[.string p0, .int .i64 p1, .bool p2, .string p3, .int .i64 p4, .int .i64 p5, .bool p6] := by rw [hW0]; exact ((RowAt.new _ _ _).alloc _).alloc _
  have R0 : RowAt W0 (w.heap.size + 1) 39 #[.string ⟨#[]⟩, .int .i64 0, .bool false, .string ⟨#[]⟩, .int .i64 0, .int .i64 0, .bool false] := by rw [hW0]; exact (RowAt.next _ _ _ (by rw [size_al])).alloc _
  have O0 : RowAt W0 (w.heap.size + 1 + 1) 39 #[.string ⟨#[]⟩, .int .i64 0, .bool false, .string ⟨#[]⟩, .int .i64 0, .int .i64 0, .bool false] := by rw [hW0]; exact RowAt.next _ _ _ (by simp only [size_al])
  have B0 : Below w.heap.size w W0 := by rw [hW0]; exact balVe (balVe (balVe (Below.refl _ _) _) _) _
  obtain ⟨W1, hW1⟩ : ∃ W, W = W0.setCell ⟨w.heap.size + 1 + 1, 0, none⟩ (.string p0) := ⟨_, rfl⟩
  have A1 : RowAt W1 w.heap.size 52 #[.string p0, .int .i64 p1, .bool p2, .string p3, .int .i64 p4, .int .i64 p5, .bool p6] := by rw [hW1]; exact A0.other _ _ (by simp; omega)
  have R1 : RowAt W1 (w.heap.size + 1) 39 #[.string ⟨#[]⟩, .int .i64 0, .bool false, .string ⟨#[]⟩, .int .i64 0, .int .i64 0, .bool false] := by rw [hW1]; exact R0.other _ _ (by simp)
  have O1 : RowAt W1 (w.heap.size + 1 + 1) 39 #[.string p0, .int .i64 0, .bool false, .string ⟨#[]⟩, .int .i64 0, .int .i64 0, .bool false] := by rw [hW1]; exact O0.set 0 _
  have B1 : Below w.heap.size w W1 := by rw [hW1]; exact B0.setCell (by simp; omega) _
  have a0 : W0.cell? ⟨w.heap.size, 0, none⟩ = some (.string p0) := A0.cell 0
  have o0 : W0.cell? ⟨w.heap.size + 1 + 1, 0, none⟩ = some (.string ⟨#[]⟩) := O0.cell 0
  have f0 := O0.free 0
  obtain ⟨W2, hW2⟩ : ∃ W, W = W1.setCell ⟨w.heap.size + 1 + 1, 1, none⟩ (.int .i64 p1) := ⟨_, rfl⟩
  have A2 : RowAt W2 w.heap.size 52 #[.string p0, .int .i64 p1, .bool p2, .string p3, .int .i64 p4, .int .i64 p5, .bool p6] := by rw [hW2]; exact A1.other _ _ (by simp; omega)
  have R2 : RowAt W2 (w.heap.size + 1) 39 #[.string ⟨#[]⟩, .int .i64 0, .bool false, .string ⟨#[]⟩, .int .i64 0, .int .i64 0, .bool false] := by rw [hW2]; exact R1.other _ _ (by simp)
  have O2 : RowAt W2 (w.heap.size + 1 + 1) 39 #[.string p0, .int .i64 p1, .bool false, .string ⟨#[]⟩, .int .i64 0, .int .i64 0, .bool false] := by rw [hW2]; exact O1.set 1 _
  have B2 : Below w.heap.size w W2 := by rw [hW2]; exact B1.setCell (by simp; omega) _
  have a1 : W1.cell? ⟨w.heap.size, 1, none⟩ = some (.int .i64 p1) := A1.cell 1
  have o1 : W1.cell? ⟨w.heap.size + 1 + 1, 1, none⟩ = some (.int .i64 0) := O1.cell 1
  have f1 := O1.free 1
  obtain ⟨W3, hW3⟩ : ∃ W, W = W2.setCell ⟨w.heap.size + 1 + 1, 2, none⟩ (.bool p2) := ⟨_, rfl⟩
  have A3 : RowAt W3 w.heap.size 52 #[.string p0, .int .i64 p1, .bool p2, .string p3, .int .i64 p4, .int .i64 p5, .bool p6] := by rw [hW3]; exact A2.other _ _ (by simp; omega)
  have R3 : RowAt W3 (w.heap.size + 1) 39 #[.string ⟨#[]⟩, .int .i64 0, .bool false, .string ⟨#[]⟩, .int .i64 0, .int .i64 0, .bool false] := by rw [hW3]; exact R2.other _ _ (by simp)
  have O3 : RowAt W3 (w.heap.size + 1 + 1) 39 #[.string p0, .int .i64 p1, .bool p2, .string ⟨#[]⟩, .int .i64 0, .int .i64 0, .bool false] := by rw [hW3]; exact O2.set 2 _
  have B3 : Below w.heap.size w W3 := by rw [hW3]; exact B2.setCell (by simp; omega) _
  have a2 : W2.cell? ⟨w.heap.size, 2, none⟩ = some (.bool p2) := A2.cell 2
  have o2 : W2.cell? ⟨w.heap.size + 1 + 1, 2, none⟩ = some (.bool false) := O2.cell 2
  have f2 := O2.free 2
  obtain ⟨W4, hW4⟩ : ∃ W, W = W3.setCell ⟨w.heap.size + 1 + 1, 3, none⟩ (.string p3) := ⟨_, rfl⟩
  have A4 : RowAt W4 w.heap.size 52 #[.string p0, .int .i64 p1, .bool p2, .string p3, .int .i64 p4, .int .i64 p5, .bool p6] := by rw [hW4]; exact A3.other _ _ (by simp; omega)
  have R4 : RowAt W4 (w.heap.size + 1) 39 #[.string ⟨#[]⟩, .int .i64 0, .bool false, .string ⟨#[]⟩, .int .i64 0, .int .i64 0, .bool false] := by rw [hW4]; exact R3.other _ _ (by simp)
  have O4 : RowAt W4 (w.heap.size + 1 + 1) 39 #[.string p0, .int .i64 p1, .bool p2, .string p3, .int .i64 0, .int .i64 0, .bool false] := by rw [hW4]; exact O3.set 3 _
  have B4 : Below w.heap.size w W4 := by rw [hW4]; exact B3.setCell (by simp; omega) _
  have a3 : W3.cell? ⟨w.heap.size, 3, none⟩ = some (.string p3) := A3.cell 3
  have o3 : W3.cell? ⟨w.heap.size + 1 + 1, 3, none⟩ = some (.string ⟨#[]⟩) := O3.cell 3
  have f3 := O3.free 3
  obtain ⟨W5, hW5⟩ : ∃ W, W = W4.setCell ⟨w.heap.size + 1 + 1, 4, none⟩ (.int .i64 p4) := ⟨_, rfl⟩
  have A5 : RowAt W5 w.heap.size 52 #[.string p0, .int .i64 p1, .bool p2, .string p3, .int .i64 p4, .int .i64 p5, .bool p6] := by rw [hW5]; exact A4.other _ _ (by simp; omega)
  have R5 : RowAt W5 (w.heap.size + 1) 39 #[.string ⟨#[]⟩, .int .i64 0, .bool false, .string ⟨#[]⟩, .int .i64 0, .int .i64 0, .bool false] := by rw [hW5]; exact R4.other _ _ (by simp)
  have O5 : RowAt W5 (w.heap.size + 1 + 1) 39 #[.string p0, .int .i64 p1, .bool p2, .string p3, .int .i64 p4, .int .i64 0, .bool false] := by rw [hW5]; exact O4.set 4 _
  have B5 : Below w.heap.size w W5 := by rw [hW5]; exact B4.setCell (by simp; omega) _
  have a4 : W4.cell? ⟨w.heap.size, 4, none⟩ = some (.int .i64 p4) := A4.cell 4
  have o4 : W4.cell? ⟨w.heap.size + 1 + 1, 4, none⟩ = some (.int .i64 0) := O4.cell 4
  have f4 := O4.free 4
  obtain ⟨W6, hW6⟩ : ∃ W, W = W5.setCell ⟨w.heap.size + 1 + 1, 5, none⟩ (.int .i64 p5) := ⟨_, rfl⟩
  have A6 : RowAt W6 w.heap.size 52 #[.string p0, .int .i64 p1, .bool p2, .string p3, .int .i64 p4, .int .i64 p5, .bool p6] := by rw [hW6]; exact A5.other _ _ (by simp; omega)
  have R6 : RowAt W6 (w.heap.size + 1) 39 #[.string ⟨#[]⟩, .int .i64 0, .bool false, .string ⟨#[]⟩, .int .i64 0, .int .i64 0, .bool false] := by rw [hW6]; exact R5.other _ _ (by simp)
  have O6 : RowAt W6 (w.heap.size + 1 + 1) 39 #[.string p0, .int .i64 p1, .bool p2, .string p3, .int .i64 p4, .int .i64 p5, .bool false] := by rw [hW6]; exact O5.set 5 _
  have B6 : Below w.heap.size w W6 := by rw [hW6]; exact B5.setCell (by simp; omega) _
  have a5 : W5.cell? ⟨w.heap.size, 5, none⟩ = some (.int .i64 p5) := A5.cell 5
  have o5 : W5.cell? ⟨w.heap.size + 1 + 1, 5, none⟩ = some (.int .i64 0) := O5.cell 5
  have f5 := O5.free 5
  obtain ⟨W7, hW7⟩ : ∃ W, W = W6.setCell ⟨w.heap.size + 1 + 1, 6, none⟩ (.bool p6) := ⟨_, rfl⟩
  have A7 : RowAt W7 w.heap.size 52 #[.string p0, .int .i64 p1, .bool p2, .string p3, .int .i64 p4, .int .i64 p5, .bool p6] := by rw [hW7]; exact A6.other _ _ (by simp; omega)
  have R7 : RowAt W7 (w.heap.size + 1) 39 #[.string ⟨#[]⟩, .int .i64 0, .bool false, .string ⟨#[]⟩, .int .i64 0, .int .i64 0, .bool false] := by rw [hW7]; exact R6.other _ _ (by simp)
  have O7 : RowAt W7 (w.heap.size + 1 + 1) 39 #[.string p0, .int .i64 p1, .bool p2, .string p3, .int .i64 p4, .int .i64 p5, .bool p6] := by rw [hW7]; exact O6.set 6 _
  have B7 : Below w.heap.size w W7 := by rw [hW7]; exact B6.setCell (by simp; omega) _
  have a6 : W6.cell? ⟨w.heap.size, 6, none⟩ = some (.bool p6) := A6.cell 6
  have o6 : W6.cell? ⟨w.heap.size + 1 + 1, 6, none⟩ = some (.bool false) := O6.cell 6
  have f6 := O6.free 6
  have HW0 := hid hW0
  have HW1 := hid hW1
  have HW2 := hid hW2
  have HW3 := hid hW3
  have HW4 := hid hW4
  have HW5 := hid hW5
  have HW6 := hid hW6
  have HW7 := hid hW7
  have q0 : W7.cell? ⟨w.heap.size + 1 + 1, 0, none⟩ = some (.string p0) := O7.cell 0
  have q1 : W7.cell? ⟨w.heap.size + 1 + 1, 1, none⟩ = some (.int .i64 p1) := O7.cell 1
  have q2 : W7.cell? ⟨w.heap.size + 1 + 1, 2, none⟩ = some (.bool p2) := O7.cell 2
  have q3 : W7.cell? ⟨w.heap.size + 1 + 1, 3, none⟩ = some (.string p3) := O7.cell 3
  have q4 : W7.cell? ⟨w.heap.size + 1 + 1, 4, none⟩ = some (.int .i64 p4) := O7.cell 4
  have q5 : W7.cell? ⟨w.heap.size + 1 + 1, 5, none⟩ = some (.int .i64 p5) := O7.cell 5
  have q6 : W7.cell? ⟨w.heap.size + 1 + 1, 6, none⟩ = some (.bool p6) := O7.cell 6
  have HR := hid R7
  have HB := hid B7
  clear hW0 A0 R0 O0 B0 hW1 A1 R1 O1 B1 hW2 A2 R2 O2 B2 hW3 A3 R3 O3 B3 hW4 A4 R4 O4 B4 hW5 A5 R5 O5 B5 hW6 A6 R6 O6 B6 hW7 A7 R7 O7 B7
  go_enter Try.func27, Try.ntmps27
  go_upto_region 2 with fail
  rw [← HW0.out]
  go_upto_region 3 with fail
  rw [← HW1.out]
  clear a0 o0 f0
  go_upto_region 4 with fail
  rw [← HW2.out]
  clear a1 o1 f1
  go_upto_region 5 with fail
  rw [← HW3.out]
  clear a2 o2 f2
  go_upto_region 6 with fail
  rw [← HW4.out]
  clear a3 o3 f3
  go_upto_region 7 with fail
  rw [← HW5.out]
  clear a4 o4 f4
  go_upto_region 8 with fail
  rw [← HW6.out]
  clear a5 o5 f5
  go_upto_region 9 with fail
  rw [← HW7.out]
  clear a6 o6 f6
  go_wp2_with (refine wpList_store_row rfl 39 (.tmp 2) (.tmp 25) rfl (w.heap.size + 1) #[.string p0, .int .i64 p1, .bool p2, .string p3, .int .i64 p4, .int .i64 p5, .bool p6] rfl rfl _ _ HR.out (by kernel_rfl) rfl (oneVe _ _ _ _ _ _ _) ?_)
  refine bodyPost_ret (v := .agg #[.string p0, .int .i64 p1, .bool p2, .string p3, .int .i64 p4, .int .i64 p5, .bool p6]) ?_ rfl ⟨rfl, below_setRow HB.out _ _ (by omega)⟩
  exact results_cell_row Try.results27 _ _ (w.heap.size + 1) _ _ _ _ rfl (HR.out.setRow _) Try.underlying39 rfl (by kernel_rfl)
end Go.Proofs.Ytfkkkplmnanifaa
