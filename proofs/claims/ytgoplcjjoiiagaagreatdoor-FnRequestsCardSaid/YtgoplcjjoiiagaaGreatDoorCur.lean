import Derived.Test.YtgoplcjjoiiagaaGreatDoorPut
import Derived.Deep.RegionHeld3
import Derived.Deep.DrawnRows
import Derived.BigQuiet
import Derived.Deep.QuietTactic
namespace Go.Proofs.YtgoplcjjoiiagaaGreatDoor
open Go.RowKit

/-! A cursor: a block of two cells, the data and the place. -/
def CurAt (w : World) (c : Nat) (s : ByteArray) (at' : Int) : Prop := w.heap[c]? = some (.cells #[.string s, .int .i64 at'] 61 (0, 0))
theorem CurAt.data {w : World} {c : Nat} {s : ByteArray} {p : Int} (h : CurAt w c s p) : w.cell? ⟨c, 0, none⟩ = some (.string s) := by rw [cell_of_row w c 0 _ _ _ h]; rfl
theorem CurAt.place {w : World} {c : Nat} {s : ByteArray} {p : Int} (h : CurAt w c s p) : w.cell? ⟨c, 1, none⟩ = some (.int .i64 p) := by rw [cell_of_row w c 1 _ _ _ h]; rfl
theorem CurAt.free {w : World} {c : Nat} {s : ByteArray} {p : Int} (h : CurAt w c s p) : w.frozen? ⟨c, 1, none⟩ = false := by
  have h' : w.heap[c]? = some (.cells #[.string s, .int .i64 p] 61 (0, 0)) := h
  simp [World.frozen?, h']
theorem CurAt.lt {w : World} {c : Nat} {s : ByteArray} {p : Int} (h : CurAt w c s p) : c < w.heap.size := by
  rcases Nat.lt_or_ge c w.heap.size with h1 | h1
  · exact h1
  · have h' : w.heap[c]? = some (.cells #[.string s, .int .i64 p] 61 (0, 0)) := h
    rw [Array.getElem?_eq_none h1] at h'; cases h'
theorem CurAt.set {w : World} {c : Nat} {s : ByteArray} {p : Int} (h : CurAt w c s p) (q : Int) : CurAt (w.setCell ⟨c, 1, none⟩ (.int .i64 q)) c s q := by
  have h' : w.heap[c]? = some (.cells #[.string s, .int .i64 p] 61 (0, 0)) := h
  have hl := h.lt
  have h2 : w.heap[c] = .cells #[.string s, .int .i64 p] 61 (0, 0) := by rw [Array.getElem?_eq_getElem hl] at h'; exact Option.some.inj h'
  unfold CurAt
  simp [World.setCell, hl, Array.getElem_modify, h2]
theorem CurAt.drewN {w : World} {c : Nat} {s : ByteArray} {p : Int} (h : CurAt w c s p) (n : Nat) : CurAt (w.drewN n) c s p := h
def leftI (s : ByteArray) (p : Int) : Int := if p < 0 ∨ s.size < p then 0 else s.size - p

set_option maxHeartbeats 400000 in
theorem left_all (c : Nat) (s : ByteArray) (p : Int) (w : World) (hc : CurAt w c s p) (hs : s.size ≤ 1048576) :
    Calls Tryz.prog 30 #[.pointer (some ⟨c, 0, none⟩)] w fun e w' => e = .returned (.int .i64 (leftI s p)) ∧ w' = w := by
  have h0 := hc.data
  have h1 := hc.place
  unfold leftI
  by_cases a : p < 0
  · have d0 : decide (p < 0) = true := by simp; omega
    rw [if_pos (Or.inl a)]
    go_enter Tryz.func30, Tryz.ntmps30
    go_wp2
    go_ret
    exact ⟨rfl, rfl⟩
  · have d0 : decide (p < 0) = false := by simp; omega
    by_cases b : s.size < p
    · have d1 : decide ((s.size : Int) < p) = true := by simp; omega
      rw [if_pos (Or.inr b)]
      go_enter Tryz.func30, Tryz.ntmps30
      go_wp2
      go_ret
      exact ⟨rfl, rfl⟩
    · have d1 : decide ((s.size : Int) < p) = false := by simp; omega
      rw [if_neg (by omega)]
      go_enter Tryz.func30, Tryz.ntmps30
      go_wp2
      go_ret
      exact ⟨rfl, rfl⟩

set_option maxRecDepth 20000 in
set_option maxHeartbeats 400000 in
theorem byte_yes (c : Nat) (s : ByteArray) (k : Nat) (w : World) (hc : CurAt w c s k) (hs : s.size ≤ 1048576) (hk : k < s.size) :
    Calls Tryz.prog 64 #[.pointer (some ⟨c, 0, none⟩)] w fun e w' => e = .returned (.tuple #[.int .u8 s[k].toNat, .bool true]) ∧ CurAt w' c s (k + 1 : Nat) ∧ w.grownBy w' (some c) := by
  have h0 := hc.data
  have h1 := hc.place
  have h2 := hc.free
  have hl : (leftI s k == 0) = false := by simp [leftI]; omega
  have i0 : (0 : Int) ≤ (k : Int) := by omega
  have i1 : (k : Int) < (s.size : Int) := by omega
  go_enter Tryz.func64, Tryz.ntmps64
  go_wp2_with fail
  refine (left_all c s k _ hc hs).mono ?_
  rintro e w' ⟨rfl, rfl⟩
  go_wp2_with fail
  go_quiet (fail)
  go_wp2
  go_ret2
  exact ⟨rfl, by simpa using (hc.drewN nq).set (k + 1), grown_trans (grown_drewN _ nq _) grown_set⟩

set_option maxHeartbeats 400000 in
theorem byte_no (c : Nat) (s : ByteArray) (p : Int) (w : World) (hc : CurAt w c s p) (hs : s.size ≤ 1048576) (hk : leftI s p = 0) :
    Calls Tryz.prog 64 #[.pointer (some ⟨c, 0, none⟩)] w fun e w' => e = .returned (.tuple #[.int .u8 0, .bool false]) ∧ w' = w := by
  have hl : (leftI s p == 0) = true := by simp [hk]
  have HK : Hid (leftI s p = 0) := hk
  clear hk
  go_enter Tryz.func64, Tryz.ntmps64
  go_wp2_with fail
  refine (left_all c s p _ hc hs).mono ?_
  rintro e w' ⟨rfl, rfl⟩
  go_wp2
  go_ret2
  exact ⟨rfl, rfl⟩

/-! ### What takeNum comes to -/
end Go.Proofs.YtgoplcjjoiiagaaGreatDoor
