import Derived.Test.YtnchjcaclfcaiaaGreatDoorPut
import Derived.Deep.RegionHeld3
import Derived.Deep.DrawnRows
import Derived.BigQuiet
import Derived.Deep.QuietTactic
namespace Go.Proofs.YtnchjcaclfcaiaaGreatDoor
open Go.RowKit

/-! A cursor: a block of two cells, the data and the place. -/
def CurAt (w : World) (c : Nat) (s : ByteArray) (at' : Int) : Prop := w.heap[c]? = some (.cells #[.string s, .int .i64 at'] 61 (0, 0))
theorem CurAt.data {w : World} {c : Nat} {s : ByteArray} {p : Int} (h : CurAt w c s p) : w.cell? ⟨c, 0, none⟩ = some (.string s) := by rw [cell_of_row w c 0 _ _ _ h]; rfl
theorem CurAt.place {w : World} {c : Nat} {s : ByteArray} {p : Int} (h : CurAt w c s p) : w.cell? ⟨c, 1, none⟩ = some (.int .i64 p) := by rw [cell_of_row w c 1 _ _ _ h]; rfl
theorem CurAt.free {w : World} {c : Nat} {s : ByteArray} {p : Int} (h : CurAt w c s p) : w.frozen? ⟨c, 1, none⟩ = false := by
  have h' : w.heap[c]? = some (.cells #[.string s, .int .i64 p] 61 (0, 0)) := h
  simp [World.frozen?, h']
theorem CurAt.lt {w : World} {c : Nat} {s : ByteArray} {p : Int} (h : CurAt w c s p) : c < w.heap.size := by
  rcases Nat.lt_or_ge c w.heap.size with h1 | h1
  · exact h1
  · have h' : w.heap[c]? = some (.cells #[.string s, .int .i64 p] 61 (0, 0)) := h
    rw [Array.getElem?_eq_none h1] at h'; cases h'
theorem CurAt.set {w : World} {c : Nat} {s : ByteArray} {p : Int} (h : CurAt w c s p) (q : Int) : CurAt (w.setCell ⟨c, 1, none⟩ (.int .i64 q)) c s q := by
  have h' : w.heap[c]? = some (.cells #[.string s, .int .i64 p] 61 (0, 0)) := h
  have hl := h.lt
  have h2 : w.heap[c] = .cells #[.string s, .int .i64 p] 61 (0, 0) := by rw [Array.getElem?_eq_getElem hl] at h'; exact Option.some.inj h'
  unfold CurAt
  simp [World.setCell, hl, Array.getElem_modify, h2]
theorem CurAt.drewN {w : World} {c : Nat} {s : ByteArray} {p : Int} (h : CurAt w c s p) (n : Nat) : CurAt (w.drewN n) c s p := h
theorem grown_drew {a b : World} {r : Option Nat} (h : a.grownBy b r) : a.grownBy b.drew r := ⟨h.os, h.tape, h.output, h.size, h.block⟩

def leftI (s : ByteArray) (p : Int) : Int := if p < 0 ∨ s.size < p then 0 else s.size - p

set_option maxHeartbeats 400000 in
theorem left_all (c : Nat) (s : ByteArray) (p : Int) (w : World) (hc : CurAt w c s p) (hs : s.size ≤ 1048576) :
    Calls Tryz.prog 30 #[.pointer (some ⟨c, 0, none⟩)] w fun e w' => e = .returned (.int .i64 (leftI s p)) ∧ w' = w := by
  have h0 := hc.data
  have h1 := hc.place
  unfold leftI
  by_cases a : p < 0
  · have d0 : decide (p < 0) = true := by simp; omega
    rw [if_pos (Or.inl a)]
    go_enter Tryz.func30, Tryz.ntmps30
    go_wp2
    go_ret
    exact ⟨rfl, rfl⟩
  · have d0 : decide (p < 0) = false := by simp; omega
    by_cases b : s.size < p
    · have d1 : decide ((s.size : Int) < p) = true := by simp; omega
      rw [if_pos (Or.inr b)]
      go_enter Tryz.func30, Tryz.ntmps30
      go_wp2
      go_ret
      exact ⟨rfl, rfl⟩
    · have d1 : decide ((s.size : Int) < p) = false := by simp; omega
      rw [if_neg (by omega)]
      go_enter Tryz.func30, Tryz.ntmps30
      go_wp2
      go_ret
      exact ⟨rfl, rfl⟩

set_option maxRecDepth 20000 in
set_option maxHeartbeats 400000 in
theorem byte_yes (c : Nat) (s : ByteArray) (k : Nat) (w : World) (hc : CurAt w c s k) (hs : s.size ≤ 1048576) (hk : k < s.size) :
    Calls Tryz.prog 64 #[.pointer (some ⟨c, 0, none⟩)] w fun e w' => e = .returned (.tuple #[.int .u8 s[k].toNat, .bool true]) ∧ CurAt w' c s (k + 1 : Nat) ∧ w.grownBy w' (some c) := by
  have h0 := hc.data
  have h1 := hc.place
  have h2 := hc.free
  have hl : (leftI s k == 0) = false := by simp [leftI]; omega
  have i0 : (0 : Int) ≤ (k : Int) := by omega
  have i1 : (k : Int) < (s.size : Int) := by omega
  go_enter Tryz.func64, Tryz.ntmps64
  go_wp2_with fail
  refine (left_all c s k _ hc hs).mono ?_
  rintro e w' ⟨rfl, rfl⟩
  go_wp2_with fail
  go_quiet (fail)
  go_wp2
  go_ret2
  exact ⟨rfl, by simpa using (hc.drewN nq).set (k + 1), grown_trans (grown_drewN _ nq _) grown_set⟩

set_option maxHeartbeats 400000 in
theorem byte_no (c : Nat) (s : ByteArray) (p : Int) (w : World) (hc : CurAt w c s p) (hs : s.size ≤ 1048576) (hk : leftI s p = 0) :
    Calls Tryz.prog 64 #[.pointer (some ⟨c, 0, none⟩)] w fun e w' => e = .returned (.tuple #[.int .u8 0, .bool false]) ∧ w' = w := by
  have hl : (leftI s p == 0) = true := by simp [hk]
  have HK : Hid (leftI s p = 0) := hk
  clear hk
  go_enter Tryz.func64, Tryz.ntmps64
  go_wp2_with fail
  refine (left_all c s p _ hc hs).mono ?_
  rintro e w' ⟨rfl, rfl⟩
  go_wp2
  go_ret2
  exact ⟨rfl, rfl⟩

/-! ### What takeNum comes to -/
/-- How many bytes a number takes that begins the list, at most f. -/
def cnt : Nat → List UInt8 → Option Nat
  | 0, _ => none
  | _ + 1, [] => none
  | f + 1, b :: l => if b.toNat < 128 then some 1 else (cnt f l).map (· + 1)
theorem cnt_hit : ∀ (f k : Nat) (l : List UInt8) (b : UInt8), (∀ i, i < k → ∃ x, l[i]? = some x ∧ 128 ≤ x.toNat) → l[k]? = some b → b.toNat < 128 → k < f → cnt f l = some (k + 1)
  | 0, k, l, b, _, _, _, h => by omega
  | f + 1, k, [], b, _, h, _, _ => by simp at h
  | f + 1, 0, x :: l, b, _, h, hb, _ => by simp at h; subst h; simp [cnt, hb]
  | f + 1, k + 1, x :: l, b, ha, h, hb, hk => by
    obtain ⟨y, hy, hy2⟩ := ha 0 (by omega)
    simp at hy; subst hy
    have ih := cnt_hit f k l b (fun i hi => by obtain ⟨z, hz, hz2⟩ := ha (i + 1) (by omega); exact ⟨z, by simpa using hz, hz2⟩) (by simpa using h) hb (by omega)
    simp [cnt, show ¬ x.toNat < 128 by omega, ih]
theorem cnt_end : ∀ (f k : Nat) (l : List UInt8), (∀ i, i < k → ∃ x, l[i]? = some x ∧ 128 ≤ x.toNat) → (k = f ∨ (l.length = k ∧ k ≤ f)) → cnt f l = none
  | 0, _, _, _, _ => rfl
  | f + 1, k, [], _, _ => rfl
  | f + 1, 0, x :: l, _, h => by simp at h
  | f + 1, k + 1, x :: l, ha, h => by
    obtain ⟨y, hy, hy2⟩ := ha 0 (by omega)
    simp at hy; subst hy
    have ih := cnt_end f k l (fun i hi => by obtain ⟨z, hz, hz2⟩ := ha (i + 1) (by omega); exact ⟨z, by simpa using hz, hz2⟩) (by simp at h; omega)
    simp [cnt, show ¬ x.toNat < 128 by omega, ih]
def valL : List UInt8 → Nat
  | [] => 0
  | b :: l => b.toNat % 128 + 128 * valL l
theorem valL_snoc (l : List UInt8) (b : UInt8) : valL (l ++ [b]) = valL l + 128 ^ l.length * (b.toNat % 128) := by
  induction l with
  | nil => simp [valL]
  | cons x l ih => simp only [List.cons_append, valL, ih, List.length_cons, Nat.pow_succ, Nat.mul_add]; rw [Nat.mul_comm (128 ^ l.length) 128, Nat.mul_assoc]; omega
theorem valL_lt (l : List UInt8) : valL l < 128 ^ l.length := by
  induction l with
  | nil => simp [valL]
  | cons x l ih => simp only [valL, List.length_cons, Nat.pow_succ]; omega
/-- The bytes from a place on; none where it is no place of the data. -/
def restL (s : ByteArray) (p : Int) : List UInt8 := if p < 0 ∨ s.size < p then [] else s.data.toList.drop p.toNat
/-- The number that begins at a place, and how many bytes it takes. -/
def getNum (s : ByteArray) (p : Int) : Option (Nat × Nat) :=
  match cnt 9 (restL s p) with
  | none => none
  | some n => if n = 1 ∨ (restL s p).getD (n - 1) 0 ≠ 0 then some (valL ((restL s p).take n), n) else none
end Go.Proofs.YtnchjcaclfcaiaaGreatDoor
