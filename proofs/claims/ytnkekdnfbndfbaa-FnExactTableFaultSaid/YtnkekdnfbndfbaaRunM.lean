import Derived.Test.YtnkekdnfbndfbaaLawEn
import Derived.Test.YtnkekdnfbndfbaaICmp
import Derived.Lib.Bytealg
namespace Go.Proofs.Ytnkekdnfbndfbaa
open Go.RowKit
/-! Runs: when one is right. -/
theorem cmpB_lt : ∀ (a b : List UInt8), (Lib.compareBytes a b < 0 ↔ Op.bytesLess a b = true)
  | [], [] => by simp [Lib.compareBytes, Op.bytesLess]
  | [], _ :: _ => by simp [Lib.compareBytes, Op.bytesLess]
  | _ :: _, [] => by simp [Lib.compareBytes, Op.bytesLess]
  | x :: a, y :: b => by
    have ih := cmpB_lt a b
    unfold Lib.compareBytes Op.bytesLess
    by_cases h1 : x < y
    · simp [h1]
    · by_cases h2 : y < x
      · have : x ≠ y := fun e => by subst e; exact UInt8.lt_irrefl _ h2
        simp [h1, h2, this]
      · have : x = y := UInt8.le_antisymm (UInt8.not_lt.1 h2) (UInt8.not_lt.1 h1)
        simp [this, UInt8.lt_irrefl, ih]
theorem cmpB_zero : ∀ (a b : List UInt8), (Lib.compareBytes a b = 0 ↔ a = b)
  | [], [] => by simp [Lib.compareBytes]
  | [], _ :: _ => by simp [Lib.compareBytes]
  | _ :: _, [] => by simp [Lib.compareBytes]
  | x :: a, y :: b => by
    have ih := cmpB_zero a b
    unfold Lib.compareBytes
    by_cases h1 : x < y
    · have : x ≠ y := fun e => by subst e; exact UInt8.lt_irrefl _ h1
      simp [h1, this]
    · by_cases h2 : y < x
      · have : x ≠ y := fun e => by subst e; exact UInt8.lt_irrefl _ h2
        simp [h1, h2, this]
      · have : x = y := UInt8.le_antisymm (UInt8.not_lt.1 h2) (UInt8.not_lt.1 h1)
        simp [this, UInt8.lt_irrefl, ih]
theorem cmpB_swap : ∀ (a b : List UInt8), Lib.compareBytes b a = - Lib.compareBytes a b
  | [], [] => by simp [Lib.compareBytes]
  | [], _ :: _ => by simp [Lib.compareBytes]
  | _ :: _, [] => by simp [Lib.compareBytes]
  | x :: a, y :: b => by
    have ih := cmpB_swap a b
    unfold Lib.compareBytes
    by_cases h1 : x < y
    · have : ¬ y < x := fun e => UInt8.lt_irrefl _ (UInt8.lt_trans h1 e)
      simp [h1, this]
    · by_cases h2 : y < x
      · simp [h1, h2]
      · simp [h1, h2, ih]
theorem cmpB_bd : ∀ (a b : List UInt8), -1 ≤ Lib.compareBytes a b ∧ Lib.compareBytes a b ≤ 1
  | [], [] => by simp [Lib.compareBytes]
  | [], _ :: _ => by simp [Lib.compareBytes]
  | _ :: _, [] => by simp [Lib.compareBytes]
  | x :: a, y :: b => by
    have ih := cmpB_bd a b
    unfold Lib.compareBytes
    split
    · omega
    · split
      · omega
      · exact ih
theorem baL {a b : ByteArray} (h : a.data.toList = b.data.toList) : a = b := by
  cases a; cases b; simp at h; simp [h]
theorem baT (a : ByteArray) : a.toList = a.data.toList := ByteArray.toList_eq ..
/-- one key ahead of another -/
def kLt (a b : ByteArray) : Bool := Op.bytesLess a.toList b.toList
/-- the order of two keys -/
def kCmp (a b : ByteArray) : Int := Lib.compareBytes a.data.toList b.data.toList
theorem kCmp_lt (a b : ByteArray) : kCmp a b < 0 ↔ kLt a b = true := by unfold kCmp kLt; rw [baT, baT]; exact cmpB_lt _ _
theorem kCmp_zero (a b : ByteArray) : kCmp a b = 0 ↔ a = b := by
  unfold kCmp; rw [cmpB_zero]; exact ⟨baL, fun h => by rw [h]⟩
theorem kCmp_swap (a b : ByteArray) : kCmp b a = - kCmp a b := cmpB_swap _ _
theorem kEq (a b : ByteArray) : (a.toList == b.toList) = decide (a = b) := by
  rw [Bool.eq_iff_iff]
  simp only [beq_iff_eq, decide_eq_true_eq]
  constructor
  · intro h; rw [baT, baT] at h; exact baL h
  · intro h; rw [h]
/-- an entry ahead of another -/
def enLt (a b : En) : Prop := kLt a.ky b.ky = true ∨ (a.ky = b.ky ∧ b.sq < a.sq)
def enCmp (a b : En) : Int := orI (kCmp a.ky b.ky) (cmpI b.sq a.sq)
theorem cmpI_lt (x y : Int) : cmpI x y < 0 ↔ x < y := by
  unfold cmpI; split
  · omega
  · split <;> omega
theorem cmpI_swap (x y : Int) : cmpI y x = - cmpI x y := by
  unfold cmpI
  rcases Int.lt_trichotomy x y with h | h | h
  · simp [h, show ¬ y < x by omega]
  · simp [h]
  · simp [h, show ¬ x < y by omega]
theorem enCmp_lt (a b : En) : enCmp a b < 0 ↔ enLt a b := by
  unfold enCmp enLt orI
  have h1 := kCmp_lt a.ky b.ky
  have h2 := kCmp_zero a.ky b.ky
  have h3 := cmpI_lt b.sq a.sq
  by_cases e : kCmp a.ky b.ky = 0
  · rw [if_neg (fun h => h e), h3]
    have hn : ¬ kLt a.ky b.ky = true := fun h => by have := h1.2 h; omega
    exact ⟨fun h => .inr ⟨h2.1 e, h⟩, fun h => h.elim (fun h => absurd h hn) And.right⟩
  · rw [if_pos e, h1]
    exact ⟨.inl, fun h => h.elim id fun h => absurd (h2.2 h.1) e⟩
theorem enCmp_swap (a b : En) : enCmp b a = - enCmp a b := by
  unfold enCmp orI
  rw [kCmp_swap a.ky b.ky, cmpI_swap b.sq a.sq]
  by_cases e : kCmp a.ky b.ky = 0
  · simp [e]
  · simp [e]
theorem enCmp_zero (a b : En) : enCmp a b = 0 ↔ a.ky = b.ky ∧ a.sq = b.sq := by
  unfold enCmp orI cmpI
  have h2 := kCmp_zero a.ky b.ky
  by_cases e : kCmp a.ky b.ky = 0
  · rw [if_neg (by simpa using e)]
    have he := h2.1 e
    simp only [he, true_and]
    split <;> (try split) <;> omega
  · rw [if_pos e]
    have hne : ¬ a.ky = b.ky := fun h => e (h2.2 h)
    simp [e, hne]
def fitE (e : En) : Prop := 1 ≤ e.ky.size ∧ e.ky.size ≤ 200 ∧ 1 ≤ e.sq ∧ ¬ (e.gn = true ∧ e.tx ≠ ⟨#[]⟩) ∧ e.tx.size ≤ 100000
def sqL (o : Nat → En) (n : Nat) : List Int := (List.range n).map fun i => (o i).sq
theorem sqL_len (o : Nat → En) (n : Nat) : (sqL o n).length = n := by simp [sqL]
theorem sqL_succ (o : Nat → En) (n : Nat) : sqL o (n + 1) = sqL o n ++ [(o n).sq] := by simp [sqL, List.range_succ]
theorem mem_sqL {o : Nat → En} {n : Nat} {v : Int} : v ∈ sqL o n ↔ ∃ i, i < n ∧ (o i).sq = v := by simp [sqL]
/-- the first n entries are right -/
def runTo (n : Nat) (o : Nat → En) : Prop := (∀ k, k < n → fitE (o k)) ∧ (∀ k, 0 < k → k < n → enLt (o (k - 1)) (o k)) ∧ (∀ i j, i < j → j < n → (o i).sq ≠ (o j).sq)
theorem runTo_zero (o : Nat → En) : runTo 0 o := ⟨fun k h => absurd h (by omega), fun k _ h => absurd h (by omega), fun i j _ h => absurd h (by omega)⟩
theorem runTo_succ {n : Nat} {o : Nat → En} : runTo (n + 1) o ↔ runTo n o ∧ fitE (o n) ∧ (0 < n → enLt (o (n - 1)) (o n)) ∧ (o n).sq ∉ sqL o n := by
  constructor
  · rintro ⟨h1, h2, h3⟩
    refine ⟨⟨fun k hk => h1 k (by omega), fun k h0 hk => h2 k h0 (by omega), fun i j hi hj => h3 i j hi (by omega)⟩, h1 n (by omega), fun h0 => h2 n h0 (by omega), ?_⟩
    rw [mem_sqL]
    rintro ⟨i, hi, e⟩
    exact h3 i n hi (by omega) e
  · rintro ⟨⟨h1, h2, h3⟩, g1, g2, g3⟩
    refine ⟨fun k hk => ?_, fun k h0 hk => ?_, fun i j hi hj => ?_⟩
    · by_cases e : k = n
      · subst e; exact g1
      · exact h1 k (by omega)
    · by_cases e : k = n
      · subst e; exact g2 h0
      · exact h2 k h0 (by omega)
    · by_cases e : j = n
      · subst e; exact fun q => g3 (mem_sqL.2 ⟨i, hi, q⟩)
      · exact h3 i j hi (by omega)
theorem runTo_mono {m n : Nat} {o : Nat → En} (h : runTo n o) (hm : m ≤ n) : runTo m o :=
  ⟨fun k hk => h.1 k (by omega), fun k h0 hk => h.2.1 k h0 (by omega), fun i j hi hj => h.2.2 i j hi (by omega)⟩
def runOk (n : Nat) (o : Nat → En) : Prop := n ≤ 1000 ∧ runTo n o
open Classical in
/-- a run's fault -/
noncomputable def runV (n : Nat) (o : Nat → En) : Int := if runOk n o then 0 else 1
theorem runV_ok {n : Nat} {o : Nat → En} (h : runOk n o) : runV n o = 0 := by unfold runV; rw [if_pos h]
theorem runV_no {n : Nat} {o : Nat → En} (h : ¬ runOk n o) : runV n o = 1 := by unfold runV; rw [if_neg h]
/-- each is above the one ahead of it -/
def rise (l : List Int) : Prop := ∀ i, 0 < i → i < l.length → l.getD (i - 1) 0 < l.getD i 0
theorem rise_pw {l : List Int} : rise l ↔ l.Pairwise (· < ·) := by
  constructor
  · intro h
    have step : ∀ d i, i + d + 1 < l.length → l.getD i 0 < l.getD (i + d + 1) 0 := by
      intro d
      induction d with
      | zero => intro i hi; exact h (i + 0 + 1) (by omega) hi
      | succ d ih =>
        intro i hi
        have h1 := ih i (by omega)
        have h2 := h (i + (d + 1) + 1) (by omega) hi
        rw [show i + (d + 1) + 1 - 1 = i + d + 1 by omega] at h2
        omega
    rw [List.pairwise_iff_getElem]
    intro i j hi hj hij
    have := step (j - i - 1) i (by omega)
    rw [show i + (j - i - 1) + 1 = j by omega] at this
    simpa [hi, hj] using this
  · intro h i h0 hi
    rw [List.pairwise_iff_getElem] at h
    have := h (i - 1) i (by omega) hi (by omega)
    simpa [hi, show i - 1 < l.length by omega] using this
def sortI (l : List Int) : List Int := l.mergeSort fun x y => decide (x ≤ y)
theorem sortI_perm (l : List Int) : (sortI l).Perm l := List.mergeSort_perm _ _
theorem sortI_len (l : List Int) : (sortI l).length = l.length := (sortI_perm l).length_eq
theorem sortI_le (l : List Int) : (sortI l).Pairwise (· ≤ ·) := by
  have := List.pairwise_mergeSort (le := fun x y : Int => decide (x ≤ y)) (fun a b c h1 h2 => by simp at *; omega) (fun a b => by simp; omega) l
  exact this.imp (by simp)
theorem rise_sortI (l : List Int) : rise (sortI l) ↔ l.Nodup := by
  rw [rise_pw]
  constructor
  · intro h
    have : (sortI l).Nodup := h.imp (by intro a b h e; omega)
    exact (sortI_perm l).nodup_iff.1 this
  · intro h
    have h1 := (sortI_perm l).nodup_iff.2 h
    exact (sortI_le l).imp₂ (fun a b h e => by omega) h1
theorem sqL_nodup (o : Nat → En) (n : Nat) : (sqL o n).Nodup ↔ ∀ i j, i < j → j < n → (o i).sq ≠ (o j).sq := by
  unfold List.Nodup
  rw [List.pairwise_iff_getElem]
  simp only [sqL, List.length_map, List.length_range, List.getElem_map, List.getElem_range]
  exact ⟨fun h i j hi hj => h i j (by omega) hj hi, fun h i j _ hj hi => h i j hi hj⟩
/-- how the program asks it -/
theorem runTo_iff (n : Nat) (o : Nat → En) : runTo n o ↔ (∀ k, k < n → fitE (o k)) ∧ (∀ k, 0 < k → k < n → ¬ enCmp (o k) (o (k - 1)) < 0) ∧ rise (sortI (sqL o n)) := by
  rw [rise_sortI, sqL_nodup]
  constructor
  · rintro ⟨h1, h2, h3⟩
    refine ⟨h1, fun k h0 hk => ?_, h3⟩
    have := (enCmp_lt _ _).2 (h2 k h0 hk)
    have e := enCmp_swap (o (k - 1)) (o k)
    omega
  · rintro ⟨h1, h2, h3⟩
    refine ⟨h1, fun k h0 hk => ?_, h3⟩
    have h := h2 k h0 hk
    have e := enCmp_swap (o (k - 1)) (o k)
    refine (enCmp_lt _ _).1 ?_
    by_cases q : enCmp (o (k - 1)) (o k) = 0
    · exact absurd ((enCmp_zero _ _).1 q).2 (h3 (k - 1) k (by omega) hk)
    · omega
end Go.Proofs.Ytnkekdnfbndfbaa
