import Derived.Test.YtjeahllaajpddaaPlMath
import Derived.Test.YtjeahllaajpddaaISearch
namespace Go.Proofs.Ytjeahllaajpddaa
open Go.RowKit
/-! The ring of bids: sorted disks, and which of them are taken. -/
def bef (sc : Nat → Int) (i j : Nat) : Prop := sc j < sc i ∨ (sc i = sc j ∧ i < j)
theorem bef_trans {sc : Nat → Int} {i j k : Nat} (h1 : bef sc i j) (h2 : bef sc j k) : bef sc i k := by unfold bef at *; omega
theorem hf_bef (sc : Nat → Int) (i j : Nat) : hfV (i : Int) (sc i) (j : Int) (sc j) < 0 ↔ bef sc i j := by
  unfold hfV orI cmpI bef
  split <;> split <;> (repeat' split) <;> omega
def flB (x sc : Nat → Int) (l : List Nat) : List Value := l.flatMap fun (i : Nat) => [.int .i64 (i : Int), .int .i64 (x i), .int .i64 (sc i)]
theorem flB_append (x sc : Nat → Int) (a b : List Nat) : flB x sc (a ++ b) = flB x sc a ++ flB x sc b := by unfold flB; rw [List.flatMap_append]
theorem flB_len (x sc : Nat → Int) : ∀ l, (flB x sc l).length = l.length * 3
  | [] => rfl
  | i :: l => by
    show (([_, _, _] : List Value) ++ flB x sc l).length = _
    rw [List.length_append, flB_len x sc l]; simp; omega
theorem flB_take (x sc : Nat → Int) (l : List Nat) (p : Nat) (hp : p ≤ l.length) : (flB x sc l).take (p * 3) = flB x sc (l.take p) := by
  have h := flB_append x sc (l.take p) (l.drop p)
  rw [List.take_append_drop] at h
  rw [h]
  apply List.take_left'
  rw [flB_len, List.length_take]; omega
theorem flB_drop (x sc : Nat → Int) (l : List Nat) (p : Nat) (hp : p ≤ l.length) : (flB x sc l).drop (p * 3) = flB x sc (l.drop p) := by
  have h := flB_append x sc (l.take p) (l.drop p)
  rw [List.take_append_drop] at h
  rw [h]
  apply List.drop_left'
  rw [flB_len, List.length_take]; omega
theorem flB_get (x sc : Nat → Int) (l : List Nat) (i : Nat) (hi : i < l.length) :
    (flB x sc l)[i * 3]? = some (.int .i64 ((l.getD i 0 : Nat) : Int)) ∧ (flB x sc l)[i * 3 + 1]? = some (.int .i64 (x (l.getD i 0))) ∧ (flB x sc l)[i * 3 + 2]? = some (.int .i64 (sc (l.getD i 0))) := by
  have h : l.drop i = l.getD i 0 :: l.drop (i + 1) := by rw [List.drop_eq_getElem_cons hi]; simp [hi]
  have hd := flB_drop x sc l i (by omega)
  rw [h] at hd
  have e : ∀ k, (flB x sc l)[i * 3 + k]? = ((flB x sc l).drop (i * 3))[k]? := fun k => by rw [List.getElem?_drop]
  have e0 := e 0
  rw [Nat.add_zero] at e0
  rw [e0, e 1, e 2, hd]
  exact ⟨rfl, rfl, rfl⟩
theorem flB_one (x sc : Nat → Int) (l : List Nat) : ∀ v ∈ flB x sc l, v.oneCell' = true := fun v hv => by
  unfold flB at hv
  obtain ⟨i, _, h⟩ := List.mem_flatMap.1 hv
  simp at h
  rcases h with rfl | rfl | rfl <;> rfl
theorem ins_sorted (sc : Nat → Int) (l : List Nat) (k p : Nat) (hs : l.Pairwise (bef sc)) (hp : p ≤ l.length) (h1 : 0 < p → bef sc (l.getD (p - 1) 0) k) (h2 : p < l.length → ¬ bef sc (l.getD p 0) k) (hk : k ∉ l) :
    (l.take p ++ [k] ++ l.drop p).Pairwise (bef sc) := by
  have hg : ∀ a b, a < b → b < l.length → bef sc (l.getD a 0) (l.getD b 0) := fun a b hab hb => by
    have := List.pairwise_iff_getElem.1 hs a b (by omega) hb hab
    simpa [show a < l.length by omega, hb] using this
  have hT : ∀ a ∈ l.take p, bef sc a k := fun a ha => by
    obtain ⟨j, hj, rfl⟩ := List.getElem_of_mem ha
    rw [List.length_take] at hj
    rw [List.getElem_take]
    have hjl : j < l.length := by omega
    have e : l[j] = l.getD j 0 := by simp [hjl]
    rw [e]
    by_cases q : j = p - 1
    · rw [q]; exact h1 (by omega)
    · exact bef_trans (hg j (p - 1) (by omega) (by omega)) (h1 (by omega))
  have hD : ∀ b ∈ l.drop p, bef sc k b := fun b hb => by
    obtain ⟨j, hj, rfl⟩ := List.getElem_of_mem hb
    rw [List.length_drop] at hj
    rw [List.getElem_drop]
    have hjl : p + j < l.length := by omega
    have e : l[p + j] = l.getD (p + j) 0 := by simp [hjl]
    rw [e]
    have hne : l.getD p 0 ≠ k := fun e => hk (by rw [← e]; simp [show p < l.length by omega])
    have h0 : bef sc k (l.getD p 0) := by have := h2 (by omega); unfold bef at *; omega
    by_cases q : j = 0
    · subst q; exact h0
    · exact bef_trans h0 (hg p (p + j) (by omega) hjl)
  rw [List.append_assoc, List.pairwise_append]
  refine ⟨hs.sublist (List.take_sublist _ _), ?_, ?_⟩
  · show (k :: l.drop p).Pairwise _
    exact List.pairwise_cons.2 ⟨hD, hs.sublist (List.drop_sublist _ _)⟩
  · intro a ha b hb
    rcases List.mem_cons.1 hb with rfl | hb
    · exact hT a ha
    · exact bef_trans (hT a ha) (hD b hb)
theorem ins_mem (l : List Nat) (k p j : Nat) : j ∈ l.take p ++ [k] ++ l.drop p ↔ j ∈ l ∨ j = k := by
  have : j ∈ l ↔ j ∈ l.take p ∨ j ∈ l.drop p := by rw [← List.mem_append, List.take_append_drop]
  rw [List.mem_append, List.mem_append, this, List.mem_singleton]
  constructor
  · rintro ((h | h) | h)
    · exact .inl (.inl h)
    · exact .inr h
    · exact .inl (.inr h)
  · rintro ((h | h) | h)
    · exact .inl (.inl h)
    · exact .inr h
    · exact .inl (.inr h)
theorem pk_ok (x sc : Nat → Int) (l : List Nat) : ∀ k, 0 ≤ pk x sc l k → okP x sc l (pk x sc l k).toNat
  | 0, h => by simp [pk] at h
  | k + 1, h => by
    unfold pk at h ⊢
    split at h
    · rename_i q; rw [if_pos q]; rw [Int.toNat_natCast]; exact q.1
    · rename_i q; rw [if_neg q]; exact pk_ok x sc l k h
theorem pk_max (x sc : Nat → Int) (l : List Nat) : ∀ k i, i < k → okP x sc l i → 0 ≤ pk x sc l k ∧ (sc i < sc (pk x sc l k).toNat ∨ (sc i = sc (pk x sc l k).toNat ∧ (pk x sc l k).toNat ≤ i))
  | 0, i, h, _ => absurd h (by omega)
  | k + 1, i, h, hi => by
    have hb := pk_bd x sc l k
    unfold pk
    by_cases e : i = k
    · subst e
      split
      · rw [Int.toNat_natCast]; omega
      · rename_i q
        have : ¬ (pk x sc l i < 0 ∨ sc (pk x sc l i).toNat < sc i) := fun r => q ⟨hi, r⟩
        omega
    · have ih := pk_max x sc l k i (by omega) hi
      split
      · rename_i q; rw [Int.toNat_natCast]; omega
      · exact ih
/-- the ring: all disks with a score, in their order -/
structure Ring (sc : Nat → Int) (n : Nat) (L : List Nat) : Prop where
  sorted : L.Pairwise (bef sc)
  all : ∀ i, i ∈ L ↔ i < n ∧ 0 ≤ sc i
theorem sel_take (x sc : Nat → Int) (n : Nat) (pre post D : List Nat) (b : Nat) (hR : Ring sc n (pre ++ b :: post)) (hg : gr x sc n D.length = some D) (hp : ∀ i ∈ pre, x i ∈ D.map x) (hb : x b ∉ D.map x) :
    gr x sc n (D.length + 1) = some (D ++ [b]) := by
  have hbm := (hR.all b).1 (by simp)
  have hbo : okP x sc D b := ⟨fun h => hb (List.mem_map_of_mem h), hbm.2, hb⟩
  have hm := pk_max x sc D n b hbm.1 hbo
  have ho := pk_ok x sc D n hm.1
  have hbd := pk_bd x sc D n
  have hpm : (pk x sc D n).toNat ∈ pre ++ b :: post := (hR.all _).2 ⟨by omega, ho.2.1⟩
  have e : (pk x sc D n).toNat = b := by
    rcases List.mem_append.1 hpm with h | h
    · exact absurd (hp _ h) ho.2.2
    · rcases List.mem_cons.1 h with h | h
      · exact h
      · have := (List.pairwise_cons.1 (List.pairwise_append.1 hR.sorted).2.1).1 _ h
        unfold bef at this
        omega
  show (match gr x sc n D.length with
    | none => none
    | some l => if pk x sc l n < 0 then none else some (l ++ [(pk x sc l n).toNat])) = _
  rw [hg]
  show (if pk x sc D n < 0 then none else some (D ++ [(pk x sc D n).toNat])) = _
  rw [if_neg (by omega), e]
theorem sel_end (x sc : Nat → Int) (n : Nat) (L D : List Nat) (hR : Ring sc n L) (hg : gr x sc n D.length = some D) (hp : ∀ i ∈ L, x i ∈ D.map x) : gr x sc n (D.length + 1) = none := by
  have hbd := pk_bd x sc D n
  have e : pk x sc D n < 0 := by
    by_cases h : pk x sc D n < 0
    · exact h
    · have ho := pk_ok x sc D n (by omega)
      exact absurd (hp _ ((hR.all _).2 ⟨by omega, ho.2.1⟩)) ho.2.2
  show (match gr x sc n D.length with
    | none => none
    | some l => if pk x sc l n < 0 then none else some (l ++ [(pk x sc l n).toNat])) = _
  rw [hg]
  show (if pk x sc D n < 0 then none else some (D ++ [(pk x sc D n).toNat])) = _
  rw [if_pos e]
end Go.Proofs.Ytjeahllaajpddaa
