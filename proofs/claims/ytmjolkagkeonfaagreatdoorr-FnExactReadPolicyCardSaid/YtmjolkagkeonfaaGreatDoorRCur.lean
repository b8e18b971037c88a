import Derived.Test.YtmjolkagkeonfaaGreatDoorRPut
import Derived.Deep.RegionHeld3
import Derived.Deep.DrawnRows
import Derived.BigQuiet
import Derived.Deep.QuietTactic
namespace Go.Proofs.YtmjolkagkeonfaaGreatDoorR
open Go.RowKit

/-! A cursor: a block of two cells, the data and the place. -/
theorem grown_drew {a b : World} {r : Option Nat} (h : a.grownBy b r) : a.grownBy b.drew r := ⟨h.os, h.tape, h.output, h.size, h.block⟩

def leftI (s : ByteArray) (p : Int) : Int := if p < 0 ∨ s.size < p then 0 else s.size - p

/-! ### What takeNum comes to -/
/-- How many bytes a number takes that begins the list, at most f. -/
def cnt : Nat → List UInt8 → Option Nat
  | 0, _ => none
  | _ + 1, [] => none
  | f + 1, b :: l => if b.toNat < 128 then some 1 else (cnt f l).map (· + 1)
theorem cnt_hit : ∀ (f k : Nat) (l : List UInt8) (b : UInt8), (∀ i, i < k → ∃ x, l[i]? = some x ∧ 128 ≤ x.toNat) → l[k]? = some b → b.toNat < 128 → k < f → cnt f l = some (k + 1)
  | 0, k, l, b, _, _, _, h => by omega
  | f + 1, k, [], b, _, h, _, _ => by simp at h
  | f + 1, 0, x :: l, b, _, h, hb, _ => by simp at h; subst h; simp [cnt, hb]
  | f + 1, k + 1, x :: l, b, ha, h, hb, hk => by
    obtain ⟨y, hy, hy2⟩ := ha 0 (by omega)
    simp at hy; subst hy
    have ih := cnt_hit f k l b (fun i hi => by obtain ⟨z, hz, hz2⟩ := ha (i + 1) (by omega); exact ⟨z, by simpa using hz, hz2⟩) (by simpa using h) hb (by omega)
    simp [cnt, show ¬ x.toNat < 128 by omega, ih]
theorem cnt_end : ∀ (f k : Nat) (l : List UInt8), (∀ i, i < k → ∃ x, l[i]? = some x ∧ 128 ≤ x.toNat) → (k = f ∨ (l.length = k ∧ k ≤ f)) → cnt f l = none
  | 0, _, _, _, _ => rfl
  | f + 1, k, [], _, _ => rfl
  | f + 1, 0, x :: l, _, h => by simp at h
  | f + 1, k + 1, x :: l, ha, h => by
    obtain ⟨y, hy, hy2⟩ := ha 0 (by omega)
    simp at hy; subst hy
    have ih := cnt_end f k l (fun i hi => by obtain ⟨z, hz, hz2⟩ := ha (i + 1) (by omega); exact ⟨z, by simpa using hz, hz2⟩) (by simp at h; omega)
    simp [cnt, show ¬ x.toNat < 128 by omega, ih]
def valL : List UInt8 → Nat
  | [] => 0
  | b :: l => b.toNat % 128 + 128 * valL l
theorem valL_snoc (l : List UInt8) (b : UInt8) : valL (l ++ [b]) = valL l + 128 ^ l.length * (b.toNat % 128) := by
  induction l with
  | nil => simp [valL]
  | cons x l ih => simp only [List.cons_append, valL, ih, List.length_cons, Nat.pow_succ, Nat.mul_add]; rw [Nat.mul_comm (128 ^ l.length) 128, Nat.mul_assoc]; omega
theorem valL_lt (l : List UInt8) : valL l < 128 ^ l.length := by
  induction l with
  | nil => simp [valL]
  | cons x l ih => simp only [valL, List.length_cons, Nat.pow_succ]; omega
/-- The bytes from a place on; none where it is no place of the data. -/
def restL (s : ByteArray) (p : Int) : List UInt8 := if p < 0 ∨ s.size < p then [] else s.data.toList.drop p.toNat
/-- The number that begins at a place, and how many bytes it takes. -/
def getNum (s : ByteArray) (p : Int) : Option (Nat × Nat) :=
  match cnt 9 (restL s p) with
  | none => none
  | some n => if n = 1 ∨ (restL s p).getD (n - 1) 0 ≠ 0 then some (valL ((restL s p).take n), n) else none
end Go.Proofs.YtmjolkagkeonfaaGreatDoorR
