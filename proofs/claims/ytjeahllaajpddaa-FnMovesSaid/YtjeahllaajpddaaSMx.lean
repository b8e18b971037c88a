import Derived.Test.YtjeahllaajpddaaInts
import Derived.Test.YtjeahllaajpddaaSPow
import Derived.Deep.RegionWith
import Derived.Deep.DrawnRows
namespace Go.Proofs.Ytjeahllaajpddaa
open Go.RowKit
/-! The specification's matrices. -/
def nl (xs : List Nat) : List Int := xs.map (fun x : Nat => (x : Int))
theorem nl_len (xs : List Nat) : (nl xs).length = xs.length := by simp [nl]
theorem nl_at (xs : List Nat) (i : Nat) : (nl xs).getD i 0 = ((xs.getD i 0 : Nat) : Int) := by
  unfold nl
  rw [List.getD_eq_getElem?_getD, List.getD_eq_getElem?_getD, List.getElem?_map]
  cases xs[i]? <;> rfl
theorem nl_set (xs : List Nat) (i x : Nat) : (nl xs).set i (x : Int) = nl (xs.set i x) := by simp [nl, List.map_set]
theorem nl_zeros (q : Nat) : nl (List.replicate q 0) = List.replicate q 0 := by simp [nl]
def Small (xs : List Nat) : Prop := ∀ i, xs.getD i 0 < 256
/-- a matrix as a value -/
abbrev mxv (r c : Int) (a : Option Addr) (len cap : Nat) : Value := .agg #[.int .i64 r, .int .i64 c, .slice a len cap]
/-- what MatrixFault answers -/
def mfault (r c : Int) (xs : List Int) : Int := if 1 ≤ r ∧ r ≤ 64 ∧ 1 ≤ c ∧ c ≤ 64 ∧ (xs.length : Int) = r * c ∧ (∀ x ∈ xs, 0 ≤ x ∧ x < 256) then 0 else 1
theorem mfault_ok {r c : Int} {xs : List Int} (h : mfault r c xs = 0) : ∃ R C : Nat, r = R ∧ c = C ∧ 1 ≤ R ∧ R ≤ 64 ∧ 1 ≤ C ∧ C ≤ 64 ∧ ∃ ys : List Nat, xs = nl ys ∧ ys.length = R * C ∧ ∀ y ∈ ys, y < 256 := by
  unfold mfault at h
  by_cases g : 1 ≤ r ∧ r ≤ 64 ∧ 1 ≤ c ∧ c ≤ 64 ∧ (xs.length : Int) = r * c ∧ (∀ x ∈ xs, 0 ≤ x ∧ x < 256)
  · obtain ⟨g1, g2, g3, g4, g5, g6⟩ := g
    obtain ⟨R, rfl⟩ := Int.eq_ofNat_of_zero_le (show 0 ≤ r by omega)
    obtain ⟨C, rfl⟩ := Int.eq_ofNat_of_zero_le (show 0 ≤ c by omega)
    refine ⟨R, C, rfl, rfl, by omega, by omega, by omega, by omega, xs.map Int.toNat, ?_, ?_, ?_⟩
    · unfold nl
      rw [List.map_map]
      refine (List.map_id xs).symm.trans (List.map_congr_left fun x hx => ?_)
      have := g6 x hx
      show x = ((x.toNat : Nat) : Int); omega
    · rw [List.length_map]; exact_mod_cast g5
    · intro y hy
      obtain ⟨x, hx, rfl⟩ := List.mem_map.1 hy
      have := g6 x hx; omega
  · rw [if_neg g] at h; omega
end Go.Proofs.Ytjeahllaajpddaa
