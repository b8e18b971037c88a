import Derived.Test.YtjeahllaajpddaaSField
namespace Go.Proofs.Ytjeahllaajpddaa
open Go.RowKit
/-! The specification's powers and inverses. -/
theorem inT_of {T A : Nat} (h : A < T) : inT T A = true := by unfold inT; simp; omega
theorem mulI_nat {W lo A B : Nat} (hA : A < 2 ^ W) (hB : B < 2 ^ W) : mulI W lo A B = (gm W lo A B : Nat) := by
  unfold mulI; rw [inT_of hA, inT_of hB]; rfl
section
variable {w lo : Nat}
theorem gp_two (F : Fld w lo) {a : Nat} (ha : a < 2 ^ w) : gp w lo a 2 = gm w lo a a := by
  show gm w lo (gp w lo a 1) a = _; rw [gp_one F ha]
theorem gp_even (F : Fld w lo) {a n : Nat} (ha : a < 2 ^ w) (h : ¬ n % 2 = 1) : gp w lo a n = gp w lo (gm w lo a a) (n / 2) := by
  have e : n = 2 * (n / 2) := by omega
  conv => lhs; rw [e]
  rw [gp_mul F ha, gp_two F ha]
theorem gp_odd (F : Fld w lo) {a n : Nat} (ha : a < 2 ^ w) (h : n % 2 = 1) : gp w lo a n = gm w lo a (gp w lo (gm w lo a a) (n / 2)) := by
  have e : n = 2 * (n / 2) + 1 := by omega
  conv => lhs; rw [e]
  show gm w lo (gp w lo a (2 * (n / 2))) a = _
  rw [gp_mul F ha, gp_two F ha, gm_comm F (gp_lt F (gm_lt F a ha) _) ha]
end
/-- Powers and inverses of numbers of any size. -/
def powI (W lo : Nat) (a n : Int) : Int := if inT (2 ^ W : Nat) a && decide (0 ≤ n) then (gp W lo a.toNat n.toNat : Nat) else -1
def invI (W lo : Nat) (a : Int) : Int := if inT (2 ^ W : Nat) a then (gp W lo a.toNat (2 ^ W - 2) : Nat) else -1
end Go.Proofs.Ytjeahllaajpddaa
