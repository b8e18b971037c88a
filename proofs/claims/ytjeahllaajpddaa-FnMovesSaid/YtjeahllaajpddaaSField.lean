import Derived.Test.YtjeahllaajpddaaProg
import Derived.Test.YtjeahllaajpddaaBase
import Derived.Test.YtjeahllaajpddaaFieldBits
import Derived.WalkLawsBesides
import Derived.WalkSpells
import Derived.OpenShut
namespace Go.Proofs.Ytjeahllaajpddaa
open Go.RowKit
/-! The specification's products. -/
theorem mulR_fuel (w lo : Nat) : ∀ (n k a b : Nat), b < 2 ^ n → mulR w lo (n + k) a b = mulR w lo n a b
  | 0, k, a, b, h => by have : b = 0 := by simpa using h
                        subst this; rw [mulR_zero, mulR_zero]
  | n + 1, k, a, b, h => by
    rw [show n + 1 + k = (n + k) + 1 by omega]
    unfold mulR
    rw [mulR_fuel w lo n k _ _ (by rw [Nat.pow_succ] at h; omega)]
def inT (T : Int) (a : Int) : Bool := decide (0 ≤ a ∧ a < T)
/-- A product of numbers of any size. -/
def mulI (W lo : Nat) (a b : Int) : Int := if inT (2 ^ W : Nat) a && inT (2 ^ W : Nat) b then (gm W lo a.toNat b.toNat : Nat) else -1
theorem inT_nat {T : Nat} {a : Int} (h : inT T a = true) : ∃ A : Nat, a = A ∧ A < T := by
  unfold inT at h; simp at h; exact ⟨a.toNat, by omega, by omega⟩
end Go.Proofs.Ytjeahllaajpddaa
