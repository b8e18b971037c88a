import Derived.Test.YthdmaamocejodaaDoorFieldBits
namespace Go.Proofs.YthdmaamocejodaaDoor
section
variable {w lo : Nat}
theorem sqs_succ : ∀ (k a : Nat), sqs w lo (k + 1) a = gm w lo (sqs w lo k a) (sqs w lo k a)
  | 0, _ => rfl
  | k + 1, a => sqs_succ k (gm w lo a a)
theorem sqs_lt (F : Fld w lo) : ∀ (k : Nat) {a : Nat}, a < 2 ^ w → sqs w lo k a < 2 ^ w
  | 0, _, h => h
  | k + 1, a, h => sqs_lt F k (gm_lt F a h)
theorem sqs_add : ∀ (m n a : Nat), sqs w lo (m + n) a = sqs w lo n (sqs w lo m a)
  | 0, n, a => by rw [Nat.zero_add]; rfl
  | m + 1, n, a => by rw [show m + 1 + n = (m + n) + 1 by omega]; exact sqs_add m n (gm w lo a a)
theorem sqs_round (F : Fld2 w lo) {a : Nat} (ha : a < 2 ^ w) (r : Nat) : ∀ q, sqs w lo (r + w * q) a = sqs w lo r a
  | 0 => rfl
  | q + 1 => by
    rw [Nat.mul_succ, ← Nat.add_assoc, sqs_add, round_all F (sqs_lt F.toFld _ ha), sqs_round F ha r q]
theorem sqs_mod (F : Fld2 w lo) {a : Nat} (ha : a < 2 ^ w) (k : Nat) : sqs w lo (k % w) a = sqs w lo k a := by
  conv => rhs; rw [← Nat.mod_add_div k w]
  rw [sqs_round F ha]
end
end Go.Proofs.YthdmaamocejodaaDoor
