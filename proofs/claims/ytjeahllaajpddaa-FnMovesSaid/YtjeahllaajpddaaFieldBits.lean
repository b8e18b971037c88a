import Derived.Laws.BitsAllLaws
import Derived.Test.YtjeahllaajpddaaFieldMath
namespace Go.Proofs.Ytjeahllaajpddaa
/-! The program's ways with bits, as the fields' own. -/
theorem i64_xor_nat (a b : Nat) (ha : a < 9223372036854775808) (hb : b < 9223372036854775808) : bits .xor .i64 (a : Int) (b : Int) = ((a ^^^ b : Nat) : Int) := by
  have hx : a ^^^ b < 2 ^ 63 := Nat.xor_lt_two_pow (by omega) (by omega)
  show IntKind.i64.wrap ((BitVec.ofInt 64 (a : Int) ^^^ BitVec.ofInt 64 (b : Int)).toNat : Int) = _
  rw [BitVec.toNat_xor, ofInt_u64 a (by omega), ofInt_u64 b (by omega)]
  generalize a ^^^ b = c at *
  simp [IntKind.wrap, IntKind.bits, IntKind.signed]
  omega
/-- the top bit -/
theorem top_bit (w a : Nat) (hw : 1 ≤ w) (ha : a < 2 ^ w) : a.testBit (w - 1) = decide (2 ^ w ≤ 2 * a) := by
  obtain ⟨v, rfl⟩ : ∃ v, w = v + 1 := ⟨w - 1, by omega⟩
  rw [Nat.testBit_eq_decide_div_mod_eq, Nat.add_sub_cancel]
  rw [Nat.pow_succ] at ha ⊢
  by_cases h : a < 2 ^ v
  · rw [Nat.div_eq_of_lt h]; simp; omega
  · rw [Nat.div_eq_of_lt_le (k := 1) (by omega) (by omega)]; simp; omega
theorem xt_small (w lo a : Nat) (hw : 1 ≤ w) (h : 2 * a < 2 ^ w) : xt w lo a = 2 * a := by
  unfold xt
  rw [top_bit w a hw (by omega), Nat.mod_eq_of_lt h, decide_eq_false (by omega)]
  simp
theorem xt_big (w lo a : Nat) (hw : 1 ≤ w) (ha : a < 2 ^ w) (h : 2 ^ w ≤ 2 * a) : xt w lo a = (2 * a - 2 ^ w) ^^^ lo := by
  unfold xt
  rw [top_bit w a hw ha, decide_eq_true h, Nat.mod_eq_sub_mod h, Nat.mod_eq_of_lt (by omega)]
  simp
/-- 2 ^ w taken away is 2 ^ w added -/
theorem sub_top (w b : Nat) (h1 : 2 ^ w ≤ b) (h2 : b < 2 * 2 ^ w) : b - 2 ^ w = b ^^^ 2 ^ w := by
  have e : 2 ^ w + (b - 2 ^ w) = 2 ^ w ^^^ (b - 2 ^ w) := by
    have := Nat.two_pow_add_eq_or_of_lt (i := w) (b := b - 2 ^ w) (by omega) 1
    rw [Nat.mul_one] at this
    rw [this]
    refine Nat.eq_of_testBit_eq fun i => ?_
    rw [Nat.testBit_or, Nat.testBit_xor, Nat.testBit_two_pow]
    by_cases hi : w = i
    · subst hi
      have : (b - 2 ^ w).testBit w = false := Nat.testBit_lt_two_pow (by omega)
      simp [this]
    · simp [hi]
  have e2 : b = 2 ^ w ^^^ (b - 2 ^ w) := by omega
  have : b ^^^ 2 ^ w = b - 2 ^ w := by
    conv => lhs; rw [e2]
    rw [Nat.xor_comm, ← Nat.xor_assoc, Nat.xor_self, Nat.zero_xor]
  exact this.symm
/-- as the specification reckons it -/
theorem xt_poly (w lo a : Nat) (hw : 1 ≤ w) (ha : a < 2 ^ w) (hl : lo < 2 ^ w) (h : 2 ^ w ≤ 2 * a) : xt w lo a = (2 * a) ^^^ (2 ^ w + lo) := by
  rw [xt_big w lo a hw ha h, sub_top w (2 * a) h (by omega)]
  have := sub_top w (2 ^ w + lo) (by omega) (by omega)
  rw [Nat.add_sub_cancel_left] at this
  conv => lhs; rw [this]
  rw [x4, Nat.xor_self, Nat.xor_zero]
theorem itx_succ (w lo : Nat) : ∀ (k a : Nat), itx w lo (k + 1) a = xt w lo (itx w lo k a)
  | 0, _ => rfl
  | k + 1, a => itx_succ w lo k (xt w lo a)
end Go.Proofs.Ytjeahllaajpddaa
