import Derived.Test.YtmjolkagkeonfaaGreatDoorRSEsc
import Derived.Test.YtmjolkagkeonfaaGreatDoorRPb
import Derived.Lib.OthersKept
namespace Go.Proofs.YtmjolkagkeonfaaGreatDoorR
open Go.RowKit
/-! The program's kinds of signs; runes. -/
theorem get_lt (s : ByteArray) (i : Nat) (h : i < s.size) : s.get! i = s[i]'h := by
  simp [ByteArray.get!, getElem!_pos, h]
  rfl
/-- the bytes of a sign of several bytes are high ones -/
theorem dec_cont (s : ByteArray) (pos : Nat) (h : pos < s.size) (ha : 128 ≤ (s[pos]'h).toNat) (k : Nat) (hk : k < (Utf8.decode s pos).2) :
    pos + k < s.size ∧ 128 ≤ (s.get! (pos + k)).toNat := by
  have hn : ¬ (s[pos]'h).toNat < 128 := by omega
  have h0 : pos + 0 < s.size ∧ 128 ≤ (s.get! (pos + 0)).toNat := ⟨h, by rw [get_at s pos h]; exact ha⟩
  simp only [Utf8.decode, get_at s pos h, hn, if_false] at hk
  repeat' split at hk
  all_goals simp only [Bool.and_eq_true, decide_eq_true_eq, beq_iff_eq] at *
  all_goals first
    | (have : k = 0 := by omega
       subst this
       exact h0)
    | (have : k = 0 ∨ k = 1 := by omega
       rcases this with rfl | rfl
       · exact h0
       · refine ⟨by omega, ?_⟩
         omega)
    | (have : k = 0 ∨ k = 1 ∨ k = 2 := by omega
       rcases this with rfl | rfl | rfl
       · exact h0
       · refine ⟨by omega, ?_⟩
         omega
       · refine ⟨by omega, ?_⟩
         omega)
    | (have : k = 0 ∨ k = 1 ∨ k = 2 ∨ k = 3 := by omega
       rcases this with rfl | rfl | rfl | rfl
       · exact h0
       · refine ⟨by omega, ?_⟩
         omega
       · refine ⟨by omega, ?_⟩
         omega
       · refine ⟨by omega, ?_⟩
         omega)
theorem dec_wide (s : ByteArray) (pos : Nat) (h : pos < s.size) (ha : 128 ≤ (s[pos]'h).toNat) :
    1 ≤ (Utf8.decode s pos).2 ∧ pos + (Utf8.decode s pos).2 ≤ s.size ∧ ∀ i (hi : i < s.size), pos ≤ i → i < pos + (Utf8.decode s pos).2 → 128 ≤ (s[i]'hi).toNat := by
  have h1 := (decode_high s pos h ha).2
  refine ⟨h1, ?_, fun i hi h2 h3 => ?_⟩
  · have := (dec_cont s pos h ha ((Utf8.decode s pos).2 - 1) (by omega)).1
    omega
  · have := (dec_cont s pos h ha (i - pos) (by omega)).2
    rw [show pos + (i - pos) = i by omega, get_lt s i hi] at this
    exact this
def rIn (lo hi r : Int) : Prop := lo ≤ r ∧ r ≤ hi
def iPl (r : Int) : Prop := r = 45 ∨ r = 95 ∨ r = 46 ∨ r = 47 ∨ (48 ≤ r ∧ r ≤ 57) ∨ (97 ≤ r ∧ r ≤ 122) ∨ (65 ≤ r ∧ r ≤ 90)
theorem iPl_nat (c : Nat) : iPl (c : Int) ↔ ePl c := by unfold iPl ePl; omega
end Go.Proofs.YtmjolkagkeonfaaGreatDoorR
