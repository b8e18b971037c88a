import Derived.Test.YteeadhcfippilaaDoorRecM
import Derived.Test.YteeadhcfippilaaDoorGetText
namespace Go.Proofs.YteeadhcfippilaaDoor
open Go.RowKit
/-! The specification's GetRecord. -/
theorem span_200 (s : ByteArray) (p : Nat) : spanN s p 200 = (spanN s p 100000).bind fun x => if x.2 ≤ 200 then some x else none := by
  unfold spanN
  cases hg : getNum s (p : Nat) with
  | none => rfl
  | some vn =>
    obtain ⟨v, c⟩ := vn
    simp only
    by_cases h1 : v ≤ 100000 ∧ p + c + v ≤ s.size
    · rw [if_pos h1]
      simp only [Option.bind_some]
      by_cases h2 : v ≤ 200
      · rw [if_pos (by omega), if_pos h2]
      · rw [if_neg (by omega), if_neg h2]
    · rw [if_neg h1, if_neg (by omega)]; rfl
theorem getRec_no (s : ByteArray) (p : Int) (h : ¬ Marked s p) : getRec s p = none := by unfold getRec; rw [if_neg h]
def RecC (s : ByteArray) (a ka ks ba bs : Nat) : Prop := 1 ≤ ks ∧ ks ≤ 200 ∧ byteAt s (ka + ks) ≤ 1 ∧ ((byteAt s (ka + ks) == 1) = true → bs = 0) ∧ sumOf (s.extract a (ba + bs)) 5 = sum4 s (ba + bs)
instance (s : ByteArray) (a ka ks ba bs : Nat) : Decidable (RecC s a ka ks ba bs) := inferInstanceAs (Decidable (_ ∧ _ ∧ _ ∧ (_ → _) ∧ _))
theorem getRec_at (s : ByteArray) (a : Nat) (ha : a < s.size) (hm : byteAt s a = 231) : getRec s (a : Nat) =
    match spanN s (a + 1) 100000 with
    | none => none
    | some (ka, ks) => if s.size ≤ ka + ks then none else
      match spanN s (ka + ks + 1) 100000 with
      | none => none
      | some (ba, bs) => if s.size < ba + bs + 4 then none else if RecC s a ka ks ba bs then some ⟨ka, ks, byteAt s (ka + ks) == 1, ba, bs, a, ba + bs + 4⟩ else none := by
  unfold getRec frmN headN
  rw [if_pos ⟨by omega, by omega, by simpa using hm⟩, Int.toNat_natCast, span_200]
  cases h1 : spanN s (a + 1) 100000 with
  | none => rfl
  | some x =>
    obtain ⟨ka, ks⟩ := x
    simp only [Option.bind_some]
    by_cases c1 : s.size ≤ ka + ks
    · rw [if_pos c1]
      by_cases c2 : ks ≤ 200
      · rw [if_pos c2]; simp only; rw [if_pos (Or.inr (Or.inl c1))]
      · rw [if_neg c2]
    · rw [if_neg c1]
      cases h2 : spanN s (ka + ks + 1) 100000 with
      | none =>
        by_cases c2 : ks ≤ 200
        · rw [if_pos c2]; simp only
          by_cases c3 : ks = 0 ∨ s.size ≤ ka + ks ∨ 1 < byteAt s (ka + ks)
          · rw [if_pos c3]
          · rw [if_neg c3]; simp only [h2]
        · rw [if_neg c2]
      | some y =>
        obtain ⟨ba, bs⟩ := y
        simp only
        have j1 := span_in s _ _ _ _ h2
        by_cases c4 : s.size < ba + bs + 4
        · rw [if_pos c4]
          by_cases c2 : ks ≤ 200
          · rw [if_pos c2]; simp only
            by_cases c3 : ks = 0 ∨ s.size ≤ ka + ks ∨ 1 < byteAt s (ka + ks)
            · rw [if_pos c3]
            · rw [if_neg c3]; simp only [h2]; rw [if_pos (Or.inr c4)]
          · rw [if_neg c2]
        · rw [if_neg c4]
          by_cases c : RecC s a ka ks ba bs
          · obtain ⟨o1, o2, o3, o4, o5⟩ := id c
            rw [if_pos c, if_pos o2]; simp only
            rw [if_neg (by omega)]; simp only [h2]
            rw [if_neg (by rintro (q | q); (exact absurd (o4 q.1) (by omega)); exact c4 q)]
            simp only
            rw [show ba + bs + 4 - 4 = ba + bs by omega, if_pos o5]
          · rw [if_neg c]
            by_cases c2 : ks ≤ 200
            · rw [if_pos c2]; simp only
              by_cases c3 : ks = 0 ∨ s.size ≤ ka + ks ∨ 1 < byteAt s (ka + ks)
              · rw [if_pos c3]
              · rw [if_neg c3]; simp only [h2]
                by_cases c5 : (byteAt s (ka + ks) == 1) = true ∧ 0 < bs
                · rw [if_pos (Or.inl c5)]
                · rw [if_neg (by rintro (q | q); (exact c5 q); exact c4 q)]
                  simp only
                  rw [show ba + bs + 4 - 4 = ba + bs by omega, if_neg]
                  intro o5
                  exact c ⟨by omega, c2, by omega, fun q => Classical.byContradiction fun r => c5 ⟨q, by omega⟩, o5⟩
            · rw [if_neg c2]
end Go.Proofs.YteeadhcfippilaaDoor
