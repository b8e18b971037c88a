import Derived.Test.YtmjolkagkeonfaaGreatDoorSRp3
import Derived.Test.YtmjolkagkeonfaaGreatDoorG10
import Derived.Test.YtmjolkagkeonfaaGreatDoorDraw
namespace Go.Proofs.YtmjolkagkeonfaaGreatDoor
open Go.RowKit
set_option linter.unusedVariables false
/-! How large what is read of a policy can be. -/
theorem rdP_B : ∀ (ls : List ByteArray) (i : Nat) (acc : List PS), (∀ x ∈ ls, x.size ≤ 10000) → acc.length ≤ 50 → (∀ p ∈ acc, psB p) → (rdP i acc ls).2.2.length ≤ 50 ∧ ∀ p ∈ (rdP i acc ls).2.2, psB p
  | [], i, acc, _, h1, h2 => by rw [rdP]; exact ⟨h1, h2⟩
  | l :: r, i, acc, h0, h1, h2 => by
    have hr : ∀ x ∈ r, x.size ≤ 10000 := fun x hx => h0 x (by simp [hx])
    by_cases hw : wdsL l = []
    · rw [rdP_skip hw]
      exact rdP_B r _ _ hr h1 h2
    · by_cases hl : lnP (wdsL l)
      · by_cases h3 : acc.length < 50 ∧ (sS (wdsL l)).cs.length ≤ 10
        · rw [rdP_ok hw hl h3]
          refine rdP_B r _ _ hr (by simp; omega) fun p hp => ?_
          rcases List.mem_append.1 hp with q | q
          · exact h2 p q
          · simp at q
            subst q
            exact sS_B (wdsL_B (n := 1000000) (by have := h0 l (by simp); omega)) hl.1.1
        · rw [rdP_cnt hw hl h3]
          exact ⟨Nat.zero_le _, fun p hp => by cases hp⟩
      · rw [rdP_syn hw hl]
        exact ⟨Nat.zero_le _, fun p hp => by cases hp⟩
theorem polB (t : ByteArray) : (polO t).2.2.length ≤ 50 ∧ ∀ i, i < (polO t).2.2.length → psB (psA (polO t).2.2 i) := by
  have q : (polO t).2.2.length ≤ 50 ∧ ∀ p ∈ (polO t).2.2, psB p := by
    unfold polO
    by_cases h : t.size ≤ 10000
    · rw [if_pos h]
      exact rdP_B _ _ _ (splB_sz h) (Nat.zero_le _) (fun p hp => by cases hp)
    · rw [if_neg h]
      exact ⟨Nat.zero_le _, fun p hp => by cases hp⟩
  refine ⟨q.1, fun i hi => q.2 _ ?_⟩
  unfold psA
  rw [List.getD_eq_getElem?_getD, List.getElem?_eq_getElem hi]
  exact List.getElem_mem hi
end Go.Proofs.YtmjolkagkeonfaaGreatDoor
namespace Go.Proofs.YtmjolkagkeonfaaGreatDoor
open Go.RowKit
/-! Statements that a call owns, read. -/
theorem OwnSt.sts {w : World} {base : Nat} {a : Option Addr} {c : Nat} {L : List St} (h : OwnSt w base (.slice a L.length c) L) (hi : ∀ k, k < L.length → StIn w (stA L k)) : Sts w a L.length c (stA L) := by
  by_cases h0 : L.length = 0
  · refine ⟨by omega, .inl h0, hi⟩
  · obtain ⟨g, f, rfl, hb, hc, hr, he⟩ := h.frow h0
    refine ⟨hc, .inr ⟨g, 0, rfl, hr.lt, fun k hk => ?_⟩, hi⟩
    have g0 := hr.cell (p := k * 5) (by omega)
    have g1 := hr.cell (p := k * 5 + 1) (by omega)
    have g2 := hr.cell (p := k * 5 + 2) (by omega)
    have g3 := hr.cell (p := k * 5 + 3) (by omega)
    have g4 := hr.cell (p := k * 5 + 4) (by omega)
    rw [he _ (by omega), stF0] at g0
    rw [he _ (by omega), stF1] at g1
    rw [he _ (by omega), stF2] at g2
    rw [he _ (by omega), stF3] at g3
    rw [he _ (by omega), stF4] at g4
    rw [Nat.zero_add]
    exact ⟨g0, g1, g2, g3, g4⟩
end Go.Proofs.YtmjolkagkeonfaaGreatDoor
namespace Go.Proofs.YtmjolkagkeonfaaGreatDoor
open Go.RowKit
/-! A draw, told to the number. -/
end Go.Proofs.YtmjolkagkeonfaaGreatDoor
