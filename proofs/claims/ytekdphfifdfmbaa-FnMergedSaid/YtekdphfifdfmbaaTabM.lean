import Derived.Test.YtekdphfifdfmbaaICount
namespace Go.Proofs.Ytekdphfifdfmbaa
open Go.RowKit
/-! When a table is right. -/
/-- what is asked of a table's numbers -/
def hdOk (s f : Int) (m : Nat) : Prop := s ≤ 4611686018427387904 ∧ 0 ≤ f ∧ f ≤ s ∧ m ≤ 20
/-- what is asked of the first k runs -/
def tabTo (s : Int) (R : Nat → Rn) (k : Nat) : Prop := (∀ i, i < k → runOk (R i).n (R i).o) ∧ cntR R k ≤ 1000 ∧ (sqA R k).Nodup ∧ ∀ v ∈ sqA R k, v ≤ s
/-- what is asked of the first i fresh entries -/
def frTo (s : Int) (A : List Int) (o0 : Nat → En) (i : Nat) : Prop := ∀ j, j < i → (o0 j).sq ≤ s ∧ ∀ v ∈ A, v < (o0 j).sq
def tabOk (s f : Int) (n0 : Nat) (o0 : Nat → En) (m : Nat) (R : Nat → Rn) : Prop :=
  hdOk s f m ∧ runOk n0 o0 ∧ tabTo s R m ∧ cntR R m + n0 ≤ 1000 ∧ frTo s (sqA R m) o0 n0
open Classical in
noncomputable def tabV (s f : Int) (n0 : Nat) (o0 : Nat → En) (m : Nat) (R : Nat → Rn) : Int := if tabOk s f n0 o0 m R then 0 else 1
theorem tabV_ok {s f : Int} {n0 : Nat} {o0 : Nat → En} {m : Nat} {R : Nat → Rn} (h : tabOk s f n0 o0 m R) : tabV s f n0 o0 m R = 0 := by unfold tabV; rw [if_pos h]
theorem tabV_no {s f : Int} {n0 : Nat} {o0 : Nat → En} {m : Nat} {R : Nat → Rn} (h : ¬ tabOk s f n0 o0 m R) : tabV s f n0 o0 m R = 1 := by unfold tabV; rw [if_neg h]
theorem sqA_sub {R : Nat → Rn} {j k : Nat} (h : j ≤ k) : ∃ l, sqA R k = sqA R j ++ l := by
  induction k with
  | zero => exact ⟨[], by rw [Nat.le_zero.mp h]; simp⟩
  | succ k ih =>
    rcases Nat.lt_or_ge j (k + 1) with h1 | h1
    · obtain ⟨l, hl⟩ := ih (by omega)
      exact ⟨l ++ sqL (R k).o (R k).n, by show sqA R k ++ _ = _; rw [hl, List.append_assoc]⟩
    · exact ⟨[], by rw [show j = k + 1 by omega]; simp⟩
theorem tabTo_mono {s : Int} {R : Nat → Rn} {j k : Nat} (h : tabTo s R k) (hj : j ≤ k) : tabTo s R j := by
  obtain ⟨h1, h2, h3, h4⟩ := h
  obtain ⟨l, hl⟩ := sqA_sub (R := R) hj
  refine ⟨fun i hi => h1 i (by omega), Nat.le_trans (cntR_mono R hj) h2, ?_, fun v hv => h4 v (by rw [hl]; exact List.mem_append_left _ hv)⟩
  rw [hl] at h3
  exact (List.nodup_append.1 h3).1
/-- what fails at a run fails for the table -/
theorem tab_no {s f : Int} {n0 : Nat} {o0 : Nat → En} {m : Nat} {R : Nat → Rn} {k : Nat} (hk : k ≤ m) (h : ¬ tabTo s R k) : tabV s f n0 o0 m R = 1 := tabV_no fun q => h (tabTo_mono q.2.2.1 hk)
theorem sqL_take {o : Nat → En} {j n : Nat} (h : j ≤ n) : ∃ l, sqL o n = sqL o j ++ l := by
  induction n with
  | zero => exact ⟨[], by rw [Nat.le_zero.mp h]; simp⟩
  | succ n ih =>
    rcases Nat.lt_or_ge j (n + 1) with h1 | h1
    · obtain ⟨l, hl⟩ := ih (by omega)
      exact ⟨l ++ [(o n).sq], by rw [sqL_succ, hl, List.append_assoc]⟩
    · exact ⟨[], by rw [show j = n + 1 by omega]; simp⟩
/-- the first j Seqs of run k beside those of the runs ahead -/
def partTo (s : Int) (R : Nat → Rn) (k j : Nat) : Prop := (sqA R k ++ sqL (R k).o j).Nodup ∧ ∀ v ∈ sqA R k ++ sqL (R k).o j, v ≤ s
theorem partTo_zero {s : Int} {R : Nat → Rn} {k : Nat} (h : tabTo s R k) : partTo s R k 0 := by
  unfold partTo
  rw [show sqL (R k).o 0 = [] from rfl, List.append_nil]
  exact ⟨h.2.2.1, h.2.2.2⟩
theorem partTo_succ {s : Int} {R : Nat → Rn} {k j : Nat} (h : partTo s R k j) (h1 : ((R k).o j).sq ≤ s) (h2 : ((R k).o j).sq ∉ sqA R k ++ sqL (R k).o j) : partTo s R k (j + 1) := by
  unfold partTo
  rw [sqL_succ, ← List.append_assoc]
  refine ⟨List.nodup_append.2 ⟨h.1, by simp, fun a ha b hb e => ?_⟩, fun v hv => ?_⟩
  · simp at hb; subst hb; subst e; exact h2 ha
  · rcases List.mem_append.1 hv with q | q
    · exact h.2 v q
    · simp at q; subst q; exact h1
theorem part_no {s : Int} {R : Nat → Rn} {k j : Nat} (hj : j < (R k).n) (h : s < ((R k).o j).sq ∨ ((R k).o j).sq ∈ sqA R k ++ sqL (R k).o j) : ¬ tabTo s R (k + 1) := fun q => by
  obtain ⟨_, _, q3, q4⟩ := q
  obtain ⟨l, hl⟩ := sqL_take (o := (R k).o) (show j + 1 ≤ (R k).n by omega)
  have e : sqA R (k + 1) = (sqA R k ++ sqL (R k).o j) ++ ([((R k).o j).sq] ++ l) := by show sqA R k ++ _ = _; rw [hl, sqL_succ]; simp
  rw [e] at q3 q4
  rcases h with h | h
  · have := q4 _ (List.mem_append_right _ (List.mem_append_left _ (List.mem_singleton.2 rfl))); omega
  · exact (List.nodup_append.1 q3).2.2 _ h _ (List.mem_append_left _ (List.mem_singleton.2 rfl)) rfl
theorem tabTo_succ {s : Int} {R : Nat → Rn} {k : Nat} (h : tabTo s R k) (h1 : runOk (R k).n (R k).o) (h2 : cntR R (k + 1) ≤ 1000) (h3 : partTo s R k (R k).n) : tabTo s R (k + 1) :=
  ⟨fun i hi => by
    by_cases e : i = k
    · subst e; exact h1
    · exact h.1 i (by omega), h2, h3.1, h3.2⟩
/-- how the program asks it -/
def lastOk (l : List Int) (s : Int) : Prop := l.length = 0 ∨ l.getD (l.length - 1) 0 ≤ s
theorem last_all {l : List Int} {s : Int} (h : rise l) : lastOk l s ↔ ∀ v ∈ l, v ≤ s := by
  have hp := rise_pw.1 h
  rw [List.pairwise_iff_getElem] at hp
  constructor
  · rintro (h0 | h0) v hv
    · rw [List.length_eq_zero_iff.1 h0] at hv; cases hv
    · obtain ⟨i, hi, rfl⟩ := List.getElem_of_mem hv
      have hl : l.length - 1 < l.length := by omega
      rw [List.getD_eq_getElem?_getD, List.getElem?_eq_getElem hl] at h0
      by_cases e : i = l.length - 1
      · subst e; exact h0
      · have := hp i (l.length - 1) hi hl (by omega)
        simp at h0; omega
  · intro h
    by_cases h0 : l.length = 0
    · exact .inl h0
    · right
      have hl : l.length - 1 < l.length := by omega
      rw [List.getD_eq_getElem?_getD, List.getElem?_eq_getElem hl]
      exact h _ (List.getElem_mem hl)
theorem tab_iff (s : Int) (R : Nat → Rn) (m : Nat) (o0 : Nat → En) (n0 : Nat) (h0 : (sqL o0 n0).Nodup) :
    (rise (sortI (sqA R m) ++ sortI (sqL o0 n0)) ∧ lastOk (sortI (sqA R m) ++ sortI (sqL o0 n0)) s) ↔ ((sqA R m).Nodup ∧ ∀ v ∈ sqA R m, v ≤ s) ∧ frTo s (sqA R m) o0 n0 := by
  have hA : ∀ v, v ∈ sortI (sqA R m) ↔ v ∈ sqA R m := fun v => (sortI_perm _).mem_iff
  have hB : ∀ v, v ∈ sortI (sqL o0 n0) ↔ v ∈ sqL o0 n0 := fun v => (sortI_perm _).mem_iff
  constructor
  · rintro ⟨h1, h2⟩
    have hl := (last_all h1).1 h2
    have hp := List.pairwise_append.1 (rise_pw.1 h1)
    refine ⟨⟨(rise_sortI _).1 (rise_pw.2 hp.1), fun v hv => hl v (List.mem_append_left _ ((hA v).2 hv))⟩, fun j hj => ?_⟩
    have hm : (o0 j).sq ∈ sqL o0 n0 := mem_sqL.2 ⟨j, hj, rfl⟩
    exact ⟨hl _ (List.mem_append_right _ ((hB _).2 hm)), fun v hv => hp.2.2 v ((hA v).2 hv) _ ((hB _).2 hm)⟩
  · rintro ⟨⟨h1, h2⟩, h3⟩
    have hr : rise (sortI (sqA R m) ++ sortI (sqL o0 n0)) := by
      rw [rise_pw, List.pairwise_append]
      refine ⟨rise_pw.1 ((rise_sortI _).2 h1), rise_pw.1 ((rise_sortI _).2 h0), fun a ha b hb => ?_⟩
      obtain ⟨j, hj, rfl⟩ := mem_sqL.1 ((hB b).1 hb)
      exact (h3 j hj).2 a ((hA a).1 ha)
    refine ⟨hr, (last_all hr).2 fun v hv => ?_⟩
    rcases List.mem_append.1 hv with q | q
    · exact h2 v ((hA v).1 q)
    · obtain ⟨j, hj, rfl⟩ := mem_sqL.1 ((hB v).1 q)
      exact (h3 j hj).1
end Go.Proofs.Ytekdphfifdfmbaa
