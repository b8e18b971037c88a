namespace Go.Proofs.YtkppgjndmbbobaaGreatDoor
/-! Patterns: what a pattern fits; the rows of the specification's table; the program's greedy way. -/
inductive Fit : List UInt8 → List UInt8 → Prop
  | nil : Fit [] []
  | star0 {p t : List UInt8} : Fit p t → Fit (42 :: p) t
  | star1 {p t : List UInt8} {b : UInt8} : Fit (42 :: p) t → Fit (42 :: p) (b :: t)
  | one {p t : List UInt8} {c b : UInt8} : c ≠ 42 → (c = 63 ∨ c = b) → Fit p t → Fit (c :: p) (b :: t)
theorem fit_nil {t : List UInt8} : Fit [] t ↔ t = [] := ⟨fun h => by cases h; rfl, fun h => by subst h; exact .nil⟩
theorem fit_star {p : List UInt8} : ∀ {t : List UInt8}, Fit (42 :: p) t ↔ ∃ k, k ≤ t.length ∧ Fit p (t.drop k)
  | [] => ⟨fun h => by
      cases h with
      | star0 h => exact ⟨0, Nat.le_refl _, h⟩, fun ⟨k, hk, h⟩ => by
      have : k = 0 := by simpa using hk
      subst this; exact .star0 h⟩
  | b :: t => ⟨fun h => by
      cases h with
      | star0 h => exact ⟨0, Nat.zero_le _, h⟩
      | star1 h =>
        obtain ⟨k, hk, h⟩ := fit_star.1 h
        exact ⟨k + 1, by simp; omega, h⟩
      | one h => exact absurd rfl h, fun ⟨k, hk, h⟩ => by
      cases k with
      | zero => exact .star0 h
      | succ k => exact .star1 (fit_star.2 ⟨k, by simpa using hk, h⟩)⟩
theorem fit_one {c : UInt8} {p t : List UInt8} (hc : c ≠ 42) : Fit (c :: p) t ↔ ∃ b t', t = b :: t' ∧ (c = 63 ∨ c = b) ∧ Fit p t' :=
  ⟨fun h => by
    cases h with
    | star0 h => exact absurd rfl hc
    | star1 h => exact absurd rfl hc
    | one _ h1 h2 => exact ⟨_, _, rfl, h1, h2⟩, fun ⟨b, t', e, h1, h2⟩ => by subst e; exact .one hc h1 h2⟩
theorem fit_to_nil : ∀ {q : List UInt8}, Fit q [] ↔ ∀ c ∈ q, c = 42
  | [] => ⟨fun _ c hc => by simp at hc, fun _ => .nil⟩
  | c :: q => by
    constructor
    · intro h
      cases h with
      | star0 h => intro x hx; rcases List.mem_cons.1 hx with rfl | hx; rfl; exact fit_to_nil.1 h x hx
    · intro h
      have := h c (by simp); subst this
      exact .star0 (fit_to_nil.2 fun x hx => h x (by simp [hx]))
theorem fit_seg {q : List UInt8} : ∀ {s t : List UInt8}, (∀ c ∈ s, c ≠ 42) → Fit (s ++ q) t → s.length ≤ t.length ∧ Fit q (t.drop s.length)
  | [], t, _, h => ⟨Nat.zero_le _, by simpa using h⟩
  | c :: s, t, hs, h => by
    obtain ⟨b, t', rfl, _, h2⟩ := (fit_one (hs c (by simp))).1 h
    obtain ⟨h3, h4⟩ := fit_seg (fun x hx => hs x (by simp [hx])) h2
    exact ⟨by simp; omega, h4⟩
open Classical in
/-- whether a pattern fits -/
noncomputable def glB (p t : List UInt8) : Bool := decide (Fit p t)
theorem glB_f {p t : List UInt8} (h : ¬ Fit p t) : glB p t = false := by unfold glB; simpa using h
/-! The greedy way: p, t where it stands; s1: 0 where no star was met, else the place behind the last one; e: where that star ends. -/
structure Way (P T : List UInt8) (p t s1 e : Nat) : Prop where
  p_le : p ≤ P.length
  t_le : t ≤ T.length
  e_le : e ≤ t
  s_le : s1 ≤ p
  same : s1 ≠ 0 → p - s1 = t - e
  none : s1 = 0 → e = 0
  plain : s1 ≠ 0 → ∀ c ∈ (P.drop s1).take (p - s1), c ≠ 42
  iff : Fit P T ↔ Fit (P.drop p) (T.drop t) ∨ (s1 ≠ 0 ∧ ∃ k, e < k ∧ k ≤ T.length ∧ Fit (P.drop s1) (T.drop k))
theorem drop_at {l : List UInt8} {i : Nat} {c : UInt8} (h : l[i]? = some c) : l.drop i = c :: l.drop (i + 1) := by
  have hl : i < l.length := (List.getElem?_eq_some_iff.1 h).1
  rw [List.drop_eq_getElem_cons hl]
  congr 1
  exact (List.getElem?_eq_some_iff.1 h).2
/-- what a fit from the last star on, later, says of the place where one stands -/
theorem Way.later {P T : List UInt8} {p t s1 e : Nat} (h : Way P T p t s1 e) (hs : s1 ≠ 0) {k : Nat} (hk : e < k) (hT : k ≤ T.length) (hf : Fit (P.drop s1) (T.drop k)) :
    k + (p - s1) ≤ T.length ∧ t < k + (p - s1) ∧ Fit (P.drop p) (T.drop (k + (p - s1))) := by
  have h1 := h.same hs
  have h2 := h.s_le; have h3 := h.e_le; have h4 := h.p_le
  have e1 : P.drop s1 = (P.drop s1).take (p - s1) ++ P.drop p := by
    conv => lhs; rw [← List.take_append_drop (p - s1) (P.drop s1)]
    rw [List.drop_drop, show s1 + (p - s1) = p by omega]
  rw [e1] at hf
  obtain ⟨h5, h6⟩ := fit_seg (h.plain hs) hf
  rw [List.length_take, List.length_drop, Nat.min_eq_left (by omega), List.length_drop] at h5
  rw [List.length_take, List.length_drop, Nat.min_eq_left (by omega), List.drop_drop] at h6
  exact ⟨by omega, by omega, h6⟩
theorem Way.star {P T : List UInt8} {p t s1 e : Nat} (h : Way P T p t s1 e) (hp : P[p]? = some 42) : Way P T (p + 1) t (p + 1) t := by
  have hl : p < P.length := (List.getElem?_eq_some_iff.1 hp).1
  refine ⟨by omega, h.t_le, Nat.le_refl _, Nat.le_refl _, fun _ => by omega, fun h => by omega, fun _ c hc => by simp at hc, ?_⟩
  have hd : P.drop p = 42 :: P.drop (p + 1) := drop_at hp
  have key : Fit (P.drop p) (T.drop t) ↔ Fit (P.drop (p + 1)) (T.drop t) ∨ (p + 1 ≠ 0 ∧ ∃ k, t < k ∧ k ≤ T.length ∧ Fit (P.drop (p + 1)) (T.drop k)) := by
    rw [hd, fit_star]
    constructor
    · rintro ⟨k, hk, h1⟩
      rw [List.drop_drop] at h1
      rw [List.length_drop] at hk
      by_cases h0 : k = 0
      · subst h0; exact Or.inl h1
      · exact Or.inr ⟨by omega, t + k, by omega, by have := h.t_le; omega, h1⟩
    · rintro (h1 | ⟨_, k, hk, hT, h1⟩)
      · exact ⟨0, Nat.zero_le _, h1⟩
      · exact ⟨k - t, by rw [List.length_drop]; omega, by rw [List.drop_drop, show t + (k - t) = k by omega]; exact h1⟩
  rw [h.iff, ← key]
  constructor
  · rintro (h1 | ⟨hs, k, hk, hT, h1⟩)
    · exact h1
    · obtain ⟨h2, h3, h4⟩ := h.later hs hk hT h1
      rw [hd, fit_star] at h4 ⊢
      obtain ⟨m, hm, h5⟩ := h4
      rw [List.length_drop] at hm
      rw [List.drop_drop] at h5
      exact ⟨k + (p - s1) + m - t, by rw [List.length_drop]; omega, by rw [List.drop_drop, show t + (k + (p - s1) + m - t) = k + (p - s1) + m by omega]; exact h5⟩
  · exact Or.inl
theorem Way.one {P T : List UInt8} {p t s1 e : Nat} (h : Way P T p t s1 e) {c b : UInt8} (hp : P[p]? = some c) (ht : T[t]? = some b) (hc : c ≠ 42) (hm : c = 63 ∨ c = b) : Way P T (p + 1) (t + 1) s1 e := by
  have hl : p < P.length := (List.getElem?_eq_some_iff.1 hp).1
  have hl2 : t < T.length := (List.getElem?_eq_some_iff.1 ht).1
  have h2 := h.s_le; have h3 := h.e_le
  refine ⟨by omega, by omega, by omega, by omega, fun hs => by have := h.same hs; omega, h.none, fun hs x hx => ?_, ?_⟩
  · rw [show p + 1 - s1 = p - s1 + 1 by omega, List.take_add_one, List.getElem?_drop, show s1 + (p - s1) = p by omega, hp] at hx
    rcases List.mem_append.1 hx with hx | hx
    · exact h.plain hs x hx
    · have : x = c := by simpa using hx
      subst this; exact hc
  · rw [h.iff, drop_at hp, drop_at ht]
    have : Fit (c :: P.drop (p + 1)) (b :: T.drop (t + 1)) ↔ Fit (P.drop (p + 1)) (T.drop (t + 1)) := by
      rw [fit_one hc]
      exact ⟨fun ⟨b', t', e, _, h⟩ => by injection e with e1 e2; rw [e2]; exact h, fun h => ⟨_, _, rfl, hm, h⟩⟩
    rw [this]
/-- nothing fits where one stands -/
theorem Way.dead {P T : List UInt8} {p t s1 e : Nat} (h : Way P T p t s1 e) (ht : t < T.length) (hn : p = P.length ∨ ∃ c b, P[p]? = some c ∧ T[t]? = some b ∧ c ≠ 42 ∧ c ≠ 63 ∧ c ≠ b) :
    Fit P T ↔ (s1 ≠ 0 ∧ ∃ k, e < k ∧ k ≤ T.length ∧ Fit (P.drop s1) (T.drop k)) := by
  rw [h.iff]
  refine ⟨fun hh => hh.resolve_left fun hf => ?_, Or.inr⟩
  rcases hn with rfl | ⟨c, b, hp, hb, h1, h2, h3⟩
  · rw [List.drop_length, fit_nil] at hf
    have := congrArg List.length hf
    rw [List.length_drop] at this; simp at this; omega
  · rw [drop_at hp, drop_at hb, fit_one h1] at hf
    obtain ⟨b', t', e, h4, _⟩ := hf
    injection e with e1 e2
    subst e1
    rcases h4 with h4 | h4
    · exact h2 h4
    · exact h3 h4
theorem Way.back {P T : List UInt8} {p t s1 e : Nat} (h : Way P T p t s1 e) (ht : t < T.length) (hn : p = P.length ∨ ∃ c b, P[p]? = some c ∧ T[t]? = some b ∧ c ≠ 42 ∧ c ≠ 63 ∧ c ≠ b) (hs : s1 ≠ 0) : Way P T s1 (e + 1) s1 (e + 1) := by
  have h2 := h.s_le; have h3 := h.e_le; have h4 := h.p_le
  refine ⟨by omega, by omega, Nat.le_refl _, Nat.le_refl _, fun _ => by omega, fun h => absurd h hs, fun _ c hc => by simp at hc, ?_⟩
  rw [h.dead ht hn]
  constructor
  · rintro ⟨_, k, hk, hT, h1⟩
    by_cases h0 : k = e + 1
    · subst h0; exact Or.inl h1
    · exact Or.inr ⟨hs, k, by omega, hT, h1⟩
  · rintro (h1 | ⟨_, k, hk, hT, h1⟩)
    · exact ⟨hs, e + 1, by omega, by omega, h1⟩
    · exact ⟨hs, k, by omega, hT, h1⟩
theorem Way.no {P T : List UInt8} {p t e : Nat} (h : Way P T p t 0 e) (ht : t < T.length) (hn : p = P.length ∨ ∃ c b, P[p]? = some c ∧ T[t]? = some b ∧ c ≠ 42 ∧ c ≠ 63 ∧ c ≠ b) : glB P T = false :=
  glB_f fun hh => ((h.dead ht hn).1 hh).1 rfl
theorem Way.done {P T : List UInt8} {p s1 e : Nat} (h : Way P T p T.length s1 e) : Fit P T ↔ ∀ c ∈ P.drop p, c = 42 := by
  rw [h.iff, List.drop_length, fit_to_nil]
  refine ⟨fun hh => hh.resolve_right ?_, Or.inl⟩
  rintro ⟨hs, k, hk, hT, h1⟩
  obtain ⟨h2, h3, _⟩ := h.later hs hk hT h1
  omega
end Go.Proofs.YtkppgjndmbbobaaGreatDoor
