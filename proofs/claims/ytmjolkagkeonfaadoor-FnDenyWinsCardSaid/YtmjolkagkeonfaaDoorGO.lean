import Derived.Test.YtmjolkagkeonfaaDoorProg
import Derived.Test.YtmjolkagkeonfaaDoorBase
import Derived.BigQuiet
import Derived.Deep.QuietTactic
import Derived.Deep.RegionWith
namespace Go.Proofs.YtmjolkagkeonfaaDoor
/-! Patterns: what a pattern fits; the rows of the specification's table; the program's greedy way. -/
inductive Fit : List UInt8 → List UInt8 → Prop
  | nil : Fit [] []
  | star0 {p t : List UInt8} : Fit p t → Fit (42 :: p) t
  | star1 {p t : List UInt8} {b : UInt8} : Fit (42 :: p) t → Fit (42 :: p) (b :: t)
  | one {p t : List UInt8} {c b : UInt8} : c ≠ 42 → (c = 63 ∨ c = b) → Fit p t → Fit (c :: p) (b :: t)
theorem fit_nil {t : List UInt8} : Fit [] t ↔ t = [] := ⟨fun h => by cases h; rfl, fun h => by subst h; exact .nil⟩
theorem fit_star {p : List UInt8} : ∀ {t : List UInt8}, Fit (42 :: p) t ↔ ∃ k, k ≤ t.length ∧ Fit p (t.drop k)
  | [] => ⟨fun h => by
      cases h with
      | star0 h => exact ⟨0, Nat.le_refl _, h⟩, fun ⟨k, hk, h⟩ => by
      have : k = 0 := by simpa using hk
      subst this; exact .star0 h⟩
  | b :: t => ⟨fun h => by
      cases h with
      | star0 h => exact ⟨0, Nat.zero_le _, h⟩
      | star1 h =>
        obtain ⟨k, hk, h⟩ := fit_star.1 h
        exact ⟨k + 1, by simp; omega, h⟩
      | one h => exact absurd rfl h, fun ⟨k, hk, h⟩ => by
      cases k with
      | zero => exact .star0 h
      | succ k => exact .star1 (fit_star.2 ⟨k, by simpa using hk, h⟩)⟩
theorem fit_one {c : UInt8} {p t : List UInt8} (hc : c ≠ 42) : Fit (c :: p) t ↔ ∃ b t', t = b :: t' ∧ (c = 63 ∨ c = b) ∧ Fit p t' :=
  ⟨fun h => by
    cases h with
    | star0 h => exact absurd rfl hc
    | star1 h => exact absurd rfl hc
    | one _ h1 h2 => exact ⟨_, _, rfl, h1, h2⟩, fun ⟨b, t', e, h1, h2⟩ => by subst e; exact .one hc h1 h2⟩
theorem fit_append {q : List UInt8} : ∀ {p t : List UInt8}, Fit (p ++ q) t ↔ ∃ k, k ≤ t.length ∧ Fit p (t.take k) ∧ Fit q (t.drop k)
  | [], t => ⟨fun h => ⟨0, Nat.zero_le _, by simpa using Fit.nil, by simpa using h⟩, fun ⟨k, hk, h1, h2⟩ => by
      have h3 := fit_nil.1 h1
      have h4 : k = 0 ∨ t = [] := by
        cases t with
        | nil => exact Or.inr rfl
        | cons b t => cases k with
          | zero => exact Or.inl rfl
          | succ k => simp at h3
      rcases h4 with rfl | rfl
      · simpa using h2
      · simpa using h2⟩
  | c :: p, t => by
    by_cases hc : c = 42
    · subst hc
      rw [List.cons_append, fit_star]
      constructor
      · rintro ⟨k, hk, h⟩
        obtain ⟨m, hm, h1, h2⟩ := fit_append.1 h
        rw [List.length_drop] at hm
        refine ⟨k + m, by omega, fit_star.2 ⟨k, by rw [List.length_take]; omega, ?_⟩, by rwa [List.drop_drop] at h2⟩
        rw [List.drop_take, show k + m - k = m by omega]; exact h1
      · rintro ⟨k, hk, h1, h2⟩
        obtain ⟨m, hm, h1⟩ := fit_star.1 h1
        rw [List.length_take] at hm
        refine ⟨m, by omega, fit_append.2 ⟨k - m, by rw [List.length_drop]; omega, ?_, ?_⟩⟩
        · rw [List.drop_take] at h1; exact h1
        · rw [List.drop_drop, show m + (k - m) = k by omega]; exact h2
    · rw [List.cons_append, fit_one hc]
      constructor
      · rintro ⟨b, t', rfl, h1, h2⟩
        obtain ⟨k, hk, h3, h4⟩ := fit_append.1 h2
        exact ⟨k + 1, by simp; omega, .one hc h1 h3, h4⟩
      · rintro ⟨k, hk, h1, h2⟩
        obtain ⟨b, t', e, h3, h4⟩ := (fit_one hc).1 h1
        cases t with
        | nil => simp at e
        | cons b0 t0 =>
          cases k with
          | zero => simp at e
          | succ k =>
            rw [List.take_succ_cons] at e
            injection e with e1 e2
            subst e1; subst e2
            exact ⟨_, _, rfl, h3, fit_append.2 ⟨k, by simpa using hk, h4, h2⟩⟩
theorem fit_to_nil : ∀ {q : List UInt8}, Fit q [] ↔ ∀ c ∈ q, c = 42
  | [] => ⟨fun _ c hc => by simp at hc, fun _ => .nil⟩
  | c :: q => by
    constructor
    · intro h
      cases h with
      | star0 h => intro x hx; rcases List.mem_cons.1 hx with rfl | hx; rfl; exact fit_to_nil.1 h x hx
    · intro h
      have := h c (by simp); subst this
      exact .star0 (fit_to_nil.2 fun x hx => h x (by simp [hx]))
theorem fit_seg {q : List UInt8} : ∀ {s t : List UInt8}, (∀ c ∈ s, c ≠ 42) → Fit (s ++ q) t → s.length ≤ t.length ∧ Fit q (t.drop s.length)
  | [], t, _, h => ⟨Nat.zero_le _, by simpa using h⟩
  | c :: s, t, hs, h => by
    obtain ⟨b, t', rfl, _, h2⟩ := (fit_one (hs c (by simp))).1 h
    obtain ⟨h3, h4⟩ := fit_seg (fun x hx => hs x (by simp [hx])) h2
    exact ⟨by simp; omega, h4⟩
open Classical in
/-- whether a pattern fits -/
noncomputable def glB (p t : List UInt8) : Bool := decide (Fit p t)
theorem glB_t {p t : List UInt8} (h : Fit p t) : glB p t = true := by unfold glB; simpa using h
theorem glB_f {p t : List UInt8} (h : ¬ Fit p t) : glB p t = false := by unfold glB; simpa using h
theorem glB_iff {p t : List UInt8} : glB p t = true ↔ Fit p t := by unfold glB; simp
/-- a row of the specification's table -/
noncomputable def canB (P T : List UInt8) (i j : Nat) : Bool := glB (P.take i) (T.take j)
open Classical in
/-- whether some place below j can be reached -/
noncomputable def someB (P T : List UInt8) (i j : Nat) : Bool := decide (∃ m, m < j ∧ canB P T i m = true)
theorem some_zero (P T : List UInt8) (i : Nat) : someB P T i 0 = false := by unfold someB; simp
theorem some_next (P T : List UInt8) (i j : Nat) : someB P T i (j + 1) = (someB P T i j || canB P T i j) := by
  unfold someB
  cases h : canB P T i j with
  | true => simp; exact ⟨j, by omega, h⟩
  | false =>
    rw [Bool.or_false]
    congr 1
    apply propext
    refine ⟨fun ⟨m, hm, h1⟩ => ⟨m, ?_, h1⟩, fun ⟨m, hm, h1⟩ => ⟨m, by omega, h1⟩⟩
    rcases Nat.lt_or_ge m j with h2 | h2
    · exact h2
    · have : m = j := by omega
      subst this; rw [h] at h1; exact Bool.noConfusion h1
theorem can_zero (P T : List UInt8) (j : Nat) (hj : j ≤ T.length) : canB P T 0 j = decide (j = 0) := by
  unfold canB
  rw [List.take_zero]
  by_cases h : j = 0
  · subst h; rw [glB_t (by simpa using Fit.nil)]; simp
  · rw [glB_f (by
      rw [fit_nil]; intro e
      have := congrArg List.length e
      rw [List.length_take, List.length_nil] at this; omega)]
    simp [h]
theorem can_star (P T : List UInt8) (i j : Nat) (hi : P[i]? = some 42) (hj : j ≤ T.length) : canB P T (i + 1) j = someB P T i (j + 1) := by
  have e1 : P.take (i + 1) = P.take i ++ [42] := by rw [List.take_add_one, hi]; rfl
  unfold canB someB
  rw [e1]
  unfold glB
  congr 1
  apply propext
  rw [fit_append]
  constructor
  · rintro ⟨k, hk, h1, h2⟩
    rw [List.length_take] at hk
    refine ⟨k, by omega, ?_⟩
    unfold canB
    rw [List.take_take, Nat.min_eq_left (by omega)] at h1
    exact glB_t h1
  · rintro ⟨m, hm, h⟩
    refine ⟨m, by rw [List.length_take]; omega, ?_, ?_⟩
    · rw [List.take_take, Nat.min_eq_left (by omega)]; exact glB_iff.1 h
    · exact fit_star.2 ⟨_, Nat.le_refl _, by rw [List.drop_length]; exact .nil⟩
theorem can_first (P T : List UInt8) (i : Nat) (c : UInt8) (hi : P[i]? = some c) (hc : c ≠ 42) : canB P T (i + 1) 0 = false := by
  have e1 : P.take (i + 1) = P.take i ++ [c] := by rw [List.take_add_one, hi]; rfl
  unfold canB
  rw [e1, List.take_zero]
  apply glB_f
  rw [fit_append]
  rintro ⟨k, hk, h1, h2⟩
  obtain ⟨b, t', e, _⟩ := (fit_one hc).1 h2
  simp at e
theorem can_one (P T : List UInt8) (i j : Nat) (c b : UInt8) (hi : P[i]? = some c) (hc : c ≠ 42) (hj : T[j]? = some b) :
    canB P T (i + 1) (j + 1) = (canB P T i j && (decide (c = 63) || decide (c = b))) := by
  have e1 : P.take (i + 1) = P.take i ++ [c] := by rw [List.take_add_one, hi]; rfl
  have hl : j < T.length := (List.getElem?_eq_some_iff.1 hj).1
  have e2 : T.take (j + 1) = T.take j ++ [b] := by rw [List.take_add_one, hj]; rfl
  have hlen : (T.take j).length = j := by rw [List.length_take]; omega
  have key : Fit (P.take i ++ [c]) (T.take j ++ [b]) ↔ Fit (P.take i) (T.take j) ∧ (c = 63 ∨ c = b) := by
    rw [fit_append]
    constructor
    · rintro ⟨k, hk, h1, h2⟩
      obtain ⟨b', t', e, h3, h4⟩ := (fit_one hc).1 h2
      rw [fit_nil] at h4; subst h4
      have h5 := congrArg List.length e
      rw [List.length_drop, List.length_append, hlen] at h5
      simp at h5
      have h6 : k = j := by omega
      subst h6
      rw [List.drop_append_of_le_length (by omega), List.drop_of_length_le (by omega)] at e
      simp at e; subst e
      rw [List.take_append_of_le_length (by omega), List.take_of_length_le (l := T.take k) (by omega)] at h1
      exact ⟨h1, h3⟩
    · rintro ⟨h1, h2⟩
      refine ⟨j, by simp; omega, ?_, ?_⟩
      · rw [List.take_append_of_le_length (by omega), List.take_of_length_le (l := T.take j) (by omega)]; exact h1
      · rw [List.drop_append_of_le_length (by omega), List.drop_of_length_le (by omega)]; exact .one hc h2 .nil
  unfold canB
  rw [e1, e2]
  by_cases h : Fit (P.take i) (T.take j) ∧ (c = 63 ∨ c = b)
  · rw [glB_t (key.2 h), glB_t h.1]
    rcases h.2 with h | h <;> simp [h]
  · rw [glB_f (fun hh => h (key.1 hh))]
    by_cases h1 : Fit (P.take i) (T.take j)
    · have h2 : ¬ (c = 63 ∨ c = b) := fun hh => h ⟨h1, hh⟩
      have h3 : c ≠ 63 := fun e => h2 (Or.inl e)
      have h4 : c ≠ b := fun e => h2 (Or.inr e)
      simp [h3, h4]
    · rw [glB_f h1]; rfl
theorem can_all (P T : List UInt8) : canB P T P.length T.length = glB P T := by unfold canB; rw [List.take_length, List.take_length]
/-! The greedy way: p, t where it stands; s1: 0 where no star was met, else the place behind the last one; e: where that star ends. -/
structure Way (P T : List UInt8) (p t s1 e : Nat) : Prop where
  p_le : p ≤ P.length
  t_le : t ≤ T.length
  e_le : e ≤ t
  s_le : s1 ≤ p
  same : s1 ≠ 0 → p - s1 = t - e
  none : s1 = 0 → e = 0
  plain : s1 ≠ 0 → ∀ c ∈ (P.drop s1).take (p - s1), c ≠ 42
  iff : Fit P T ↔ Fit (P.drop p) (T.drop t) ∨ (s1 ≠ 0 ∧ ∃ k, e < k ∧ k ≤ T.length ∧ Fit (P.drop s1) (T.drop k))
theorem way_start (P T : List UInt8) : Way P T 0 0 0 0 :=
  ⟨Nat.zero_le _, Nat.zero_le _, Nat.le_refl _, Nat.le_refl _, fun h => absurd rfl h, fun _ => rfl, fun h => absurd rfl h, by simp⟩
theorem drop_at {l : List UInt8} {i : Nat} {c : UInt8} (h : l[i]? = some c) : l.drop i = c :: l.drop (i + 1) := by
  have hl : i < l.length := (List.getElem?_eq_some_iff.1 h).1
  rw [List.drop_eq_getElem_cons hl]
  congr 1
  exact (List.getElem?_eq_some_iff.1 h).2
/-- what a fit from the last star on, later, says of the place where one stands -/
theorem Way.later {P T : List UInt8} {p t s1 e : Nat} (h : Way P T p t s1 e) (hs : s1 ≠ 0) {k : Nat} (hk : e < k) (hT : k ≤ T.length) (hf : Fit (P.drop s1) (T.drop k)) :
    k + (p - s1) ≤ T.length ∧ t < k + (p - s1) ∧ Fit (P.drop p) (T.drop (k + (p - s1))) := by
  have h1 := h.same hs
  have h2 := h.s_le; have h3 := h.e_le; have h4 := h.p_le
  have e1 : P.drop s1 = (P.drop s1).take (p - s1) ++ P.drop p := by
    conv => lhs; rw [← List.take_append_drop (p - s1) (P.drop s1)]
    rw [List.drop_drop, show s1 + (p - s1) = p by omega]
  rw [e1] at hf
  obtain ⟨h5, h6⟩ := fit_seg (h.plain hs) hf
  rw [List.length_take, List.length_drop, Nat.min_eq_left (by omega), List.length_drop] at h5
  rw [List.length_take, List.length_drop, Nat.min_eq_left (by omega), List.drop_drop] at h6
  exact ⟨by omega, by omega, h6⟩
theorem Way.star {P T : List UInt8} {p t s1 e : Nat} (h : Way P T p t s1 e) (hp : P[p]? = some 42) : Way P T (p + 1) t (p + 1) t := by
  have hl : p < P.length := (List.getElem?_eq_some_iff.1 hp).1
  refine ⟨by omega, h.t_le, Nat.le_refl _, Nat.le_refl _, fun _ => by omega, fun h => by omega, fun _ c hc => by simp at hc, ?_⟩
  have hd : P.drop p = 42 :: P.drop (p + 1) := drop_at hp
  have key : Fit (P.drop p) (T.drop t) ↔ Fit (P.drop (p + 1)) (T.drop t) ∨ (p + 1 ≠ 0 ∧ ∃ k, t < k ∧ k ≤ T.length ∧ Fit (P.drop (p + 1)) (T.drop k)) := by
    rw [hd, fit_star]
    constructor
    · rintro ⟨k, hk, h1⟩
      rw [List.drop_drop] at h1
      rw [List.length_drop] at hk
      by_cases h0 : k = 0
      · subst h0; exact Or.inl h1
      · exact Or.inr ⟨by omega, t + k, by omega, by have := h.t_le; omega, h1⟩
    · rintro (h1 | ⟨_, k, hk, hT, h1⟩)
      · exact ⟨0, Nat.zero_le _, h1⟩
      · exact ⟨k - t, by rw [List.length_drop]; omega, by rw [List.drop_drop, show t + (k - t) = k by omega]; exact h1⟩
  rw [h.iff, ← key]
  constructor
  · rintro (h1 | ⟨hs, k, hk, hT, h1⟩)
    · exact h1
    · obtain ⟨h2, h3, h4⟩ := h.later hs hk hT h1
      rw [hd, fit_star] at h4 ⊢
      obtain ⟨m, hm, h5⟩ := h4
      rw [List.length_drop] at hm
      rw [List.drop_drop] at h5
      exact ⟨k + (p - s1) + m - t, by rw [List.length_drop]; omega, by rw [List.drop_drop, show t + (k + (p - s1) + m - t) = k + (p - s1) + m by omega]; exact h5⟩
  · exact Or.inl
theorem Way.one {P T : List UInt8} {p t s1 e : Nat} (h : Way P T p t s1 e) {c b : UInt8} (hp : P[p]? = some c) (ht : T[t]? = some b) (hc : c ≠ 42) (hm : c = 63 ∨ c = b) : Way P T (p + 1) (t + 1) s1 e := by
  have hl : p < P.length := (List.getElem?_eq_some_iff.1 hp).1
  have hl2 : t < T.length := (List.getElem?_eq_some_iff.1 ht).1
  have h2 := h.s_le; have h3 := h.e_le
  refine ⟨by omega, by omega, by omega, by omega, fun hs => by have := h.same hs; omega, h.none, fun hs x hx => ?_, ?_⟩
  · rw [show p + 1 - s1 = p - s1 + 1 by omega, List.take_add_one, List.getElem?_drop, show s1 + (p - s1) = p by omega, hp] at hx
    rcases List.mem_append.1 hx with hx | hx
    · exact h.plain hs x hx
    · have : x = c := by simpa using hx
      subst this; exact hc
  · rw [h.iff, drop_at hp, drop_at ht]
    have : Fit (c :: P.drop (p + 1)) (b :: T.drop (t + 1)) ↔ Fit (P.drop (p + 1)) (T.drop (t + 1)) := by
      rw [fit_one hc]
      exact ⟨fun ⟨b', t', e, _, h⟩ => by injection e with e1 e2; rw [e2]; exact h, fun h => ⟨_, _, rfl, hm, h⟩⟩
    rw [this]
/-- nothing fits where one stands -/
theorem Way.dead {P T : List UInt8} {p t s1 e : Nat} (h : Way P T p t s1 e) (ht : t < T.length) (hn : p = P.length ∨ ∃ c b, P[p]? = some c ∧ T[t]? = some b ∧ c ≠ 42 ∧ c ≠ 63 ∧ c ≠ b) :
    Fit P T ↔ (s1 ≠ 0 ∧ ∃ k, e < k ∧ k ≤ T.length ∧ Fit (P.drop s1) (T.drop k)) := by
  rw [h.iff]
  refine ⟨fun hh => hh.resolve_left fun hf => ?_, Or.inr⟩
  rcases hn with rfl | ⟨c, b, hp, hb, h1, h2, h3⟩
  · rw [List.drop_length, fit_nil] at hf
    have := congrArg List.length hf
    rw [List.length_drop] at this; simp at this; omega
  · rw [drop_at hp, drop_at hb, fit_one h1] at hf
    obtain ⟨b', t', e, h4, _⟩ := hf
    injection e with e1 e2
    subst e1
    rcases h4 with h4 | h4
    · exact h2 h4
    · exact h3 h4
theorem Way.back {P T : List UInt8} {p t s1 e : Nat} (h : Way P T p t s1 e) (ht : t < T.length) (hn : p = P.length ∨ ∃ c b, P[p]? = some c ∧ T[t]? = some b ∧ c ≠ 42 ∧ c ≠ 63 ∧ c ≠ b) (hs : s1 ≠ 0) : Way P T s1 (e + 1) s1 (e + 1) := by
  have h2 := h.s_le; have h3 := h.e_le; have h4 := h.p_le
  refine ⟨by omega, by omega, Nat.le_refl _, Nat.le_refl _, fun _ => by omega, fun h => absurd h hs, fun _ c hc => by simp at hc, ?_⟩
  rw [h.dead ht hn]
  constructor
  · rintro ⟨_, k, hk, hT, h1⟩
    by_cases h0 : k = e + 1
    · subst h0; exact Or.inl h1
    · exact Or.inr ⟨hs, k, by omega, hT, h1⟩
  · rintro (h1 | ⟨_, k, hk, hT, h1⟩)
    · exact ⟨hs, e + 1, by omega, by omega, h1⟩
    · exact ⟨hs, k, by omega, hT, h1⟩
theorem Way.no {P T : List UInt8} {p t e : Nat} (h : Way P T p t 0 e) (ht : t < T.length) (hn : p = P.length ∨ ∃ c b, P[p]? = some c ∧ T[t]? = some b ∧ c ≠ 42 ∧ c ≠ 63 ∧ c ≠ b) : glB P T = false :=
  glB_f fun hh => ((h.dead ht hn).1 hh).1 rfl
theorem Way.done {P T : List UInt8} {p s1 e : Nat} (h : Way P T p T.length s1 e) : Fit P T ↔ ∀ c ∈ P.drop p, c = 42 := by
  rw [h.iff, List.drop_length, fit_to_nil]
  refine ⟨fun hh => hh.resolve_right ?_, Or.inl⟩
  rintro ⟨hs, k, hk, hT, h1⟩
  obtain ⟨h2, h3, _⟩ := h.later hs hk hT h1
  omega
end Go.Proofs.YtmjolkagkeonfaaDoor
namespace Go.Proofs.YtmjolkagkeonfaaDoor
open Go.RowKit
/-! strings.Trim of stars. -/
def szV : Value → Nat
  | .string t => t.size
  | _ => 0
/-- what is left when the stars behind are gone -/
def RT (s t : ByteArray) : Prop := ∃ k, t.data.toList = s.data.toList.take k ∧ (∀ c ∈ s.data.toList.drop k, c = 42) ∧ (∀ h : 0 < t.size, t[t.size - 1] ≠ 42)
/-- what is left when the stars ahead are gone -/
def LT (s t : ByteArray) : Prop := ∃ k, t.data.toList = s.data.toList.drop k ∧ (∀ c ∈ s.data.toList.take k, c = 42) ∧ (∀ h : 0 < t.size, t[0] ≠ 42)
theorem baLen (b : ByteArray) : b.data.toList.length = b.size := by simp
theorem ba0 {b : ByteArray} (h : b.size = 0) : b = ⟨#[]⟩ := by
  cases b with
  | mk d => congr 1; exact Array.eq_empty_of_size_eq_zero h
theorem baTl (a : ByteArray) : a.toList = a.data.toList := ByteArray.toList_eq ..
theorem ext_take (t : ByteArray) (n : Nat) : (t.extract 0 n).data.toList = t.data.toList.take n := by
  rw [ByteArray.data_extract]; simp
theorem ext_drop (t : ByteArray) (n : Nat) : (t.extract n t.size).data.toList = t.data.toList.drop n := by
  rw [ByteArray.data_extract]
  simp
  rw [List.take_of_length_le]
  simp
theorem u8_eq {x c : UInt8} {k : Int} (hk : (c.toNat : Int) = k) : (x.toNat : Int) = k ↔ x = c :=
  ⟨fun h => UInt8.toNat_inj.1 (by omega), fun h => by rw [h]; exact hk⟩
theorem ba_at (t : ByteArray) (n : Nat) (h : n < t.size) : t.data.toList[n]? = some (t[n]'h) := by
  rw [Array.getElem?_toList]
  exact Array.getElem?_eq_getElem (by exact h)
set_option maxRecDepth 20000 in
set_option maxHeartbeats 1000000 in
theorem iTrimR (s : ByteArray) (hs : s.size ≤ 1099511627776) (w : World) :
    Calls Tryd.prog 49 #[.string s, .int .u8 42] w fun e w' => (∃ t, e = .returned (.string t) ∧ RT s t) ∧ w' = w := by
  go_enter Tryd.func49, Tryd.ntmps49
  go_wp2
  go_loop [0] (fun v => ∃ (t : ByteArray) (k : Nat), v = .string t ∧ t.size ≤ 1099511627776 ∧ t.data.toList = s.data.toList.take k ∧ ∀ c ∈ s.data.toList.drop k, c = 42) (fun v => szV v)
  case atStart => exact ⟨s, s.size, rfl, hs, by rw [List.take_of_length_le]; simp, fun c hc => by rw [List.drop_of_length_le (by simp)] at hc; cases hc⟩
  case round =>
    obtain ⟨t, k, rfl, ht, h1, h2⟩ := hrel
    have H1 := hid h1
    have H2 := hid h2
    clear h1 h2
    by_cases h0 : 0 < t.size
    · obtain ⟨n, hn⟩ : ∃ n, t.size = n + 1 := ⟨t.size - 1, by omega⟩
      have e1 : (t.size : Int) - 1 = (n : Int) := by omega
      have e2 : IntKind.i64.wrap (n : Int) = (n : Int) := by rw [IntKind.wrap_i64]; omega
      have hl : n < t.size := by omega
      have HN := hid hn
      clear hn
      by_cases hc : t[n]'hl = 42
      · have c1 : ((t[n]'hl).toNat : Int) = 42 := by rw [hc]; rfl
        have HC := hid hc
        clear hc
        go_wp2
        refine ⟨⟨_, n, rfl, by rw [ByteArray.size_extract]; omega, ?_, ?_⟩, ?_⟩
        · rw [ext_take, H1.out, List.take_take]
          have := congrArg List.length H1.out
          rw [List.length_take, baLen] at this
          rw [Nat.min_eq_left (by have := HN.out; omega)]
        · intro c hx
          have hL := congrArg List.length H1.out
          rw [List.length_take, baLen, baLen] at hL
          have hnn := HN.out
          have e3 : s.data.toList[n]? = some (t[n]'hl) := by
            rw [← ba_at t n hl, H1.out, List.getElem?_take, if_pos (by omega)]
          rw [drop_at e3] at hx
          rcases List.mem_cons.1 hx with rfl | hx
          · exact HC.out
          · refine H2.out c ?_
            rcases Nat.lt_or_ge k (n + 2) with h | h
            · rw [show k = n + 1 by omega]; exact hx
            · rw [show n + 1 = s.size by omega] at hx
              rw [List.drop_of_length_le (by rw [baLen]; exact Nat.le_refl _)] at hx; cases hx
        · show (t.extract 0 n).size < t.size
          rw [ByteArray.size_extract]; omega
      · have c1 : ¬ ((t[n]'hl).toNat : Int) = 42 := fun h => hc ((u8_eq (c := 42) rfl).1 h)
        have HC := hid hc
        clear hc
        go_wp2
        go_ret
        refine ⟨⟨t, rfl, k, H1.out, H2.out, fun h => ?_⟩, rfl⟩
        have : t.size - 1 = n := by have := HN.out; omega
        simp only [this]; exact HC.out
    · have d0 : ¬ (0 : Int) < (t.size : Int) := by omega
      go_wp2
      go_ret
      exact ⟨⟨t, rfl, k, H1.out, H2.out, fun h => absurd h h0⟩, rfl⟩
set_option maxRecDepth 20000 in
set_option maxHeartbeats 1000000 in
theorem iTrimL (s : ByteArray) (hs : s.size ≤ 1099511627776) (w : World) :
    Calls Tryd.prog 48 #[.string s, .int .u8 42] w fun e w' => (∃ t, e = .returned (.string t) ∧ LT s t) ∧ w' = w := by
  go_enter Tryd.func48, Tryd.ntmps48
  go_wp2
  go_loop [0] (fun v => ∃ (t : ByteArray) (k : Nat), v = .string t ∧ t.size ≤ 1099511627776 ∧ t.data.toList = s.data.toList.drop k ∧ ∀ c ∈ s.data.toList.take k, c = 42) (fun v => szV v)
  case atStart => exact ⟨s, 0, rfl, hs, rfl, fun c hc => by cases hc⟩
  case round =>
    obtain ⟨t, k, rfl, ht, h1, h2⟩ := hrel
    have H1 := hid h1
    have H2 := hid h2
    clear h1 h2
    by_cases h0 : 0 < t.size
    · by_cases hc : t[0]'h0 = 42
      · have c1 : ((t[0]'h0).toNat : Int) = 42 := by rw [hc]; rfl
        have HC := hid hc
        clear hc
        go_wp2
        refine ⟨⟨_, k + 1, rfl, by rw [ByteArray.size_extract]; omega, ?_, ?_⟩, ?_⟩
        · rw [ext_drop, H1.out, List.drop_drop]
        · intro c hx
          have e3 : s.data.toList[k]? = some (t[0]'h0) := by
            rw [← ba_at t 0 h0, H1.out, List.getElem?_drop]; rfl
          rw [List.take_add_one, e3] at hx
          rcases List.mem_append.1 hx with hx | hx
          · exact H2.out c hx
          · have : c = t[0]'h0 := by simpa using hx
            rw [this]; exact HC.out
        · show (t.extract 1 t.size).size < t.size
          rw [ByteArray.size_extract]; omega
      · have c1 : ¬ ((t[0]'h0).toNat : Int) = 42 := fun h => hc ((u8_eq (c := 42) rfl).1 h)
        have HC := hid hc
        clear hc
        go_wp2
        go_ret
        exact ⟨⟨t, rfl, k, H1.out, H2.out, fun h => HC.out⟩, rfl⟩
    · have d0 : ¬ (0 : Int) < (t.size : Int) := by omega
      go_wp2
      go_ret
      exact ⟨⟨t, rfl, k, H1.out, H2.out, fun h => absurd h h0⟩, rfl⟩
theorem iTrimRz (s : ByteArray) (hs : s.size ≤ 1099511627776) (z : Int) (hz : z = 42) (w : World) :
    Calls Tryd.prog 49 #[.string s, .int .u8 z] w fun e w' => (∃ t, e = .returned (.string t) ∧ RT s t) ∧ w' = w := by subst hz; exact iTrimR s hs w
theorem iTrimLz (s : ByteArray) (hs : s.size ≤ 1099511627776) (z : Int) (hz : z = 42) (w : World) :
    Calls Tryd.prog 48 #[.string s, .int .u8 z] w fun e w' => (∃ t, e = .returned (.string t) ∧ LT s t) ∧ w' = w := by subst hz; exact iTrimL s hs w
theorem rt_le {s t : ByteArray} (h : RT s t) : t.size ≤ s.size := by
  obtain ⟨k, h1, _⟩ := h
  have := congrArg List.length h1
  rw [List.length_take, baLen, baLen] at this; omega
/-- nothing is left exactly if there were stars alone -/
theorem trim_iff {s t u : ByteArray} (h1 : RT s t) (h2 : LT t u) : u.size = 0 ↔ ∀ c ∈ s.data.toList, c = 42 := by
  obtain ⟨k, a1, a2, a3⟩ := h1
  obtain ⟨m, b1, b2, b3⟩ := h2
  have hm : ∀ c ∈ t.data.toList, c ∈ s.data.toList := fun c hc => by rw [a1] at hc; exact List.mem_of_mem_take hc
  constructor
  · intro h0 c hc
    rw [← List.take_append_drop k s.data.toList, ← a1] at hc
    rcases List.mem_append.1 hc with hc | hc
    · rw [← List.take_append_drop m t.data.toList, ← b1] at hc
      rcases List.mem_append.1 hc with hc | hc
      · exact b2 c hc
      · have : u.data.toList = [] := List.length_eq_zero_iff.1 (by rw [baLen]; exact h0)
        rw [this] at hc; cases hc
    · exact a2 c hc
  · intro h
    rcases Nat.eq_zero_or_pos u.size with h0 | h0
    · exact h0
    · exfalso
      refine b3 h0 (h _ (hm _ ?_))
      have : u[0]'h0 ∈ u.data.toList := List.mem_of_getElem? (ba_at u 0 h0)
      rw [b1] at this; exact List.mem_of_mem_drop this
set_option maxRecDepth 20000 in
set_option maxHeartbeats 1000000 in
theorem iTrim (s : ByteArray) (hs : s.size ≤ 1099511627776) (w : World) :
    Calls Tryd.prog 43 #[.string s, .string ⟨#[42]⟩] w fun e w' => (∃ u : ByteArray, e = .returned (.string u) ∧ (u.size = 0 ↔ ∀ c ∈ s.data.toList, c = 42)) ∧ ∃ n, w' = w.drewN n := by
  by_cases h0 : s.size = 0
  · have e0 : s = ⟨#[]⟩ := ba0 h0
    subst e0
    go_enter Tryd.func43, Tryd.ntmps43
    go_wp2
    go_ret
    refine ⟨⟨_, rfl, ?_⟩, 0, rfl⟩
    exact ⟨fun _ c hc => (by cases hc), fun _ => rfl⟩
  · have hne := hid h0
    have e0 : ¬ s.toList = [] := fun e => h0 (by rw [← baLen, ← baTl, e]; rfl)
    have e1 : s.toList.isEmpty = false := by cases h : s.toList with
      | nil => exact absurd h e0
      | cons _ _ => rfl
    have x1 : (((⟨#[42]⟩ : ByteArray)[0]'(by decide)).toNat : Int) < 128 := by decide
    clear h0
    go_enter Tryd.func43, Tryd.ntmps43
    go_wp2_with fail
    go_region_with (first | (go_at_call 49; refine (iTrimRz s hs _ (by decide) _).mono ?_; rintro e w2 ⟨⟨t, rfl, h1⟩, rfl⟩; have H1 := hid h1; clear h1) | (go_at_call 48; refine (iTrimLz t (Nat.le_trans (rt_le H1.out) hs) _ (by decide) _).mono ?_; rintro e w2 ⟨⟨u, rfl, h2⟩, rfl⟩; have H2 := hid h2; clear h2))
    all_goals go_wp2
    all_goals go_ret
    all_goals exact ⟨⟨u, rfl, trim_iff H1.out H2.out⟩, _, rfl⟩
end Go.Proofs.YtmjolkagkeonfaaDoor
namespace Go.Proofs.YtmjolkagkeonfaaDoor
open Go.RowKit
/-! The program's GlobFits. -/
noncomputable def globV (p t : ByteArray) : Bool := decide (p.size ≤ 200 ∧ t.size ≤ 2000) && glB p.data.toList t.data.toList
theorem glob_no {p t : ByteArray} (h : ¬ (p.size ≤ 200 ∧ t.size ≤ 2000)) : globV p t = false := by unfold globV; simp only [h]; rfl
theorem glob_in {p t : ByteArray} (h1 : p.size ≤ 200) (h2 : t.size ≤ 2000) : globV p t = glB p.data.toList t.data.toList := by unfold globV; simp [h1, h2]
theorem meas1 {t p e e' x : Nat} (h : e ≤ e') (hx : x < p) : (t + 1 - e') * (p + 1) + (p - (x + 1)) < (t + 1 - e) * (p + 1) + (p - x) := by
  have := Nat.mul_le_mul_right (p + 1) (show t + 1 - e' ≤ t + 1 - e by omega)
  omega
theorem meas2 {t p e x s : Nat} (h : e < t) : (t + 1 - (e + 1)) * (p + 1) + (p - s) < (t + 1 - e) * (p + 1) + (p - x) := by
  rw [show t + 1 - e = (t + 1 - (e + 1)) + 1 by omega, Nat.add_mul, Nat.one_mul]
  omega
theorem vi (a b : Int) (h : a = b) : Value.int .i64 a = .int .i64 b := by rw [h]
theorem glB_all {P T : List UInt8} {x s e : Nat} (h : Way P T x T.length s e) (hs : ∀ c ∈ P.drop x, c = 42) : glB P T = true := glB_t (h.done.2 hs)
theorem glB_none {P T : List UInt8} {x s e : Nat} (h : Way P T x T.length s e) (hs : ¬ ∀ c ∈ P.drop x, c = 42) : glB P T = false := glB_f (fun hh => hs (h.done.1 hh))
set_option maxRecDepth 20000 in
set_option maxHeartbeats 2000000 in
theorem iGlob (p t : ByteArray) (hp : p.size ≤ 1099511627776) (ht : t.size ≤ 1099511627776) (w : World) :
    Calls Tryd.prog 37 #[.string p, .string t] w fun e w' => e = .returned (.bool (globV p t)) ∧ ∃ n, w' = w.drewN n := by
  by_cases h1 : p.size ≤ 200
  · by_cases h2 : t.size ≤ 2000
    · rw [glob_in h1 h2]
      obtain ⟨P, hP⟩ : ∃ P, p.data.toList = P := ⟨_, rfl⟩
      obtain ⟨T, hT⟩ : ∃ T, t.data.toList = T := ⟨_, rfl⟩
      rw [hP, hT]
      have hPl : P.length = p.size := by rw [← hP, baLen]
      have hTl : T.length = t.size := by rw [← hT, baLen]
      have HPL := hid hPl
      have HTL := hid hTl
      have AP : Hid (∀ i (h : i < p.size), P[i]? = some (p[i]'h)) := fun i h => by rw [← hP]; exact ba_at p i h
      have AT : Hid (∀ i (h : i < t.size), T[i]? = some (t[i]'h)) := fun i h => by rw [← hT]; exact ba_at t i h
      have HP := hid hP
      clear hP hT hPl hTl
      have d1 : ¬ (200 : Int) < (p.size : Int) := by omega
      have d2 : ¬ (2000 : Int) < (t.size : Int) := by omega
      go_enter Tryd.func37, Tryd.ntmps37
      go_wp2
      clear d1 d2
      go_loopw [5, 6, 7, 8] (fun a b c d wr => ∃ x y s e n : Nat, Way P T x y s e ∧ a = .int .i64 (x : Int) ∧ b = .int .i64 (y : Int) ∧ c = .int .i64 ((s : Int) - 1) ∧ d = .int .i64 (e : Int) ∧ wr = w.drewN n) (fun a _ _ d _ => (t.size + 1 - (intOf d).toNat) * (p.size + 1) + (p.size - (intOf a).toNat))
      case atStart => exact ⟨0, 0, 0, 0, 0, way_start P T, rfl, rfl, rfl, rfl, rfl⟩
      case round =>
        obtain ⟨x, y, s, e, n, hw, rfl, rfl, rfl, rfl, rfl⟩ := hrel
        have hx : x ≤ p.size := by rw [← HPL.out]; exact hw.p_le
        have hy : y ≤ t.size := by rw [← HTL.out]; exact hw.t_le
        have he : e ≤ y := hw.e_le
        have hsx : s ≤ x := hw.s_le
        have HW := hid hw
        clear hw
        by_cases ty : y < t.size
        · have d3 : (y : Int) < (t.size : Int) := by omega
          have HTY : Hid (y < T.length) := by show _ < _; rw [HTL.out]; exact ty
          have at2 := hid (AT.out y ty)
          by_cases px : x < p.size
          · have d4 : (x : Int) < (p.size : Int) := by omega
            have ap2 := hid (AP.out x px)
            by_cases c42 : p[x]'px = 42
            · have q1 : ((p[x]'px).toNat : Int) = 42 := (u8_eq (c := 42) rfl).2 c42
              have W1 := hid (HW.out.star (by rw [ap2.out, c42]))
              clear c42
              go_wp2
              refine ⟨⟨x + 1, y, x + 1, y, n, W1.out, vi _ _ (by omega), rfl, vi _ _ (by omega), rfl, rfl⟩, ?_⟩
              show (t.size + 1 - (y : Int).toNat) * (p.size + 1) + (p.size - ((x : Int) + 1).toNat) < (t.size + 1 - (e : Int).toNat) * (p.size + 1) + (p.size - (x : Int).toNat)
              rw [show ((x : Int) + 1).toNat = x + 1 by omega]
              exact meas1 he px
            · have q1 : ¬ ((p[x]'px).toNat : Int) = 42 := fun h => c42 ((u8_eq (c := 42) rfl).1 h)
              by_cases c63 : p[x]'px = 63
              · have q2 : ((p[x]'px).toNat : Int) = 63 := (u8_eq (c := 63) rfl).2 c63
                have W1 := hid (HW.out.one ap2.out at2.out c42 (Or.inl c63))
                clear c42 c63
                go_wp2
                go_quiet (fail)
                go_wp2
                refine ⟨⟨x + 1, y + 1, s, e, _, W1.out, vi _ _ (by omega), vi _ _ (by omega), rfl, rfl, rfl⟩, ?_⟩
                show (t.size + 1 - (e : Int).toNat) * (p.size + 1) + (p.size - ((x : Int) + 1).toNat) < (t.size + 1 - (e : Int).toNat) * (p.size + 1) + (p.size - (x : Int).toNat)
                rw [show ((x : Int) + 1).toNat = x + 1 by omega]
                exact meas1 (Nat.le_refl _) px
              · have q2 : ¬ ((p[x]'px).toNat : Int) = 63 := fun h => c63 ((u8_eq (c := 63) rfl).1 h)
                by_cases cb : p[x]'px = t[y]'ty
                · have q3 : ((p[x]'px).toNat : Int) = ((t[y]'ty).toNat : Int) := by rw [cb]
                  have q4 : ¬ ((t[y]'ty).toNat : Int) = 42 := by rw [← q3]; exact q1
                  have q5 : ¬ ((t[y]'ty).toNat : Int) = 63 := by rw [← q3]; exact q2
                  have W1 := hid (HW.out.one ap2.out at2.out c42 (Or.inr cb))
                  clear c42 c63 cb
                  go_wp2
                  go_quiet (fail)
                  go_wp2
                  refine ⟨⟨x + 1, y + 1, s, e, _, W1.out, vi _ _ (by omega), vi _ _ (by omega), rfl, rfl, rfl⟩, ?_⟩
                  show (t.size + 1 - (e : Int).toNat) * (p.size + 1) + (p.size - ((x : Int) + 1).toNat) < (t.size + 1 - (e : Int).toNat) * (p.size + 1) + (p.size - (x : Int).toNat)
                  rw [show ((x : Int) + 1).toNat = x + 1 by omega]
                  exact meas1 (Nat.le_refl _) px
                · have q3 : ¬ ((p[x]'px).toNat : Int) = ((t[y]'ty).toNat : Int) := fun h => cb ((u8_eq rfl).1 h)
                  have q4 : (((p[x]'px).toNat : Int) == ((t[y]'ty).toNat : Int)) = false := by simpa using q3
                  have q5 : ¬ (p[x]'px).toNat = (t[y]'ty).toNat := fun h => q3 (by rw [h])
                  have q6 : ¬ p[x]'px = t[y]'ty := cb
                  have D : Hid (x = P.length ∨ ∃ c b, P[x]? = some c ∧ T[y]? = some b ∧ c ≠ 42 ∧ c ≠ 63 ∧ c ≠ b) := Or.inr ⟨_, _, ap2.out, at2.out, c42, c63, cb⟩
                  clear c42 c63 cb
                  by_cases s0 : s = 0
                  · subst s0
                    have N := hid (HW.out.no HTY.out D.out)
                    go_wp2
                    go_quiet (fail)
                    go_wp2
                    go_ret
                    exact ⟨by rw [N.out]; rfl, _, rfl⟩
                  · have W1 := hid (HW.out.back HTY.out D.out s0)
                    have d5 : (0 : Int) ≤ (s : Int) - 1 := by omega
                    go_wp2
                    go_quiet (fail)
                    go_wp2
                    refine ⟨⟨s, e + 1, s, e + 1, _, W1.out, vi _ _ (by omega), vi _ _ (by omega), rfl, vi _ _ (by omega), rfl⟩, ?_⟩
                    show (t.size + 1 - ((e : Int) + 1).toNat) * (p.size + 1) + (p.size - (s : Int).toNat) < (t.size + 1 - (e : Int).toNat) * (p.size + 1) + (p.size - (x : Int).toNat)
                    rw [show ((e : Int) + 1).toNat = e + 1 by omega]
                    exact meas2 (by omega)
          · have d4 : ¬ (x : Int) < (p.size : Int) := by omega
            have D : Hid (x = P.length ∨ ∃ c b, P[x]? = some c ∧ T[y]? = some b ∧ c ≠ 42 ∧ c ≠ 63 ∧ c ≠ b) := Or.inl (by rw [HPL.out]; omega)
            by_cases s0 : s = 0
            · subst s0
              have N := hid (HW.out.no HTY.out D.out)
              go_wp2
              go_quiet (fail)
              go_wp2
              go_ret
              exact ⟨by rw [N.out]; rfl, _, rfl⟩
            · have W1 := hid (HW.out.back HTY.out D.out s0)
              have d5 : (0 : Int) ≤ (s : Int) - 1 := by omega
              go_wp2
              go_quiet (fail)
              go_wp2
              refine ⟨⟨s, e + 1, s, e + 1, _, W1.out, vi _ _ (by omega), vi _ _ (by omega), rfl, vi _ _ (by omega), rfl⟩, ?_⟩
              show (t.size + 1 - ((e : Int) + 1).toNat) * (p.size + 1) + (p.size - (s : Int).toNat) < (t.size + 1 - (e : Int).toNat) * (p.size + 1) + (p.size - (x : Int).toNat)
              rw [show ((e : Int) + 1).toNat = e + 1 by omega]
              exact meas2 (by omega)
        · have d3 : ¬ (y : Int) < (t.size : Int) := by omega
          have ey := hid (show y = T.length by rw [HTL.out]; omega)
          go_wp2_with fail
          refine (iTrim (p.extract x p.size) (by rw [ByteArray.size_extract]; omega) _).mono ?_
          rintro r w2 ⟨⟨u, rfl, hu⟩, m, rfl⟩
          have ex : (p.extract x p.size).data.toList = P.drop x := by rw [ext_drop, HP.out]
          rw [ex] at hu
          have HU := hid hu
          have WD : Hid (Way P T x T.length s e) := by have := HW.out; rw [ey.out] at this; exact this
          clear hu ex
          by_cases u0 : u.size = 0
          · have N := hid (glB_all WD.out (HU.out.1 u0))
            have e0 : u = ⟨#[]⟩ := ba0 u0
            subst e0
            go_wp2
            go_ret
            exact ⟨by rw [N.out]; rfl, n + m, rfl⟩
          · have N := hid (glB_none WD.out (fun h => u0 (HU.out.2 h)))
            have e0 : ¬ u.toList = [] := fun h => u0 (by rw [← baLen, ← baTl, h]; rfl)
            have e1 : u.toList.isEmpty = false := by cases h : u.toList with
              | nil => exact absurd h e0
              | cons _ _ => rfl
            go_wp2
            go_ret
            exact ⟨by rw [N.out]; rfl, n + m, rfl⟩
    · have d2 : (2000 : Int) < (t.size : Int) := by omega
      have d1 : ¬ (200 : Int) < (p.size : Int) := by omega
      rw [glob_no (fun h => h2 h.2)]
      go_enter Tryd.func37, Tryd.ntmps37
      go_wp2
      go_ret
      exact ⟨rfl, 0, rfl⟩
  · have d1 : (200 : Int) < (p.size : Int) := by omega
    rw [glob_no (fun h => h1 h.1)]
    go_enter Tryd.func37, Tryd.ntmps37
    go_wp2
    go_ret
    exact ⟨rfl, 0, rfl⟩
end Go.Proofs.YtmjolkagkeonfaaDoor
