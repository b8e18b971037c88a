import Derived.Test.YtlobnmcjnaibaaaDoorRFieldF
namespace Go.Proofs.YtlobnmcjnaibaaaDoorR
open F
/-! Matrices over the field by their kernels: what elimination keeps, ranks, inverses. -/
abbrev Mx := Nat → Nat → F
def Ker (R C : Nat) (A : Mx) (u : Nat → F) : Prop := ∀ i, i < R → sm C (fun j => A i j * u j) = 0
def KerEq (R C : Nat) (A B : Mx) : Prop := ∀ u, Ker R C A u ↔ Ker R C B u
theorem KerEq.refl (R C : Nat) (A : Mx) : KerEq R C A A := fun _ => Iff.rfl
theorem KerEq.trans {R C : Nat} {A B D : Mx} (h : KerEq R C A B) (k : KerEq R C B D) : KerEq R C A D := fun u => (h u).trans (k u)
theorem Ker.congr {R C : Nat} {A B : Mx} (h : ∀ i j, i < R → j < C → A i j = B i j) (u : Nat → F) : Ker R C A u ↔ Ker R C B u := by
  constructor
  · intro k i hi; rw [← k i hi]; exact sm_congr C fun j hj => by rw [h i j hi hj]
  · intro k i hi; rw [← k i hi]; exact sm_congr C fun j hj => by rw [h i j hi hj]
theorem KerEq.of {R C : Nat} {A B : Mx} (h : ∀ i j, i < R → j < C → A i j = B i j) : KerEq R C A B := Ker.congr h
def swapR (A : Mx) (a b : Nat) : Mx := fun i j => if i = a then A b j else if i = b then A a j else A i j
def clearR (A : Mx) (row col : Nat) : Mx := fun i j => if i = row then (A row col).inv * A row j else A i j + A i col * ((A row col).inv * A row j)
theorem ker_swap {R C : Nat} (A : Mx) {a b : Nat} (ha : a < R) (hb : b < R) : KerEq R C A (swapR A a b) := by
  intro u
  constructor
  · intro k i hi
    unfold swapR
    by_cases h1 : i = a
    · simp only [h1, if_true]; exact k b hb
    · by_cases h2 : i = b
      · simp only [h2, if_true]; rw [h2] at h1; simp only [h1, if_false]; exact k a ha
      · simp only [h1, h2, if_false]; exact k i hi
  · intro k i hi
    by_cases h1 : i = a
    · have := k b hb
      unfold swapR at this
      by_cases h2 : b = a
      · simp only [h2, if_true] at this; rw [h1]; exact this
      · simp only [h2, if_false, if_true] at this; rw [h1]; exact this
    · by_cases h2 : i = b
      · have := k a ha
        unfold swapR at this
        simp only [if_true] at this; rw [h2]; exact this
      · have := k i hi
        unfold swapR at this
        simp only [h1, h2, if_false] at this; exact this
theorem ker_clear {R C : Nat} (A : Mx) {row col : Nat} (hr : row < R) (h0 : A row col ≠ 0) : KerEq R C A (clearR A row col) := by
  intro u
  have e : sm C (fun j => clearR A row col row j * u j) = (A row col).inv * sm C (fun j => A row j * u j) := by
    rw [← sm_mul]; exact sm_congr C fun j _ => by unfold clearR; rw [if_pos rfl, mul_assoc]
  have o : ∀ i, i ≠ row → sm C (fun j => clearR A row col i j * u j) = sm C (fun j => A i j * u j) + A i col * ((A row col).inv * sm C (fun j => A row j * u j)) := by
    intro i hi
    rw [← sm_mul, ← sm_mul, ← sm_add]
    refine sm_congr C fun j _ => ?_
    unfold clearR; rw [if_neg hi, add_mul]; congr 1; ac_rfl
  constructor
  · intro k i hi
    by_cases h : i = row
    · subst h; rw [e, k i hi, mul_zero]
    · rw [o i h, k i hi, k row hr, mul_zero, mul_zero, add_zero]
  · intro k
    have kr : sm C (fun j => A row j * u j) = 0 := mul_eq_zero (inv_ne h0) (by rw [← e]; exact k row hr)
    intro i hi
    by_cases h : i = row
    · subst h; exact kr
    · have := k i hi
      rw [o i h, kr, mul_zero, mul_zero, add_zero] at this; exact this
/-- The column hangs on those ahead of it. -/
def Dep (R C : Nat) (A : Mx) (c : Nat) : Prop := ∃ u : Nat → F, u c = 1 ∧ (∀ j, c < j → u j = 0) ∧ Ker R C A u
theorem Dep.congr {R C : Nat} {A B : Mx} (h : KerEq R C A B) (c : Nat) : Dep R C A c ↔ Dep R C B c := by
  constructor
  · rintro ⟨u, h1, h2, h3⟩; exact ⟨u, h1, h2, (h u).1 h3⟩
  · rintro ⟨u, h1, h2, h3⟩; exact ⟨u, h1, h2, (h u).2 h3⟩
/-- k pivots, in columns p 0 .. p (k - 1), all ahead of col; below the k-th row nothing stands ahead of col. -/
structure Red (R : Nat) (A : Mx) (k : Nat) (p : Nat → Nat) (col : Nat) : Prop where
  le : k ≤ R
  ahead : ∀ t, t < k → p t < col
  unit : ∀ i t, i < R → t < k → A i (p t) = if i = t then 1 else 0
  zero : ∀ i j, k ≤ i → i < R → j < col → A i j = 0
theorem Red.none {R C : Nat} {A : Mx} {k : Nat} {p : Nat → Nat} {col : Nat} (h : Red R A k p col) (hc : col < C) (hz : ∀ i, k ≤ i → i < R → A i col = 0) : Dep R C A col ∧ Red R A k p (col + 1) := by
  constructor
  · refine ⟨fun j => (if j = col then 1 else 0) + sm k (fun t => if p t = j then A t col else 0), ?_, ?_, ?_⟩
    · show (if col = col then (1 : F) else 0) + _ = 1
      rw [if_pos rfl, sm_zero' k (fun t ht => if_neg (by have := h.ahead t ht; omega)), add_zero]
    · intro j hj
      show (if j = col then (1 : F) else 0) + _ = 0
      rw [if_neg (by omega), sm_zero' k (fun t ht => if_neg (by have := h.ahead t ht; omega)), add_zero]
    · intro i hi
      have e1 : sm C (fun j => A i j * ((if j = col then 1 else 0) + sm k (fun t => if p t = j then A t col else 0))) = A i col + sm k (fun t => A i (p t) * A t col) := by
        have a1 : ∀ j, A i j * ((if j = col then 1 else 0) + sm k (fun t => if p t = j then A t col else 0)) = A i j * (if j = col then 1 else 0) + sm k (fun t => A i j * (if p t = j then A t col else 0)) := fun j => by rw [mul_add, sm_mul]
        rw [sm_congr C fun j _ => a1 j, sm_add, sm_swap]
        congr 1
        · rw [sm_one C col hc (fun j _ hne => by rw [if_neg hne, mul_zero]), if_pos rfl, mul_one]
        · refine sm_congr k fun t ht => ?_
          have hp : p t < C := by have := h.ahead t ht; omega
          rw [sm_one C (p t) hp (fun j _ hne => by rw [if_neg (fun e => hne e.symm), mul_zero]), if_pos rfl]
      rw [e1]
      by_cases hik : i < k
      · rw [sm_one k i hik (fun t ht hne => by rw [h.unit i t hi ht, if_neg (fun e => hne e.symm), zero_mul]), h.unit i i hi hik, if_pos rfl, one_mul, add_self]
      · rw [sm_zero' k (fun t ht => by rw [h.unit i t hi ht, if_neg (by omega), zero_mul]), add_zero]
        exact hz i (by omega) hi
  · refine ⟨h.le, fun t ht => by have := h.ahead t ht; omega, h.unit, fun i j h1 h2 h3 => ?_⟩
    by_cases hj : j < col
    · exact h.zero i j h1 h2 hj
    · have : j = col := by omega
      subst this; exact hz i h1 h2
theorem Red.notDep {R C : Nat} {A : Mx} {k : Nat} {p : Nat → Nat} {col : Nat} (h : Red R A k p col) (hc : col < C) {i : Nat} (h1 : k ≤ i) (h2 : i < R) (hz : A i col ≠ 0) : ¬ Dep R C A col := by
  rintro ⟨u, hu1, hu2, hk⟩
  have := hk i h2
  rw [sm_one C col hc (fun j _ hne => by
    rcases Nat.lt_or_ge j col with hj | hj
    · rw [h.zero i j h1 h2 hj, zero_mul]
    · rw [hu2 j (by omega), mul_zero]), hu1, mul_one] at this
  exact hz this
theorem Red.some {R C : Nat} {A : Mx} {k : Nat} {p : Nat → Nat} {col : Nat} (h : Red R A k p col) (hc : col < C) {s : Nat} (h1 : k ≤ s) (h2 : s < R) (hz : A s col ≠ 0) :
    ¬ Dep R C A col ∧ KerEq R C A (clearR (swapR A k s) k col) ∧ Red R (clearR (swapR A k s) k col) (k + 1) (fun t => if t = k then col else p t) (col + 1) := by
  have hk : k < R := by omega
  have e0 : swapR A k s k col = A s col := by unfold swapR; rw [if_pos rfl]
  have hn : swapR A k s k col ≠ 0 := by rw [e0]; exact hz
  refine ⟨h.notDep hc h1 h2 hz, (ker_swap A hk h2).trans (ker_clear _ hk hn), ?_⟩
  -- the swapped matrix keeps the form
  have hs : Red R (swapR A k s) k p col := by
    refine ⟨h.le, h.ahead, fun i t hi ht => ?_, fun i j a1 a2 a3 => ?_⟩
    · unfold swapR
      by_cases c1 : i = k
      · rw [if_pos c1, h.unit s t h2 ht, if_neg (by omega), if_neg (by omega)]
      · rw [if_neg c1]
        by_cases c2 : i = s
        · rw [if_pos c2, h.unit k t hk ht, if_neg (by omega), if_neg (by omega)]
        · rw [if_neg c2]; exact h.unit i t hi ht
    · unfold swapR
      split
      · exact h.zero s j h1 h2 a3
      · split
        · exact h.zero k j (Nat.le_refl _) hk a3
        · exact h.zero i j a1 a2 a3
  refine ⟨by omega, fun t ht => ?_, fun i t hi ht => ?_, fun i j a1 a2 a3 => ?_⟩
  · show (if t = k then col else p t) < col + 1
    split
    · omega
    · have := h.ahead t (by omega); omega
  · show clearR (swapR A k s) k col i (if t = k then col else p t) = _
    by_cases c : t = k
    · rw [if_pos c]
      unfold clearR
      by_cases c1 : i = k
      · rw [if_pos c1, inv_mul hn, if_pos (by omega)]
      · rw [if_neg c1, inv_mul hn, mul_one, add_self, if_neg (by omega)]
    · rw [if_neg c]
      unfold clearR
      have hkt : swapR A k s k (p t) = 0 := by rw [hs.unit k t hk (by omega), if_neg (by omega)]
      by_cases c1 : i = k
      · rw [if_pos c1, hkt, mul_zero, if_neg (by omega)]
      · rw [if_neg c1, hkt, mul_zero, mul_zero, add_zero]; exact hs.unit i t hi (by omega)
  · unfold clearR
    rw [if_neg (by omega)]
    by_cases c : j < col
    · rw [hs.zero k j (Nat.le_refl _) hk c, mul_zero, mul_zero, add_zero]; exact hs.zero i j (by omega) a2 c
    · have : j = col := by omega
      subst this
      rw [inv_mul hn, mul_one, add_self]
theorem Red.start (R : Nat) (A : Mx) (p : Nat → Nat) : Red R A 0 p 0 := ⟨Nat.zero_le _, fun _ ht => absurd ht (Nat.not_lt_zero _), fun _ _ _ ht => absurd ht (Nat.not_lt_zero _), fun _ _ _ _ hj => absurd hj (Nat.not_lt_zero _)⟩
/-! ranks -/
open Classical in
noncomputable def cntP (P : Nat → Prop) : Nat → Nat
  | 0 => 0
  | n + 1 => cntP P n + (if P n then 1 else 0)
theorem cntP_le (P : Nat → Prop) : ∀ n, cntP P n ≤ n
  | 0 => Nat.le_refl _
  | n + 1 => by have := cntP_le P n; unfold cntP; split <;> omega
theorem cntP_yes {P : Nat → Prop} {n : Nat} (h : P n) : cntP P (n + 1) = cntP P n + 1 := by show cntP P n + _ = _; rw [if_pos h]
theorem cntP_no {P : Nat → Prop} {n : Nat} (h : ¬ P n) : cntP P (n + 1) = cntP P n := by show cntP P n + _ = _; rw [if_neg h]; rfl
theorem cntP_full {P : Nat → Prop} : ∀ {n : Nat}, cntP P n = n ↔ ∀ i, i < n → P i
  | 0 => ⟨fun _ i hi => absurd hi (Nat.not_lt_zero _), fun _ => rfl⟩
  | n + 1 => by
    have hl := cntP_le P n
    by_cases h : P n
    · rw [cntP_yes h]
      constructor
      · intro e i hi
        rcases Nat.lt_or_ge i n with h1 | h1
        · exact (cntP_full (n := n)).1 (by omega) i h1
        · have : i = n := by omega
          subst this; exact h
      · intro a; have := (cntP_full (n := n)).2 fun i hi => a i (by omega); omega
    · rw [cntP_no h]
      exact ⟨fun e => absurd e (by omega), fun a => absurd (a n (by omega)) h⟩
noncomputable def rank (R C : Nat) (A : Mx) : Nat := cntP (fun c => ¬ Dep R C A c) C
theorem Red.rest {R C : Nat} {A A0 : Mx} {p : Nat → Nat} (hk : KerEq R C A0 A) : ∀ (d col : Nat), Red R A R p col → col + d ≤ C → cntP (fun c => ¬ Dep R C A0 c) (col + d) = cntP (fun c => ¬ Dep R C A0 c) col
  | 0, _, _, _ => rfl
  | d + 1, col, h, hc => by
    have ⟨h1, h2⟩ := h.none (C := C) (col := col) (by omega) (fun i a b => absurd b (by omega))
    have e := Red.rest hk d (col + 1) h2 (by omega)
    have e1 : cntP (fun c => ¬ Dep R C A0 c) (col + 1) = cntP (fun c => ¬ Dep R C A0 c) col := cntP_no (fun hn => hn ((Dep.congr hk col).2 h1))
    rw [show col + (d + 1) = col + 1 + d by omega, e, e1]
/-! inverses -/
def IsInv (n : Nat) (M X : Mx) : Prop := ∀ i j, i < n → j < n → sm n (fun k => M i k * X k j) = if i = j then 1 else 0
theorem inv_unique {n : Nat} {M X Y : Mx} (h1 : IsInv n X M) (h2 : IsInv n M Y) (i j : Nat) (hi : i < n) (hj : j < n) : X i j = Y i j := by
  have a : sm n (fun k => X i k * sm n (fun l => M k l * Y l j)) = X i j := by
    rw [sm_one n j hj (fun k hk hne => by rw [h2 k j hk hj, if_neg hne, mul_zero]), h2 j j hj hj, if_pos rfl, mul_one]
  have b : sm n (fun k => X i k * sm n (fun l => M k l * Y l j)) = Y i j := by
    have : ∀ k, X i k * sm n (fun l => M k l * Y l j) = sm n (fun l => X i k * (M k l * Y l j)) := fun k => (sm_mul n _ _).symm
    rw [sm_congr n fun k _ => this k, sm_swap]
    have e : ∀ l, l < n → sm n (fun k => X i k * (M k l * Y l j)) = (if i = l then 1 else 0) * Y l j := fun l hl => by
      rw [← h1 i l hi hl, ← sm_mulr]; exact sm_congr n fun k _ => (mul_assoc _ _ _).symm
    rw [sm_congr n e, sm_one n i hi (fun l hl hne => by rw [if_neg (fun h => hne h.symm), zero_mul]), if_pos rfl, one_mul]
  rw [← a, b]
/-- an inverse from the left leaves no kernel -/
theorem IsInv.noDep {n : Nat} {M X : Mx} (h : IsInv n X M) {c : Nat} (hc : c < n) : ¬ Dep n n M c := by
  rintro ⟨u, h1, _, hk⟩
  have a : sm n (fun k => X c k * sm n (fun l => M k l * u l)) = 0 := sm_zero' n fun k hk' => by rw [hk k hk', mul_zero]
  have b : sm n (fun k => X c k * sm n (fun l => M k l * u l)) = u c := by
    have : ∀ k, X c k * sm n (fun l => M k l * u l) = sm n (fun l => X c k * (M k l * u l)) := fun k => (sm_mul n _ _).symm
    rw [sm_congr n fun k _ => this k, sm_swap]
    have e : ∀ l, l < n → sm n (fun k => X c k * (M k l * u l)) = (if c = l then 1 else 0) * u l := fun l hl => by
      rw [← h c l hc hl, ← sm_mulr]; exact sm_congr n fun k _ => (mul_assoc _ _ _).symm
    rw [sm_congr n e, sm_one n c hc (fun l hl hne => by rw [if_neg (fun h => hne h.symm), zero_mul]), if_pos rfl, one_mul]
  rw [a, h1] at b
  exact one_ne b.symm
/-- the matrix with the unit behind it -/
def aug (n : Nat) (M : Mx) : Mx := fun i j => if j < n then M i j else if j - n = i then 1 else 0
theorem aug_dep {n : Nat} {M : Mx} {c : Nat} (hc : c < n) : Dep n (n + n) (aug n M) c ↔ Dep n n M c := by
  have key : ∀ u : Nat → F, (∀ j, c < j → u j = 0) → ∀ i, sm (n + n) (fun j => aug n M i j * u j) = sm n (fun j => M i j * u j) := fun u hu i => by
    rw [sm_split, sm_zero' n (f := fun j => aug n M i (n + j) * u (n + j)) (fun j _ => by rw [hu (n + j) (by omega), mul_zero]), add_zero]
    exact sm_congr n fun j hj => by unfold aug; rw [if_pos hj]
  constructor
  · rintro ⟨u, h1, h2, h3⟩; exact ⟨u, h1, h2, fun i hi => by rw [← key u h2 i]; exact h3 i hi⟩
  · rintro ⟨u, h1, h2, h3⟩; exact ⟨u, h1, h2, fun i hi => by rw [key u h2 i]; exact h3 i hi⟩
/-- what elimination leaves behind the unit is the inverse -/
theorem aug_inv {n : Nat} {M W : Mx} (hk : KerEq n (n + n) (aug n M) W) (hu : ∀ i j, i < n → j < n → W i j = if i = j then 1 else 0) :
    IsInv n M (fun i j => W i (n + j)) ∧ IsInv n (fun i j => W i (n + j)) M := by
  have ka : ∀ (u : Nat → F) i, i < n → sm (n + n) (fun j => aug n M i j * u j) = sm n (fun j => M i j * u j) + u (n + i) := fun u i hi => by
    rw [sm_split]
    congr 1
    · exact sm_congr n fun j hj => by unfold aug; rw [if_pos hj]
    · rw [sm_one n i hi (fun j hj hne => by unfold aug; rw [if_neg (by omega), if_neg (by omega), zero_mul])]
      unfold aug; rw [if_neg (by omega), if_pos (by omega), one_mul]
  have kw : ∀ (u : Nat → F) i, i < n → sm (n + n) (fun j => W i j * u j) = u i + sm n (fun j => W i (n + j) * u (n + j)) := fun u i hi => by
    rw [sm_split]
    congr 1
    rw [sm_one n i hi (fun j hj hne => by rw [hu i j hi hj, if_neg (fun h => hne h.symm), zero_mul]), hu i i hi hi, if_pos rfl, one_mul]
  constructor
  · intro i j hi hj
    -- u = (X e_j, e_j)
    have h := (hk (fun t => if t < n then W t (n + j) else if t = n + j then 1 else 0)).2 (fun i hi => by
      rw [kw _ i hi, sm_one n j hj (fun l hl hne => by rw [if_neg (by omega), if_neg (by omega), mul_zero]), if_pos hi, if_neg (by omega), if_pos rfl, mul_one, add_self])
    have := h i hi
    rw [ka _ i hi] at this
    have e : sm n (fun k => M i k * (if k < n then W k (n + j) else if k = n + j then 1 else 0)) = sm n (fun k => M i k * W k (n + j)) := sm_congr n fun k hk' => by rw [if_pos hk']
    rw [e] at this
    rw [add_eq_zero.1 this, if_neg (by omega)]
    by_cases hij : i = j
    · rw [if_pos (by omega), if_pos hij]
    · rw [if_neg (by omega), if_neg hij]
  · intro i j hi hj
    -- u = (e_j, M e_j)
    have h := (hk (fun t => if t < n then (if t = j then 1 else 0) else M (t - n) j)).1 (fun i hi => by
      rw [ka _ i hi, sm_one n j hj (fun l hl hne => by rw [if_pos hl, if_neg hne, mul_zero]), if_pos hj, if_pos rfl, mul_one, if_neg (by omega), show n + i - n = i by omega, add_self])
    have := h i hi
    rw [kw _ i hi, if_pos hi] at this
    have e : sm n (fun k => W i (n + k) * (if n + k < n then (if n + k = j then (1 : F) else 0) else M (n + k - n) j)) = sm n (fun k => W i (n + k) * M k j) := sm_congr n fun k _ => by rw [if_neg (by omega), show n + k - n = k by omega]
    rw [e] at this
    exact (add_eq_zero.1 this).symm
end Go.Proofs.YtlobnmcjnaibaaaDoorR
