import Derived.Test.YteeadhcfippilaaDoorCur
namespace Go.Proofs.YteeadhcfippilaaDoor
open Go.RowKit
/-- All bytes but the last have their highest bit; the last has not. -/
def form : List UInt8 → Prop
  | [] => False
  | [b] => b.toNat < 128
  | x :: y :: l => 128 ≤ x.toNat ∧ form (y :: l)
def lastB : List UInt8 → UInt8
  | [] => 0
  | [b] => b
  | _ :: y :: l => lastB (y :: l)
theorem valL_pos : ∀ l, form l → lastB l ≠ 0 → 0 < valL l
  | [], h, _ => h.elim
  | [b], h, hn => by
    have h1 : b.toNat < 128 := h
    have h2 : b.toNat ≠ 0 := fun h => hn (UInt8.toNat_inj.1 (by show b.toNat = 0; exact h))
    simp only [valL]; omega
  | x :: y :: l, h, hn => by have := valL_pos (y :: l) h.2 hn; simp only [valL] at this ⊢; omega
theorem putL_val : ∀ (l : List UInt8) (f : Nat), form l → (l.length = 1 ∨ lastB l ≠ 0) → l.length ≤ f + 1 → putL f (valL l) = l.map (fun b => (b.toNat : Int))
  | [], _, h, _, _ => h.elim
  | [b], f, h, _, _ => by
    have h1 : b.toNat < 128 := h
    have e : valL [b] = b.toNat := by simp only [valL]; omega
    rw [e, putL_small f _ h1]; rfl
  | x :: y :: l, 0, h, hn, hl => by simp at hl
  | x :: y :: l, f + 1, h, hn, hl => by
    have hl0 : lastB (y :: l) ≠ 0 := by
      rcases hn with h1 | h1
      · simp at h1
      · exact h1
    have hp := valL_pos (y :: l) h.2 hl0
    have hx := h.1
    have hx2 := x.toNat_lt
    have ih := putL_val (y :: l) f h.2 (Or.inr hl0) (by simp at hl ⊢; omega)
    have e : valL (x :: y :: l) = x.toNat % 128 + 128 * valL (y :: l) := rfl
    rw [putL_big f _ (by omega), show valL (x :: y :: l) / 128 = valL (y :: l) from by omega, ih]
    rw [e, List.map_cons]
    congr 1
    show _ = (x.toNat : Int)
    omega
def lastI : List Int → Int
  | [] => 0
  | [b] => b
  | _ :: y :: l => lastI (y :: l)
theorem putL_last : ∀ (f n : Nat), n < 128 ^ (f + 1) → (putL f n).length = 1 ∨ lastI (putL f n) ≠ 0 := by
  intro f
  induction f with
  | zero => intro n _; left; rfl
  | succ f ih =>
    intro n hn
    by_cases h : n < 128
    · left; rw [putL_small _ _ h]; rfl
    · right
      rw [putL_big f n (by omega)]
      have hd : n / 128 < 128 ^ (f + 1) := by rw [Nat.div_lt_iff_lt_mul (by decide)]; rw [Nat.pow_succ] at hn; exact hn
      have ih' := ih (n / 128) hd
      cases hp : putL f (n / 128) with
      | nil => rw [hp] at ih'; simp [lastI] at ih'
      | cons y l =>
        show lastI (y :: l) ≠ 0
        rw [hp] at ih'
        rcases ih' with h1 | h1
        · have hl : l = [] := by simpa using h1
          subst hl
          by_cases h2 : n / 128 < 128
          · rw [putL_small _ _ h2] at hp
            have : ((n / 128 : Nat) : Int) = y := by simpa using hp
            show y ≠ 0
            omega
          · cases f with
            | zero => simp at hd; omega
            | succ f =>
              rw [putL_big f _ (by omega)] at hp
              have hq := (List.cons.inj hp).2
              have : (putL f (n / 128 / 128)).length = 0 := by rw [hq]; rfl
              cases f with
              | zero => simp [putL] at this
              | succ f => unfold putL at this; split at this <;> simp at this
        · exact h1
theorem lastI_map : ∀ l : List UInt8, lastI (l.map (fun b => (b.toNat : Int))) = (lastB l).toNat
  | [] => rfl
  | [_] => rfl
  | _ :: y :: l => lastI_map (y :: l)
/-- The number's bytes are the list exactly if the list is as short as can be. -/
theorem put_iff (l : List UInt8) (hf : form l) (h9 : l.length ≤ 9) : putL 8 (valL l) = l.map (fun b => (b.toNat : Int)) ↔ (l.length = 1 ∨ lastB l ≠ 0) := by
  constructor
  · intro h
    have h1 := putL_last 8 (valL l) (Nat.lt_of_lt_of_le (valL_lt l) (Nat.pow_le_pow_right (by decide) h9))
    rw [h, lastI_map] at h1
    rcases h1 with h1 | h1
    · left; simpa using h1
    · right; intro h2; rw [h2] at h1; exact h1 rfl
  · intro h; exact putL_val l 8 hf h h9
theorem ofNat_map (l : List UInt8) : (l.map (fun b => (b.toNat : Int))).map (fun n => UInt8.ofNat n.toNat) = l := by
  rw [List.map_map]
  have : ((fun n : Int => UInt8.ofNat n.toNat) ∘ fun b : UInt8 => (b.toNat : Int)) = id := by funext b; simp
  rw [this, List.map_id]
theorem map_inj {l l' : List Int} (h : ∀ x ∈ l, 0 ≤ x ∧ x < 256) (h' : ∀ x ∈ l', 0 ≤ x ∧ x < 256) (e : l.map (fun n => UInt8.ofNat n.toNat) = l'.map (fun n => UInt8.ofNat n.toNat)) : l = l' := by
  have e2 := congrArg (List.map (fun b : UInt8 => (b.toNat : Int))) e
  have key : ∀ m : List Int, (∀ x ∈ m, 0 ≤ x ∧ x < 256) → (m.map (fun n => UInt8.ofNat n.toNat)).map (fun b : UInt8 => (b.toNat : Int)) = m := by
    intro m hm
    rw [List.map_map]
    conv => rhs; rw [← List.map_id m]
    refine List.map_congr_left fun x hx => ?_
    have := hm x hx
    simp; omega
  rw [key l h, key l' h'] at e2
  exact e2
theorem form_of : ∀ (l : List UInt8) (k : Nat), l.length = k + 1 → (∀ j, j < k → ∃ x, l[j]? = some x ∧ 128 ≤ x.toNat) → (∃ b, l[k]? = some b ∧ b.toNat < 128) → form l ∧ l[k]? = some (lastB l)
  | [], k, h, _, _ => by simp at h
  | [b], k, h, _, hb => by
    obtain rfl : k = 0 := by simpa using h.symm
    obtain ⟨x, hx, hx2⟩ := hb
    simp at hx; subst hx
    exact ⟨hx2, rfl⟩
  | x :: y :: l, 0, h, _, _ => by simp at h
  | x :: y :: l, k + 1, h, ha, hb => by
    obtain ⟨z, hz, hz2⟩ := ha 0 (by omega)
    simp at hz; subst hz
    have ih := form_of (y :: l) k (by simpa using h) (fun j hj => by simpa using ha (j + 1) (by omega)) (by simpa using hb)
    exact ⟨⟨hz2, ih.1⟩, by show (x :: y :: l)[k + 1]? = some (lastB (y :: l)); simpa using ih.2⟩
end Go.Proofs.YteeadhcfippilaaDoor
