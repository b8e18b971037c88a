import Derived.Test.YtgoplcjjoiiagaaGreatDoorIPlain
import Derived.Test.YtgoplcjjoiiagaaGreatDoorE1
import Derived.Test.YtgoplcjjoiiagaaGreatDoorCur
import Derived.Test.YtgoplcjjoiiagaaGreatDoorS2
import Derived.Laws.Externs
import Derived.Lib.Bytealg
namespace Go.Proofs.YtgoplcjjoiiagaaGreatDoor
open Go.RowKit
/-! The program's UnEscape. -/
theorem dec_e1 (c : UInt8) (X : List UInt8) : dec (e1 c ++ X) = c :: dec X := by
  unfold e1
  by_cases h : ePl c.toNat
  · rw [if_pos h]
    show dec (c :: X) = _
    rw [dec_one c _ (fun hc => absurd hc (ePl_37 c h))]
  · rw [if_neg h]
    have h1 : c.toNat / 16 < 16 := by have := c.toNat_lt; omega
    have h2 : c.toNat % 16 < 16 := by omega
    show dec (37 :: eHx (c.toNat / 16) :: eHx (c.toNat % 16) :: X) = _
    rw [dec_hex _ _ _ (by rw [eUp_hx _ h1]; omega) (by rw [eUp_hx _ h2]; omega), eUp_hx _ h1, eUp_hx _ h2]
    have : (((c.toNat / 16 : Nat) : Int) * 16 + ((c.toNat % 16 : Nat) : Int)).toNat = c.toNat := by omega
    rw [this]
    simp
theorem e1_cancel {c d : UInt8} {X Y : List UInt8} (h : e1 c ++ X = e1 d ++ Y) : c = d ∧ X = Y := by
  have q := congrArg dec h
  rw [dec_e1, dec_e1] at q
  have e := (List.cons.inj q).1
  subst e
  exact ⟨rfl, List.append_cancel_left h⟩
theorem esc_rest : ∀ (B b R : List UInt8), esc b = esc B ++ R → ∃ b', b = B ++ b' ∧ esc b' = R
  | [], b, R, h => ⟨b, rfl, by simpa [esc] using h⟩
  | c :: B, b, R, h => by
    have e : esc (c :: B) = e1 c ++ esc B := by simp [esc]
    rw [e, List.append_assoc] at h
    match b, h with
    | [], h =>
      exfalso
      have := congrArg List.length h
      have := (e1_len c).1
      simp [esc] at *
      omega
    | d :: b, h =>
      have e2 : esc (d :: b) = e1 d ++ esc b := by simp [esc]
      rw [e2] at h
      obtain ⟨rfl, h2⟩ := e1_cancel h
      obtain ⟨b', rfl, h3⟩ := esc_rest B b R h2
      exact ⟨b', rfl, h3⟩
/-- what stands at place k, read as one byte -/
def tkP (s : ByteArray) (k n : Nat) (x : UInt8) : Prop := ∃ _ : k + n ≤ s.size, e1 x = (s.data.toList.drop k).take n
theorem esc_step {s : ByteArray} {k n : Nat} {x : UInt8} {B : List UInt8} (hB : esc B = s.data.toList.take k) (h : tkP s k n x) : esc (B ++ [x]) = s.data.toList.take (k + n) := by
  rw [esc_snoc, hB, h.2, List.take_add]
theorem esc_stop {s : ByteArray} {k : Nat} {B : List UInt8} (hB : esc B = s.data.toList.take k) (hk : k < s.size) (h : ∀ n x, ¬ tkP s k n x) : unV s = none := by
  refine unV_no s fun ⟨b, hb⟩ => ?_
  have hl : s.data.toList.length = s.size := by simp
  rw [← List.take_append_drop k s.data.toList, ← hB] at hb
  obtain ⟨b', rfl, h3⟩ := esc_rest B b _ hb
  match b', h3 with
  | [], h3 =>
    have := congrArg List.length h3
    simp [esc] at this
    omega
  | d :: b', h3 =>
    have e2 : esc (d :: b') = e1 d ++ esc b' := by simp [esc]
    rw [e2] at h3
    refine h (e1 d).length d ⟨?_, ?_⟩
    · have := congrArg List.length h3
      rw [List.length_append, List.length_drop] at this
      omega
    · rw [← h3]; simp
theorem tk_one {s : ByteArray} {k : Nat} (hk : k < s.size) (hp : ePl (s[k]'hk).toNat) : tkP s k 1 (s[k]'hk) := by
  refine ⟨by omega, ?_⟩
  rw [drop_one s k hk]
  unfold e1
  rw [if_pos hp]
  rfl
set_option maxRecDepth 100000 in
theorem eHx_up (a : UInt8) (h : 0 ≤ eUp a.toNat) : eHx (eUp a.toNat).toNat = a := by
  have key : ∀ a : Fin 256, 0 ≤ eUp a.1 → eHx (eUp a.1).toNat = UInt8.ofNat a.1 := by decide
  have := key ⟨a.toNat, a.toNat_lt⟩ h
  simpa using this
theorem tk_hex {s : ByteArray} {k : Nat} (h2 : k + 2 < s.size) (h0 : s[k] = 37) (ha : 0 ≤ eUp s[k + 1].toNat) (hb : 0 ≤ eUp s[k + 2].toNat)
    (hp : ¬ ePl (16 * (eUp s[k + 1].toNat).toNat + (eUp s[k + 2].toNat).toNat)) : tkP s k 3 (UInt8.ofNat (16 * (eUp s[k + 1].toNat).toNat + (eUp s[k + 2].toNat).toNat)) := by
  have la := (eUp_lt s[k + 1].toNat).1
  have lb := (eUp_lt s[k + 2].toNat).1
  refine ⟨by omega, ?_⟩
  rw [drop_one s k (by omega), drop_one s (k + 1) (by omega), drop_one s (k + 2) h2, h0]
  unfold e1
  have e : (UInt8.ofNat (16 * (eUp s[k + 1].toNat).toNat + (eUp s[k + 2].toNat).toNat)).toNat = 16 * (eUp s[k + 1].toNat).toNat + (eUp s[k + 2].toNat).toNat := by rw [UInt8.toNat_ofNat']; omega
  rw [e, if_neg hp, show (16 * (eUp s[k + 1].toNat).toNat + (eUp s[k + 2].toNat).toNat) / 16 = (eUp s[k + 1].toNat).toNat by omega, show (16 * (eUp s[k + 1].toNat).toNat + (eUp s[k + 2].toNat).toNat) % 16 = (eUp s[k + 2].toNat).toNat by omega, eHx_up _ ha, eHx_up _ hb]
  rfl
theorem eHx_ge (n : Nat) (h : n < 16) : 0 ≤ eUp (eHx n).toNat := by rw [eUp_hx n h]; omega
/-- what a byte that can be read there looks like -/
theorem tk_inv {s : ByteArray} {k n : Nat} {x : UInt8} (hk : k < s.size) (h : tkP s k n x) :
    (ePl (s[k]'hk).toNat) ∨ (s[k] = 37 ∧ ∃ h2 : k + 2 < s.size, 0 ≤ eUp s[k + 1].toNat ∧ 0 ≤ eUp s[k + 2].toNat ∧ ¬ ePl (16 * (eUp s[k + 1].toNat).toNat + (eUp s[k + 2].toNat).toNat)) := by
  obtain ⟨hn, h⟩ := h
  have hl : s.data.toList.length = s.size := by simp
  unfold e1 at h
  by_cases hp : ePl x.toNat
  · rw [if_pos hp] at h
    left
    have hn1 : n = 1 := by
      have := congrArg List.length h
      rw [List.length_take, List.length_drop] at this
      simp at this
      omega
    subst hn1
    rw [drop_one s k hk] at h
    have : x = s[k] := by simpa using h
    rw [← this]
    exact hp
  · rw [if_neg hp] at h
    right
    have hn3 : n = 3 := by
      have := congrArg List.length h
      rw [List.length_take, List.length_drop] at this
      simp at this
      omega
    subst hn3
    have h2 : k + 2 < s.size := by omega
    rw [drop_one s k hk, drop_one s (k + 1) (by omega), drop_one s (k + 2) h2] at h
    simp only [List.take_succ_cons, List.take_zero, List.cons.injEq, and_true] at h
    have h1 : x.toNat / 16 < 16 := by have := x.toNat_lt; omega
    have h3 : x.toNat % 16 < 16 := by omega
    refine ⟨h.1.symm, h2, ?_, ?_, ?_⟩
    · rw [← h.2.1]; exact eHx_ge _ h1
    · rw [← h.2.2]; exact eHx_ge _ h3
    · rw [← h.2.1, ← h.2.2, eUp_hx _ h1, eUp_hx _ h3]
      have : 16 * ((x.toNat / 16 : Nat) : Int).toNat + ((x.toNat % 16 : Nat) : Int).toNat = x.toNat := by omega
      rw [this]
      exact hp
set_option maxRecDepth 100000 in
theorem idx_upp (c : Nat) (h : c < 256) : firstIdx { data := #[48, 49, 50, 51, 52, 53, 54, 55, 56, 57, 65, 66, 67, 68, 69, 70] } (((c : Int)).toNat.toUInt8) = eUp c := by
  have key : ∀ a : Fin 256, firstIdx { data := #[48, 49, 50, 51, 52, 53, 54, 55, 56, 57, 65, 66, 67, 68, 69, 70] } (((a.1 : Int)).toNat.toUInt8) = eUp a.1 := by decide
  exact key ⟨c, h⟩
end Go.Proofs.YtgoplcjjoiiagaaGreatDoor
