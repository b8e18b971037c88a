import Derived.Test.YtmjolkagkeonfaaGreatDoorRBase
namespace Go.Proofs.YtmjolkagkeonfaaGreatDoorR
open Go.RowKit
/-! Texts escaped and back. -/
def ni (l : List UInt8) : List Int := l.map fun b => (b.toNat : Int)
theorem ni_app (a b : List UInt8) : ni (a ++ b) = ni a ++ ni b := by simp [ni]
theorem ni_len (a : List UInt8) : (ni a).length = a.length := by simp [ni]
theorem ni_str (l : List UInt8) : strOfNums (ni l) = ⟨l.toArray⟩ := by
  unfold strOfNums ni
  congr 1
  rw [List.map_map]
  congr 1
  apply List.ext_getElem
  · simp
  · intro i h1 h2
    simp
def ePl (c : Nat) : Prop := (97 ≤ c ∧ c ≤ 122) ∨ (65 ≤ c ∧ c ≤ 90) ∨ (48 ≤ c ∧ c ≤ 57) ∨ c = 45 ∨ c = 95 ∨ c = 46 ∨ c = 47
instance (c : Nat) : Decidable (ePl c) := by unfold ePl; infer_instance
def eHx (n : Nat) : UInt8 := if n < 10 then UInt8.ofNat (48 + n) else UInt8.ofNat (55 + n)
def e1 (c : UInt8) : List UInt8 := if ePl c.toNat then [c] else [37, eHx (c.toNat / 16), eHx (c.toNat % 16)]
def esc (l : List UInt8) : List UInt8 := l.flatMap e1
theorem esc_snoc (l : List UInt8) (c : UInt8) : esc (l ++ [c]) = esc l ++ e1 c := by simp [esc]
theorem esc_app (a b : List UInt8) : esc (a ++ b) = esc a ++ esc b := by simp [esc]
theorem e1_len (c : UInt8) : 1 ≤ (e1 c).length ∧ (e1 c).length ≤ 3 := by unfold e1; split <;> simp
theorem esc_len (l : List UInt8) : l.length ≤ (esc l).length ∧ (esc l).length ≤ 3 * l.length := by
  induction l with
  | nil => simp [esc]
  | cons c l ih =>
    have h := e1_len c
    have e : esc (c :: l) = e1 c ++ esc l := by simp [esc]
    rw [e, List.length_append, List.length_cons]
    omega
def eUp (c : Nat) : Int := if 48 ≤ c ∧ c ≤ 57 then (c : Int) - 48 else if 65 ≤ c ∧ c ≤ 70 then (c : Int) - 55 else -1
theorem eUp_lt (c : Nat) : eUp c < 16 ∧ -1 ≤ eUp c := by
  unfold eUp
  split
  · omega
  · split <;> omega
theorem eUp_hx (n : Nat) (h : n < 16) : eUp (eHx n).toNat = n := by
  have : ∀ n : Fin 16, eUp (eHx n.1).toNat = (n.1 : Int) := by decide
  exact this ⟨n, h⟩
def dec : List UInt8 → List UInt8
  | [] => []
  | c :: l =>
    match l with
    | a :: b :: r => if c = 37 ∧ 0 ≤ eUp a.toNat ∧ 0 ≤ eUp b.toNat then UInt8.ofNat (eUp a.toNat * 16 + eUp b.toNat).toNat :: dec r else c :: dec (a :: b :: r)
    | l => c :: dec l
termination_by l => l.length
theorem dec_hex (a b : UInt8) (r : List UInt8) (ha : 0 ≤ eUp a.toNat) (hb : 0 ≤ eUp b.toNat) : dec (37 :: a :: b :: r) = UInt8.ofNat (eUp a.toNat * 16 + eUp b.toNat).toNat :: dec r := by
  rw [dec, if_pos ⟨rfl, ha, hb⟩]
theorem dec_one (c : UInt8) (l : List UInt8) (h : c = 37 → ∀ a b r, l = a :: b :: r → ¬ (0 ≤ eUp a.toNat ∧ 0 ≤ eUp b.toNat)) : dec (c :: l) = c :: dec l := by
  match l with
  | [] => simp [dec]
  | [x] => simp [dec]
  | a :: b :: r => rw [dec, if_neg fun hh => h hh.1 a b r rfl hh.2]
theorem ePl_37 (c : UInt8) (h : ePl c.toNat) : c ≠ 37 := by
  rintro rfl
  revert h
  decide
theorem dec_esc : ∀ l : List UInt8, dec (esc l) = l
  | [] => by simp [esc, dec]
  | c :: l => by
    have e : esc (c :: l) = e1 c ++ esc l := by simp [esc]
    rw [e]
    unfold e1
    by_cases h : ePl c.toNat
    · rw [if_pos h]
      show dec (c :: esc l) = _
      rw [dec_one c _ (fun hc => absurd hc (ePl_37 c h)), dec_esc l]
    · rw [if_neg h]
      have h1 : c.toNat / 16 < 16 := by have := c.toNat_lt; omega
      have h2 : c.toNat % 16 < 16 := by omega
      show dec (37 :: eHx (c.toNat / 16) :: eHx (c.toNat % 16) :: esc l) = _
      rw [dec_hex _ _ _ (by rw [eUp_hx _ h1]; omega) (by rw [eUp_hx _ h2]; omega), eUp_hx _ h1, eUp_hx _ h2, dec_esc l]
      have : (((c.toNat / 16 : Nat) : Int) * 16 + ((c.toNat % 16 : Nat) : Int)).toNat = c.toNat := by omega
      rw [this]
      simp
theorem un_iff (t : List UInt8) : (∃ b, esc b = t) ↔ esc (dec t) = t :=
  ⟨fun ⟨b, h⟩ => by rw [← h, dec_esc], fun h => ⟨_, h⟩⟩
theorem esc_inj {a b : List UInt8} (h : esc a = esc b) : a = b := by rw [← dec_esc a, h, dec_esc]
/-- a text escaped: what the functions answer -/
def escV (s : ByteArray) : List UInt8 := if s.size ≤ 100000 then esc s.data.toList else []
def unV (s : ByteArray) : Option (List UInt8) := if s.size ≤ 100000 ∧ esc (dec s.data.toList) = s.data.toList then some (dec s.data.toList) else none
theorem unV_esc (s : ByteArray) (b : List UInt8) (h : esc b = s.data.toList) (hs : s.size ≤ 100000) : unV s = some b := by
  unfold unV
  rw [← h, dec_esc, if_pos ⟨hs, rfl⟩]
theorem unV_no (s : ByteArray) (h : ¬ ∃ b, esc b = s.data.toList) : unV s = none := by
  unfold unV
  rw [if_neg fun hh => h ⟨_, hh.2⟩]
theorem unV_big (s : ByteArray) (h : ¬ s.size ≤ 100000) : unV s = none := by
  unfold unV
  rw [if_neg fun hh => h hh.1]
end Go.Proofs.YtmjolkagkeonfaaGreatDoorR
