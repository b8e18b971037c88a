import Derived.Test.YtokjfffcciddhaaGreatDoorBase
import Derived.Test.YtokjfffcciddhaaGreatDoorQA
import Derived.Test.YtokjfffcciddhaaGreatDoorProg
import Derived.Deep.RegionHeld3
import Derived.Deep.DrawnRows
import Derived.Deep.RegionLaw
import Derived.Test.YtokjfffcciddhaaGreatDoorPb
import Derived.Lib.OthersKept
namespace Go.Proofs.YtokjfffcciddhaaGreatDoor
open Go.RowKit
/-! Texts escaped and back. -/
def ni (l : List UInt8) : List Int := l.map fun b => (b.toNat : Int)
theorem ni_app (a b : List UInt8) : ni (a ++ b) = ni a ++ ni b := by simp [ni]
theorem ni_len (a : List UInt8) : (ni a).length = a.length := by simp [ni]
theorem ni_str (l : List UInt8) : strOfNums (ni l) = ⟨l.toArray⟩ := by
  unfold strOfNums ni
  congr 1
  rw [List.map_map]
  congr 1
  apply List.ext_getElem
  · simp
  · intro i h1 h2
    simp
def ePl (c : Nat) : Prop := (97 ≤ c ∧ c ≤ 122) ∨ (65 ≤ c ∧ c ≤ 90) ∨ (48 ≤ c ∧ c ≤ 57) ∨ c = 45 ∨ c = 95 ∨ c = 46 ∨ c = 47
instance (c : Nat) : Decidable (ePl c) := by unfold ePl; infer_instance
def eHx (n : Nat) : UInt8 := if n < 10 then UInt8.ofNat (48 + n) else UInt8.ofNat (55 + n)
def e1 (c : UInt8) : List UInt8 := if ePl c.toNat then [c] else [37, eHx (c.toNat / 16), eHx (c.toNat % 16)]
def esc (l : List UInt8) : List UInt8 := l.flatMap e1
theorem esc_snoc (l : List UInt8) (c : UInt8) : esc (l ++ [c]) = esc l ++ e1 c := by simp [esc]
theorem esc_app (a b : List UInt8) : esc (a ++ b) = esc a ++ esc b := by simp [esc]
theorem e1_len (c : UInt8) : 1 ≤ (e1 c).length ∧ (e1 c).length ≤ 3 := by unfold e1; split <;> simp
theorem esc_len (l : List UInt8) : l.length ≤ (esc l).length ∧ (esc l).length ≤ 3 * l.length := by
  induction l with
  | nil => simp [esc]
  | cons c l ih =>
    have h := e1_len c
    have e : esc (c :: l) = e1 c ++ esc l := by simp [esc]
    rw [e, List.length_append, List.length_cons]
    omega
def eUp (c : Nat) : Int := if 48 ≤ c ∧ c ≤ 57 then (c : Int) - 48 else if 65 ≤ c ∧ c ≤ 70 then (c : Int) - 55 else -1
theorem eUp_lt (c : Nat) : eUp c < 16 ∧ -1 ≤ eUp c := by
  unfold eUp
  split
  · omega
  · split <;> omega
theorem eUp_hx (n : Nat) (h : n < 16) : eUp (eHx n).toNat = n := by
  have : ∀ n : Fin 16, eUp (eHx n.1).toNat = (n.1 : Int) := by decide
  exact this ⟨n, h⟩
def dec : List UInt8 → List UInt8
  | [] => []
  | c :: l =>
    match l with
    | a :: b :: r => if c = 37 ∧ 0 ≤ eUp a.toNat ∧ 0 ≤ eUp b.toNat then UInt8.ofNat (eUp a.toNat * 16 + eUp b.toNat).toNat :: dec r else c :: dec (a :: b :: r)
    | l => c :: dec l
termination_by l => l.length
theorem dec_hex (a b : UInt8) (r : List UInt8) (ha : 0 ≤ eUp a.toNat) (hb : 0 ≤ eUp b.toNat) : dec (37 :: a :: b :: r) = UInt8.ofNat (eUp a.toNat * 16 + eUp b.toNat).toNat :: dec r := by
  rw [dec, if_pos ⟨rfl, ha, hb⟩]
theorem dec_one (c : UInt8) (l : List UInt8) (h : c = 37 → ∀ a b r, l = a :: b :: r → ¬ (0 ≤ eUp a.toNat ∧ 0 ≤ eUp b.toNat)) : dec (c :: l) = c :: dec l := by
  match l with
  | [] => simp [dec]
  | [x] => simp [dec]
  | a :: b :: r => rw [dec, if_neg fun hh => h hh.1 a b r rfl hh.2]
theorem ePl_37 (c : UInt8) (h : ePl c.toNat) : c ≠ 37 := by
  rintro rfl
  revert h
  decide
theorem dec_esc : ∀ l : List UInt8, dec (esc l) = l
  | [] => by simp [esc, dec]
  | c :: l => by
    have e : esc (c :: l) = e1 c ++ esc l := by simp [esc]
    rw [e]
    unfold e1
    by_cases h : ePl c.toNat
    · rw [if_pos h]
      show dec (c :: esc l) = _
      rw [dec_one c _ (fun hc => absurd hc (ePl_37 c h)), dec_esc l]
    · rw [if_neg h]
      have h1 : c.toNat / 16 < 16 := by have := c.toNat_lt; omega
      have h2 : c.toNat % 16 < 16 := by omega
      show dec (37 :: eHx (c.toNat / 16) :: eHx (c.toNat % 16) :: esc l) = _
      rw [dec_hex _ _ _ (by rw [eUp_hx _ h1]; omega) (by rw [eUp_hx _ h2]; omega), eUp_hx _ h1, eUp_hx _ h2, dec_esc l]
      have : (((c.toNat / 16 : Nat) : Int) * 16 + ((c.toNat % 16 : Nat) : Int)).toNat = c.toNat := by omega
      rw [this]
      simp
theorem un_iff (t : List UInt8) : (∃ b, esc b = t) ↔ esc (dec t) = t :=
  ⟨fun ⟨b, h⟩ => by rw [← h, dec_esc], fun h => ⟨_, h⟩⟩
theorem esc_inj {a b : List UInt8} (h : esc a = esc b) : a = b := by rw [← dec_esc a, h, dec_esc]
/-- a text escaped: what the functions answer -/
def escV (s : ByteArray) : List UInt8 := if s.size ≤ 100000 then esc s.data.toList else []
def unV (s : ByteArray) : Option (List UInt8) := if s.size ≤ 100000 ∧ esc (dec s.data.toList) = s.data.toList then some (dec s.data.toList) else none
theorem unV_esc (s : ByteArray) (b : List UInt8) (h : esc b = s.data.toList) (hs : s.size ≤ 100000) : unV s = some b := by
  unfold unV
  rw [← h, dec_esc, if_pos ⟨hs, rfl⟩]
theorem unV_no (s : ByteArray) (h : ¬ ∃ b, esc b = s.data.toList) : unV s = none := by
  unfold unV
  rw [if_neg fun hh => h ⟨_, hh.2⟩]
theorem unV_big (s : ByteArray) (h : ¬ s.size ≤ 100000) : unV s = none := by
  unfold unV
  rw [if_neg fun hh => h hh.1]
end Go.Proofs.YtokjfffcciddhaaGreatDoor
namespace Go.Proofs.YtokjfffcciddhaaGreatDoor
open Go.RowKit
/-! The specification's Escape. -/
theorem Tryz.infoB : (Tryz.prog.info? 5).map (fun i => (i.zero, i.size, i.bytes)) = some (some (.int .u8 0), 1, 1) := by kernel_rfl
set_option maxRecDepth 20000 in
theorem ix_upp (n : Nat) (h : n < 16) (x : Int) (hx : x = (n : Int)) (w : World) : (Instr.index 9 (.string { data := #[48, 49, 50, 51, 52, 53, 54, 55, 56, 57, 65, 66, 67, 68, 69, 70] }) (.int .u8 x)).run Tryz.prog w = .ok (.int .u8 ((eHx n).toNat : Int)) w := by
  subst hx
  rcases (by omega : n = 0 ∨ n = 1 ∨ n = 2 ∨ n = 3 ∨ n = 4 ∨ n = 5 ∨ n = 6 ∨ n = 7 ∨ n = 8 ∨ n = 9 ∨ n = 10 ∨ n = 11 ∨ n = 12 ∨ n = 13 ∨ n = 14 ∨ n = 15) with rfl | rfl | rfl | rfl | rfl | rfl | rfl | rfl | rfl | rfl | rfl | rfl | rfl | rfl | rfl | rfl <;> rfl
theorem take_one (s : ByteArray) (k : Nat) (h : k < s.size) : s.data.toList.take (k + 1) = s.data.toList.take k ++ [s[k]] := by
  rw [List.take_succ_eq_append_getElem (by simpa using h)]; rfl
end Go.Proofs.YtokjfffcciddhaaGreatDoor
namespace Go.Proofs.YtokjfffcciddhaaGreatDoor
open Go.RowKit
/-! The program's kinds of signs; runes. -/
theorem get_lt (s : ByteArray) (i : Nat) (h : i < s.size) : s.get! i = s[i]'h := by
  simp [ByteArray.get!, getElem!_pos, h]
  rfl
/-- the bytes of a sign of several bytes are high ones -/
theorem dec_cont (s : ByteArray) (pos : Nat) (h : pos < s.size) (ha : 128 ≤ (s[pos]'h).toNat) (k : Nat) (hk : k < (Utf8.decode s pos).2) :
    pos + k < s.size ∧ 128 ≤ (s.get! (pos + k)).toNat := by
  have hn : ¬ (s[pos]'h).toNat < 128 := by omega
  have h0 : pos + 0 < s.size ∧ 128 ≤ (s.get! (pos + 0)).toNat := ⟨h, by rw [get_at s pos h]; exact ha⟩
  simp only [Utf8.decode, get_at s pos h, hn, if_false] at hk
  repeat' split at hk
  all_goals simp only [Bool.and_eq_true, decide_eq_true_eq, beq_iff_eq] at *
  all_goals first
    | (have : k = 0 := by omega
       subst this
       exact h0)
    | (have : k = 0 ∨ k = 1 := by omega
       rcases this with rfl | rfl
       · exact h0
       · refine ⟨by omega, ?_⟩
         omega)
    | (have : k = 0 ∨ k = 1 ∨ k = 2 := by omega
       rcases this with rfl | rfl | rfl
       · exact h0
       · refine ⟨by omega, ?_⟩
         omega
       · refine ⟨by omega, ?_⟩
         omega)
    | (have : k = 0 ∨ k = 1 ∨ k = 2 ∨ k = 3 := by omega
       rcases this with rfl | rfl | rfl | rfl
       · exact h0
       · refine ⟨by omega, ?_⟩
         omega
       · refine ⟨by omega, ?_⟩
         omega
       · refine ⟨by omega, ?_⟩
         omega)
theorem dec_wide (s : ByteArray) (pos : Nat) (h : pos < s.size) (ha : 128 ≤ (s[pos]'h).toNat) :
    1 ≤ (Utf8.decode s pos).2 ∧ pos + (Utf8.decode s pos).2 ≤ s.size ∧ ∀ i (hi : i < s.size), pos ≤ i → i < pos + (Utf8.decode s pos).2 → 128 ≤ (s[i]'hi).toNat := by
  have h1 := (decode_high s pos h ha).2
  refine ⟨h1, ?_, fun i hi h2 h3 => ?_⟩
  · have := (dec_cont s pos h ha ((Utf8.decode s pos).2 - 1) (by omega)).1
    omega
  · have := (dec_cont s pos h ha (i - pos) (by omega)).2
    rw [show pos + (i - pos) = i by omega, get_lt s i hi] at this
    exact this
def rIn (lo hi r : Int) : Prop := lo ≤ r ∧ r ≤ hi
def iPl (r : Int) : Prop := r = 45 ∨ r = 95 ∨ r = 46 ∨ r = 47 ∨ (48 ≤ r ∧ r ≤ 57) ∨ (97 ≤ r ∧ r ≤ 122) ∨ (65 ≤ r ∧ r ≤ 90)
theorem iPl_nat (c : Nat) : iPl (c : Int) ↔ ePl c := by unfold iPl ePl; omega
set_option maxRecDepth 20000 in
theorem iTooLong (s : ByteArray) (w : World) : Calls Tryz.prog 94 #[.string s] w fun e w' => e = .returned (.bool (decide ((100000 : Int) < (s.size : Int)))) ∧ w' = w := by
  go_enter Tryz.func94, Tryz.ntmps94
  go_wp2
  go_ret
  exact ⟨rfl, rfl⟩
end Go.Proofs.YtokjfffcciddhaaGreatDoor
