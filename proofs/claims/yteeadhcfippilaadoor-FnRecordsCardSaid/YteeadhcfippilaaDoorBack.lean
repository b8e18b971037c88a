import Derived.Test.YteeadhcfippilaaDoorNumMath
import Derived.Test.YteeadhcfippilaaDoorTakeText
import Derived.Test.YteeadhcfippilaaDoorUnHex
import Derived.Test.YteeadhcfippilaaDoorHex
import Derived.Test.YteeadhcfippilaaDoorPutText
namespace Go.Proofs.YteeadhcfippilaaDoor
open Go.RowKit
def B8 (xs : List Int) : List UInt8 := xs.map fun n => UInt8.ofNat n.toNat
theorem B8_data (xs : List Int) : (strOfNums xs).data.toList = B8 xs := strOfNums_data xs
theorem byte_toNat (x : Int) (_ : 0 ≤ x) (h1 : x < 256) : (UInt8.ofNat x.toNat).toNat = x.toNat := by simp; omega

theorem putL_ne (f n : Nat) : putL f n ≠ [] := by
  cases f with
  | zero => simp [putL]
  | succ f => unfold putL; split <;> simp
theorem putL_form : ∀ (f n : Nat), n < 128 ^ (f + 1) → form (B8 (putL f n)) ∧ valL (B8 (putL f n)) = n := by
  intro f
  induction f with
  | zero =>
    intro n h
    have h' : n < 128 := by simpa using h
    have e := byte_toNat (n : Int) (by omega) (by omega)
    refine ⟨?_, ?_⟩
    · show (UInt8.ofNat (n : Int).toNat).toNat < 128; rw [e]; omega
    · show (UInt8.ofNat (n : Int).toNat).toNat % 128 + 128 * 0 = n; rw [e]; omega
  | succ f ih =>
    intro n h
    by_cases hn : n < 128
    · rw [putL_small _ _ hn]
      have e := byte_toNat (n : Int) (by omega) (by omega)
      refine ⟨?_, ?_⟩
      · show (UInt8.ofNat (n : Int).toNat).toNat < 128; rw [e]; omega
      · show (UInt8.ofNat (n : Int).toNat).toNat % 128 + 128 * 0 = n; rw [e]; omega
    · rw [putL_big f n (by omega)]
      have hd : n / 128 < 128 ^ (f + 1) := by rw [Nat.div_lt_iff_lt_mul (by decide)]; rw [Nat.pow_succ] at h; exact h
      obtain ⟨h1, h2⟩ := ih (n / 128) hd
      have e := byte_toNat (128 + (n : Int) % 128) (by omega) (by omega)
      have hx : (UInt8.ofNat (128 + (n : Int) % 128).toNat).toNat = 128 + n % 128 := by rw [e]; omega
      cases hp : putL f (n / 128) with
      | nil => exact absurd hp (putL_ne f _)
      | cons y l =>
        rw [hp] at h1 h2
        refine ⟨⟨by rw [hx]; omega, h1⟩, ?_⟩
        show (UInt8.ofNat (128 + (n : Int) % 128).toNat).toNat % 128 + 128 * valL (B8 (y :: l)) = n
        rw [hx, h2]; omega
theorem cnt_form : ∀ (l : List UInt8) (r : List UInt8) (f : Nat), form l → l.length ≤ f → cnt f (l ++ r) = some l.length
  | [], _, _, h, _ => h.elim
  | [b], r, 0, h, hl => by simp at hl
  | [b], r, f + 1, h, _ => by
    have h1 : b.toNat < 128 := h
    show (if b.toNat < 128 then some 1 else _) = some 1
    rw [if_pos h1]
  | x :: y :: l, r, 0, h, hl => by simp at hl
  | x :: y :: l, r, f + 1, h, hl => by
    have ih := cnt_form (y :: l) r f h.2 (by simpa using hl)
    have h1 := h.1
    show (if x.toNat < 128 then some 1 else (cnt f ((y :: l) ++ r)).map (· + 1)) = _
    rw [if_neg (by omega), ih]; rfl
theorem last_at : ∀ (l r : List UInt8), l ≠ [] → (l ++ r).getD (l.length - 1) 0 = lastB l
  | [], _, h => absurd rfl h
  | [b], _, _ => rfl
  | x :: y :: l, r, _ => by
    have ih := last_at (y :: l) r (by simp)
    simpa [lastB] using ih
theorem lastI_ne : ∀ xs : List Int, (∀ x ∈ xs, 0 ≤ x ∧ x < 256) → lastI xs ≠ 0 → lastB (B8 xs) ≠ 0
  | [], _, h => absurd rfl h
  | [x], hr, h => by
    have := hr x (by simp)
    intro h2
    have e : (UInt8.ofNat x.toNat).toNat = 0 := by have h3 : UInt8.ofNat x.toNat = 0 := h2; rw [h3]; rfl
    rw [byte_toNat x this.1 this.2] at e
    exact h (by show x = 0; omega)
  | _ :: y :: l, hr, h => lastI_ne (y :: l) (fun x hx => hr x (by simp [List.mem_cons] at hx ⊢; exact Or.inr hx)) h
/-- A number that was put is got, wherever it stands. -/
theorem get_put (s : ByteArray) (H R : List UInt8) (n : Nat) (hn : n < 9223372036854775808) (hs : s.data.toList = H ++ (putNum n).data.toList ++ R) : getNum s (H.length : Nat) = some (n, (putNum n).size) := by
  have hp : putNum (n : Int) = strOfNums (putL 8 n) := by unfold putNum; rw [if_neg (by omega), Int.toNat_natCast]
  have hlen : s.size = H.length + (putNum n).size + R.length := by
    have := congrArg List.length hs
    simp at this; omega
  rw [hp] at hs hlen ⊢
  have hsz : (strOfNums (putL 8 n)).size = (B8 (putL 8 n)).length := by rw [strOfNums_size]; simp [B8]
  rw [B8_data] at hs
  rw [hsz] at hlen ⊢
  have hr : restL s (H.length : Nat) = B8 (putL 8 n) ++ R := by
    unfold restL; rw [if_neg (by omega), Int.toNat_natCast, hs]; simp
  obtain ⟨hf, hv⟩ := putL_form 8 n hn
  have h9 : (B8 (putL 8 n)).length ≤ 9 := by have := putL_length 8 n; simpa [B8] using this
  have hc := cnt_form _ R 9 hf h9
  rw [getNum_some s _ _ (by rw [hr]; exact hc), hr]
  have hne : B8 (putL 8 n) ≠ [] := by intro h; rw [h] at hf; exact hf
  rw [last_at _ R hne, if_pos, List.take_left, hv]
  rcases putL_last 8 n hn with h | h
  · left; simpa [B8] using h
  · right; exact lastI_ne _ (putL_range 8 n hn) h
/-- A text that was put is got, wherever it stands. -/
theorem getText_put (s t : ByteArray) (H : List UInt8) (ht : t.size ≤ 100000) (hs : s.data.toList = H ++ (putText t).data.toList) : getText s (H.length : Nat) = some (t, ((H.length + (putText t).size : Nat) : Int)) := by
  have hp : putText t = putNum t.size ++ t := by unfold putText; rw [if_neg (by omega)]
  rw [hp] at hs ⊢
  have hd : (putNum t.size ++ t).data.toList = (putNum t.size).data.toList ++ t.data.toList := by simp [ByteArray.data_append]
  rw [hd, ← List.append_assoc] at hs
  have hz : (putNum t.size ++ t).size = (putNum t.size).size + t.size := by simp [ByteArray.size_append]
  rw [hz]
  have hg := get_put s H t.data.toList t.size (by omega) hs
  have hlen : s.size = H.length + (putNum t.size).size + t.size := by
    have := congrArg List.length hs
    simp at this; omega
  unfold getText
  rw [hg]
  simp only
  rw [if_neg (by omega)]
  have e1 : ((H.length : Nat) : Int) + ((putNum t.size).size : Nat) = ((H.length + (putNum t.size).size : Nat) : Int) := by omega
  have e2 : ((H.length : Nat) : Int) + ((putNum t.size).size : Nat) + (t.size : Nat) = ((H.length + (putNum t.size).size + t.size : Nat) : Int) := by omega
  have ex : s.extract (H.length + (putNum t.size).size) (H.length + (putNum t.size).size + t.size) = t := by
    apply ByteArray.ext
    apply Array.toList_inj.1
    rw [Lib.extract_data, hs]
    rw [List.drop_left' (by simp), Nat.add_sub_cancel_left, List.take_of_length_le (by simp)]
  rw [e2, e1, Int.toNat_natCast, Int.toNat_natCast, ex, Nat.add_assoc]
theorem dig_hexd (d : Nat) (h : d < 16) : dig (UInt8.ofNat (hexd d).toNat).toNat = some d := by
  rcases (by omega : d = 0 ∨ d = 1 ∨ d = 2 ∨ d = 3 ∨ d = 4 ∨ d = 5 ∨ d = 6 ∨ d = 7 ∨ d = 8 ∨ d = 9 ∨ d = 10 ∨ d = 11 ∨ d = 12 ∨ d = 13 ∨ d = 14 ∨ d = 15) with rfl | rfl | rfl | rfl | rfl | rfl | rfl | rfl | rfl | rfl | rfl | rfl | rfl | rfl | rfl | rfl <;> decide
theorem unhex_hexL : ∀ l : List UInt8, unhexL (B8 (hexL l)) = some (l.map fun c => (c.toNat : Int))
  | [] => rfl
  | c :: l => by
    have hc := c.toNat_lt
    have e : B8 (hexL (c :: l)) = UInt8.ofNat (hexd (c.toNat / 16)).toNat :: UInt8.ofNat (hexd (c.toNat % 16)).toNat :: B8 (hexL l) := rfl
    rw [e, unhex_c _ _ _ (c.toNat / 16) (c.toNat % 16) (dig_hexd _ (by omega)) (dig_hexd _ (by omega)), unhex_hexL l]
    simp; omega
def hexOf (s : ByteArray) : ByteArray := if 100000 < s.size then ByteArray.empty else strOfNums (hexL s.data.toList)
/-- Digits that were made of bytes give them back. -/
theorem unhex_hex (t : ByteArray) (ht : t.size ≤ 50000) : unhex (hexOf t) = some (t, ((2 * t.size : Nat) : Int)) := by
  have h1 : hexOf t = strOfNums (hexL t.data.toList) := by unfold hexOf; rw [if_neg (by omega)]
  have h2 : (hexOf t).size = 2 * t.size := by rw [h1, strOfNums_size, hexL_len]; simp
  have h3 : strOfNums (t.data.toList.map fun c => (c.toNat : Int)) = t := by
    apply ByteArray.ext
    apply Array.toList_inj.1
    rw [strOfNums_data]; exact ofNat_map _
  unfold unhex
  rw [if_neg (by omega), h2, h1, B8_data, unhex_hexL]
  show some (strOfNums _, _) = _
  rw [h3]
end Go.Proofs.YteeadhcfippilaaDoor
