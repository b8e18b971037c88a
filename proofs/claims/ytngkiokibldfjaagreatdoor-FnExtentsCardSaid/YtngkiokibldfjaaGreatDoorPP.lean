import Derived.Test.YtngkiokibldfjaaGreatDoorPD
import Derived.Test.YtngkiokibldfjaaGreatDoorPC
import Derived.Deep.RegionHeld3
import Derived.Deep.DrawnRows
import Derived.Deep.RegionLaw
import Derived.Test.YtngkiokibldfjaaGreatDoorPE
import Derived.Test.YtngkiokibldfjaaGreatDoorPF
import Derived.Test.YtngkiokibldfjaaGreatDoorPH
namespace Go.Proofs.YtngkiokibldfjaaGreatDoor
open Go.RowKit
def dig (c : Nat) : Option Nat := if 48 ≤ c ∧ c ≤ 57 then some (c - 48) else if 97 ≤ c ∧ c ≤ 102 then some (c - 87) else none
theorem dig_lt (c d : Nat) (h : dig c = some d) : d < 16 := by
  unfold dig at h
  split at h
  · have := Option.some.inj h; omega
  · split at h
    · have := Option.some.inj h; omega
    · cases h
def unhexL : List UInt8 → Option (List Int)
  | [] => some []
  | [_] => none
  | x :: y :: l => match dig x.toNat, dig y.toNat with
    | some a, some b => (unhexL l).map (((16 * a + b : Nat) : Int) :: ·)
    | _, _ => none
theorem unhex_c (x y : UInt8) (l : List UInt8) (a b : Nat) (ha : dig x.toNat = some a) (hb : dig y.toNat = some b) : unhexL (x :: y :: l) = (unhexL l).map (((16 * a + b : Nat) : Int) :: ·) := by
  rw [unhexL, ha, hb]
theorem unhex_n (x y : UInt8) (l : List UInt8) (h : dig x.toNat = none ∨ dig y.toNat = none) : unhexL (x :: y :: l) = none := by
  rw [unhexL]
  rcases h with h | h
  · rw [h]
  · rw [h]; cases dig x.toNat <;> rfl
theorem unhex_app : ∀ (l1 l2 : List UInt8) (xs : List Int), unhexL l1 = some xs → unhexL (l1 ++ l2) = (unhexL l2).map (xs ++ ·)
  | [], l2, xs, h => by
    have := Option.some.inj h; subst this
    simp
  | [_], l2, xs, h => by cases h
  | x :: y :: l, l2, xs, h => by
    show unhexL (x :: y :: (l ++ l2)) = _
    cases hx : dig x.toNat with
    | none => rw [unhex_n x y l (Or.inl hx)] at h; cases h
    | some a =>
      cases hy : dig y.toNat with
      | none => rw [unhex_n x y l (Or.inr hy)] at h; cases h
      | some b =>
        rw [unhex_c x y _ a b hx hy] at h ⊢
        obtain ⟨ys, hys, rfl⟩ := Option.map_eq_some_iff.1 h
        rw [unhex_app l l2 ys hys]
        generalize unhexL l2 = r
        cases r <;> simp
def unhex (s : ByteArray) : Option (ByteArray × Int) := if 100000 < s.size then none else (unhexL s.data.toList).map fun xs => (strOfNums xs, (s.size : Int))
/-- Two more bytes. -/
theorem unhex_two (s : ByteArray) (k : Nat) (xs : List Int) (h : unhexL (s.data.toList.take k) = some xs) (hk : k + 1 < s.size) :
    (∀ a b, dig s[k].toNat = some a → dig s[k + 1].toNat = some b → unhexL (s.data.toList.take (k + 2)) = some (xs ++ [((16 * a + b : Nat) : Int)])) ∧
    ((dig s[k].toNat = none ∨ dig s[k + 1].toNat = none) → unhexL s.data.toList = none) := by
  have e1 : s.data.toList.take (k + 2) = s.data.toList.take k ++ [s[k], s[k + 1]] := by
    rw [List.take_succ_eq_append_getElem (by simpa using hk), List.take_succ_eq_append_getElem (by simp; omega), List.append_assoc]; rfl
  refine ⟨fun a b ha hb => ?_, fun hn => ?_⟩
  · rw [e1, unhex_app _ _ xs h]
    rw [unhex_c _ _ _ a b ha hb]; simp [unhexL]
  · have e2 : s.data.toList = s.data.toList.take k ++ (s[k] :: s[k + 1] :: s.data.toList.drop (k + 2)) := by
      conv => lhs; rw [← List.take_append_drop (k + 2) s.data.toList, e1]
      simp
    rw [e2, unhex_app _ _ xs h, unhex_n _ _ _ hn]; rfl
/-- One byte more, the last. -/
theorem unhex_odd (s : ByteArray) (k : Nat) (xs : List Int) (h : unhexL (s.data.toList.take k) = some xs) (hk : k + 1 = s.size) : unhexL s.data.toList = none := by
  have e2 : s.data.toList = s.data.toList.take k ++ [s[k]] := by
    conv => lhs; rw [← List.take_of_length_le (l := s.data.toList) (i := k + 1) (by simp; omega)]
    rw [List.take_succ_eq_append_getElem (by simp; omega)]; rfl
  rw [e2, unhex_app _ _ xs h]; rfl
theorem unhex_len : ∀ (l : List UInt8) (xs : List Int), unhexL l = some xs → l.length = 2 * xs.length
  | [], xs, h => by have := Option.some.inj h; subst this; rfl
  | [_], xs, h => by cases h
  | x :: y :: l, xs, h => by
    cases hx : dig x.toNat with
    | none => rw [unhex_n x y l (Or.inl hx)] at h; cases h
    | some a =>
      cases hy : dig y.toNat with
      | none => rw [unhex_n x y l (Or.inr hy)] at h; cases h
      | some b =>
        rw [unhex_c x y _ a b hx hy] at h
        obtain ⟨ys, hys, rfl⟩ := Option.map_eq_some_iff.1 h
        have := unhex_len l ys hys
        simp; omega

theorem unhex_no (s : ByteArray) (h : s.size % 2 ≠ 0 ∨ 100000 < s.size) : unhex s = none := by
  unfold unhex
  split
  · rfl
  · cases hu : unhexL s.data.toList with
    | none => rfl
    | some xs => have := unhex_len _ xs hu; simp at this; omega

/-! ### the specification's -/
theorem ret_i {k : IntKind} {a b : Int} (h : a = b) : Ending.returned (.int k a) = .returned (.int k b) := by rw [h]
def digI (c : Nat) : Int := match dig c with
  | some d => d
  | none => -1
end Go.Proofs.YtngkiokibldfjaaGreatDoor
namespace Go.Proofs.YtngkiokibldfjaaGreatDoor
open Go.RowKit
def hexd (n : Nat) : Int := if n < 10 then 48 + n else 87 + n
def hexByte (c : UInt8) : List Int := [hexd (c.toNat / 16), hexd (c.toNat % 16)]
def hexL (l : List UInt8) : List Int := l.flatMap hexByte
theorem hexL_snoc (l : List UInt8) (c : UInt8) : hexL (l ++ [c]) = hexL l ++ hexByte c := by simp [hexL]
theorem hexL_len (l : List UInt8) : (hexL l).length = 2 * l.length := by
  induction l with
  | nil => rfl
  | cons c l ih => simp [hexL, hexByte] at ih ⊢; omega
theorem take_snoc' (s : ByteArray) (k : Nat) (h : k < s.size) : s.data.toList.take (k + 1) = s.data.toList.take k ++ [s[k]] := by
  rw [List.take_succ_eq_append_getElem (by simpa using h)]; rfl

theorem ix_digs (n : Nat) (h : n < 16) (x : Int) (hx : x = (n : Int)) (w : World) : (Instr.index 9 (.string { data := #[48, 49, 50, 51, 52, 53, 54, 55, 56, 57, 97, 98, 99, 100, 101, 102] }) (.int .u8 x)).run Tryz.prog w = .ok (.int .u8 (hexd n)) w := by
  subst hx
  rcases (by omega : n = 0 ∨ n = 1 ∨ n = 2 ∨ n = 3 ∨ n = 4 ∨ n = 5 ∨ n = 6 ∨ n = 7 ∨ n = 8 ∨ n = 9 ∨ n = 10 ∨ n = 11 ∨ n = 12 ∨ n = 13 ∨ n = 14 ∨ n = 15) with rfl | rfl | rfl | rfl | rfl | rfl | rfl | rfl | rfl | rfl | rfl | rfl | rfl | rfl | rfl | rfl <;> kernel_rfl

end Go.Proofs.YtngkiokibldfjaaGreatDoor
namespace Go.Proofs.YtngkiokibldfjaaGreatDoor
open Go.RowKit
def B8 (xs : List Int) : List UInt8 := xs.map fun n => UInt8.ofNat n.toNat
theorem B8_data (xs : List Int) : (strOfNums xs).data.toList = B8 xs := strOfNums_data xs
theorem byte_toNat (x : Int) (_ : 0 ≤ x) (h1 : x < 256) : (UInt8.ofNat x.toNat).toNat = x.toNat := by simp; omega

theorem putL_ne (f n : Nat) : putL f n ≠ [] := by
  cases f with
  | zero => simp [putL]
  | succ f => unfold putL; split <;> simp
theorem putL_form : ∀ (f n : Nat), n < 128 ^ (f + 1) → form (B8 (putL f n)) ∧ valL (B8 (putL f n)) = n := by
  intro f
  induction f with
  | zero =>
    intro n h
    have h' : n < 128 := by simpa using h
    have e := byte_toNat (n : Int) (by omega) (by omega)
    refine ⟨?_, ?_⟩
    · show (UInt8.ofNat (n : Int).toNat).toNat < 128; rw [e]; omega
    · show (UInt8.ofNat (n : Int).toNat).toNat % 128 + 128 * 0 = n; rw [e]; omega
  | succ f ih =>
    intro n h
    by_cases hn : n < 128
    · rw [putL_small _ _ hn]
      have e := byte_toNat (n : Int) (by omega) (by omega)
      refine ⟨?_, ?_⟩
      · show (UInt8.ofNat (n : Int).toNat).toNat < 128; rw [e]; omega
      · show (UInt8.ofNat (n : Int).toNat).toNat % 128 + 128 * 0 = n; rw [e]; omega
    · rw [putL_big f n (by omega)]
      have hd : n / 128 < 128 ^ (f + 1) := by rw [Nat.div_lt_iff_lt_mul (by decide)]; rw [Nat.pow_succ] at h; exact h
      obtain ⟨h1, h2⟩ := ih (n / 128) hd
      have e := byte_toNat (128 + (n : Int) % 128) (by omega) (by omega)
      have hx : (UInt8.ofNat (128 + (n : Int) % 128).toNat).toNat = 128 + n % 128 := by rw [e]; omega
      cases hp : putL f (n / 128) with
      | nil => exact absurd hp (putL_ne f _)
      | cons y l =>
        rw [hp] at h1 h2
        refine ⟨⟨by rw [hx]; omega, h1⟩, ?_⟩
        show (UInt8.ofNat (128 + (n : Int) % 128).toNat).toNat % 128 + 128 * valL (B8 (y :: l)) = n
        rw [hx, h2]; omega
theorem cnt_form : ∀ (l : List UInt8) (r : List UInt8) (f : Nat), form l → l.length ≤ f → cnt f (l ++ r) = some l.length
  | [], _, _, h, _ => h.elim
  | [b], r, 0, h, hl => by simp at hl
  | [b], r, f + 1, h, _ => by
    have h1 : b.toNat < 128 := h
    show (if b.toNat < 128 then some 1 else _) = some 1
    rw [if_pos h1]
  | x :: y :: l, r, 0, h, hl => by simp at hl
  | x :: y :: l, r, f + 1, h, hl => by
    have ih := cnt_form (y :: l) r f h.2 (by simpa using hl)
    have h1 := h.1
    show (if x.toNat < 128 then some 1 else (cnt f ((y :: l) ++ r)).map (· + 1)) = _
    rw [if_neg (by omega), ih]; rfl
theorem last_at : ∀ (l r : List UInt8), l ≠ [] → (l ++ r).getD (l.length - 1) 0 = lastB l
  | [], _, h => absurd rfl h
  | [b], _, _ => rfl
  | x :: y :: l, r, _ => by
    have ih := last_at (y :: l) r (by simp)
    simpa [lastB] using ih
theorem lastI_ne : ∀ xs : List Int, (∀ x ∈ xs, 0 ≤ x ∧ x < 256) → lastI xs ≠ 0 → lastB (B8 xs) ≠ 0
  | [], _, h => absurd rfl h
  | [x], hr, h => by
    have := hr x (by simp)
    intro h2
    have e : (UInt8.ofNat x.toNat).toNat = 0 := by have h3 : UInt8.ofNat x.toNat = 0 := h2; rw [h3]; rfl
    rw [byte_toNat x this.1 this.2] at e
    exact h (by show x = 0; omega)
  | _ :: y :: l, hr, h => lastI_ne (y :: l) (fun x hx => hr x (by simp [List.mem_cons] at hx ⊢; exact Or.inr hx)) h
/-- A number that was put is got, wherever it stands. -/
theorem get_put (s : ByteArray) (H R : List UInt8) (n : Nat) (hn : n < 9223372036854775808) (hs : s.data.toList = H ++ (putNum n).data.toList ++ R) : getNum s (H.length : Nat) = some (n, (putNum n).size) := by
  have hp : putNum (n : Int) = strOfNums (putL 8 n) := by unfold putNum; rw [if_neg (by omega), Int.toNat_natCast]
  have hlen : s.size = H.length + (putNum n).size + R.length := by
    have := congrArg List.length hs
    simp at this; omega
  rw [hp] at hs hlen ⊢
  have hsz : (strOfNums (putL 8 n)).size = (B8 (putL 8 n)).length := by rw [strOfNums_size]; simp [B8]
  rw [B8_data] at hs
  rw [hsz] at hlen ⊢
  have hr : restL s (H.length : Nat) = B8 (putL 8 n) ++ R := by
    unfold restL; rw [if_neg (by omega), Int.toNat_natCast, hs]; simp
  obtain ⟨hf, hv⟩ := putL_form 8 n hn
  have h9 : (B8 (putL 8 n)).length ≤ 9 := by have := putL_length 8 n; simpa [B8] using this
  have hc := cnt_form _ R 9 hf h9
  rw [getNum_some s _ _ (by rw [hr]; exact hc), hr]
  have hne : B8 (putL 8 n) ≠ [] := by intro h; rw [h] at hf; exact hf
  rw [last_at _ R hne, if_pos, List.take_left, hv]
  rcases putL_last 8 n hn with h | h
  · left; simpa [B8] using h
  · right; exact lastI_ne _ (putL_range 8 n hn) h
/-- A text that was put is got, wherever it stands. -/
theorem getText_put (s t : ByteArray) (H : List UInt8) (ht : t.size ≤ 100000) (hs : s.data.toList = H ++ (putText t).data.toList) : getText s (H.length : Nat) = some (t, ((H.length + (putText t).size : Nat) : Int)) := by
  have hp : putText t = putNum t.size ++ t := by unfold putText; rw [if_neg (by omega)]
  rw [hp] at hs ⊢
  have hd : (putNum t.size ++ t).data.toList = (putNum t.size).data.toList ++ t.data.toList := by simp [ByteArray.data_append]
  rw [hd, ← List.append_assoc] at hs
  have hz : (putNum t.size ++ t).size = (putNum t.size).size + t.size := by simp [ByteArray.size_append]
  rw [hz]
  have hg := get_put s H t.data.toList t.size (by omega) hs
  have hlen : s.size = H.length + (putNum t.size).size + t.size := by
    have := congrArg List.length hs
    simp at this; omega
  unfold getText
  rw [hg]
  simp only
  rw [if_neg (by omega)]
  have e1 : ((H.length : Nat) : Int) + ((putNum t.size).size : Nat) = ((H.length + (putNum t.size).size : Nat) : Int) := by omega
  have e2 : ((H.length : Nat) : Int) + ((putNum t.size).size : Nat) + (t.size : Nat) = ((H.length + (putNum t.size).size + t.size : Nat) : Int) := by omega
  have ex : s.extract (H.length + (putNum t.size).size) (H.length + (putNum t.size).size + t.size) = t := by
    apply ByteArray.ext
    apply Array.toList_inj.1
    rw [Lib.extract_data, hs]
    rw [List.drop_left' (by simp), Nat.add_sub_cancel_left, List.take_of_length_le (by simp)]
  rw [e2, e1, Int.toNat_natCast, Int.toNat_natCast, ex, Nat.add_assoc]
theorem dig_hexd (d : Nat) (h : d < 16) : dig (UInt8.ofNat (hexd d).toNat).toNat = some d := by
  rcases (by omega : d = 0 ∨ d = 1 ∨ d = 2 ∨ d = 3 ∨ d = 4 ∨ d = 5 ∨ d = 6 ∨ d = 7 ∨ d = 8 ∨ d = 9 ∨ d = 10 ∨ d = 11 ∨ d = 12 ∨ d = 13 ∨ d = 14 ∨ d = 15) with rfl | rfl | rfl | rfl | rfl | rfl | rfl | rfl | rfl | rfl | rfl | rfl | rfl | rfl | rfl | rfl <;> decide
theorem unhex_hexL : ∀ l : List UInt8, unhexL (B8 (hexL l)) = some (l.map fun c => (c.toNat : Int))
  | [] => rfl
  | c :: l => by
    have hc := c.toNat_lt
    have e : B8 (hexL (c :: l)) = UInt8.ofNat (hexd (c.toNat / 16)).toNat :: UInt8.ofNat (hexd (c.toNat % 16)).toNat :: B8 (hexL l) := rfl
    rw [e, unhex_c _ _ _ (c.toNat / 16) (c.toNat % 16) (dig_hexd _ (by omega)) (dig_hexd _ (by omega)), unhex_hexL l]
    simp; omega
def hexOf (s : ByteArray) : ByteArray := if 100000 < s.size then ByteArray.empty else strOfNums (hexL s.data.toList)
/-- Digits that were made of bytes give them back. -/
theorem unhex_hex (t : ByteArray) (ht : t.size ≤ 50000) : unhex (hexOf t) = some (t, ((2 * t.size : Nat) : Int)) := by
  have h1 : hexOf t = strOfNums (hexL t.data.toList) := by unfold hexOf; rw [if_neg (by omega)]
  have h2 : (hexOf t).size = 2 * t.size := by rw [h1, strOfNums_size, hexL_len]; simp
  have h3 : strOfNums (t.data.toList.map fun c => (c.toNat : Int)) = t := by
    apply ByteArray.ext
    apply Array.toList_inj.1
    rw [strOfNums_data]; exact ofNat_map _
  unfold unhex
  rw [if_neg (by omega), h2, h1, B8_data, unhex_hexL]
  show some (strOfNums _, _) = _
  rw [h3]
end Go.Proofs.YtngkiokibldfjaaGreatDoor
namespace Go.Proofs.YtngkiokibldfjaaGreatDoor
open Go.RowKit
/-! Two sums that part once part for ever. -/
theorem step_inj (s s' : Int) (c : UInt8) (h : sumStep s c = sumStep s' c) : (s - s') % 2147483647 = 0 := by
  unfold sumStep at h
  obtain ⟨k, hk⟩ : ∃ k, (s - s') * 65539 = 2147483647 * k := ⟨(s - s') * 65539 / 2147483647, by omega⟩
  have e : s - s' = 2147483647 * (k * 1840690907 - 56176 * (s - s')) := by omega
  rw [e]; exact Int.mul_emod_right _ _
theorem step_rng (s : Int) (c : UInt8) : 0 ≤ sumStep s c ∧ sumStep s c < 2147483647 := by unfold sumStep; omega
theorem sumL_parts : ∀ (l : List UInt8) (s s' : Int), 0 ≤ s → s < 2147483647 → 0 ≤ s' → s' < 2147483647 → s ≠ s' → sumL s l ≠ sumL s' l
  | [], _, _, _, _, _, _, h => h
  | c :: l, s, s', h1, h2, h3, h4, h => by
    refine sumL_parts l (sumStep s c) (sumStep s' c) (step_rng s c).1 (step_rng s c).2 (step_rng s' c).1 (step_rng s' c).2 ?_
    intro he
    have := step_inj s s' c he
    omega
theorem sumL_app (s : Int) (l l' : List UInt8) : sumL s (l ++ l') = sumL (sumL s l) l' := by simp [sumL]
/-- A text with one byte turned has another sum. -/
theorem sum_turned (s : Int) (l r : List UInt8) (c d : UInt8) (h : c ≠ d) : sumL s (l ++ c :: r) ≠ sumL s (l ++ d :: r) := by
  rw [sumL_app, sumL_app]
  refine sumL_parts r (sumStep (sumL s l) c) (sumStep (sumL s l) d) (step_rng _ c).1 (step_rng _ c).2 (step_rng _ d).1 (step_rng _ d).2 ?_
  intro he
  have hc := c.toNat_lt
  have hd := d.toNat_lt
  have hne : c.toNat ≠ d.toNat := fun h2 => h (UInt8.toNat_inj.1 h2)
  unfold sumStep at he
  omega
end Go.Proofs.YtngkiokibldfjaaGreatDoor
namespace Go.Proofs.YtngkiokibldfjaaGreatDoor
open Go.RowKit
/-! A record that was put is read; with one byte turned it is not read as one of its length. -/
theorem span_put (s t : ByteArray) (H R : List UInt8) (M : Nat) (ht : t.size ≤ M) (hM : M ≤ 100000) (hs : s.data.toList = H ++ (putText t).data.toList ++ R) :
    spanN s H.length M = some (H.length + (putNum t.size).size, t.size) ∧ s.extract (H.length + (putNum t.size).size) (H.length + (putNum t.size).size + t.size) = t ∧ (putText t).size = (putNum t.size).size + t.size := by
  have hp : putText t = putNum t.size ++ t := by unfold putText; rw [if_neg (by omega)]
  have hz : (putText t).size = (putNum t.size).size + t.size := by rw [hp, ByteArray.size_append]
  have hd : s.data.toList = H ++ (putNum t.size).data.toList ++ (t.data.toList ++ R) := by rw [hs, hp, ba_app]; simp [List.append_assoc]
  have hg := get_put s H (t.data.toList ++ R) t.size (by omega) hd
  have hlen : s.size = H.length + (putNum t.size).size + t.size + R.length := by
    have := congrArg List.length hd
    simp at this; omega
  refine ⟨?_, ?_, hz⟩
  · unfold spanN; rw [hg]; simp only; rw [if_pos ⟨ht, by omega⟩]
  · apply ba_ext
    rw [ex_data, hd, Nat.add_sub_cancel_left, List.drop_left' (by simp), List.take_left' (by simp)]
theorem byteAt_mid (s : ByteArray) (H R : List UInt8) (b : UInt8) (hs : s.data.toList = H ++ b :: R) : byteAt s H.length = b.toNat := by
  unfold byteAt
  rw [hs, List.getD_eq_getElem?_getD, List.getElem?_append_right (Nat.le_refl _), Nat.sub_self]; rfl
theorem rec_put (s k d : ByteArray) (g : Bool) (H R : List UInt8) (hok : RecOk k g d) (hs : s.data.toList = H ++ (recV k g d).data.toList ++ R) :
    ∃ f, getRec s (H.length : Nat) = some f ∧ s.extract f.kat (f.kat + f.ksz) = k ∧ f.gone = g ∧ s.extract f.bat (f.bat + f.bsz) = d ∧ f.at' = H.length ∧ f.next = H.length + (recV k g d).size := by
  have hv : recV k g d = recT k g d ++ four (sumOf (recT k g d) 5) := if_pos hok
  obtain ⟨o1, o2, o3, o4⟩ := id hok
  obtain ⟨gb, hgb⟩ : ∃ b : UInt8, b = if g then 1 else 0 := ⟨_, rfl⟩
  have hT : (recT k g d).data.toList = 231 :: ((putText k).data.toList ++ gb :: (putText d).data.toList) := by
    unfold recT
    rw [ba_app, ba_app, ba_app, hgb]
    cases g <;> simp
  have hd : s.data.toList = H ++ 231 :: ((putText k).data.toList ++ gb :: ((putText d).data.toList ++ ((four (sumOf (recT k g d) 5)).data.toList ++ R))) := by
    rw [hs, hv, ba_app, hT]; simp [List.append_assoc]
  have f4 : (four (sumOf (recT k g d) 5)).data.toList.length = 4 := by have := four_size (sumOf (recT k g d) 5); simpa using this
  have hd1 : s.data.toList = (H ++ [231]) ++ (putText k).data.toList ++ (gb :: ((putText d).data.toList ++ ((four (sumOf (recT k g d) 5)).data.toList ++ R))) := by rw [hd]; simp [List.append_assoc]
  obtain ⟨s1, x1, z1⟩ := span_put s k (H ++ [231]) _ 100000 (by omega) (Nat.le_refl _) hd1
  have l1 : (H ++ [(231 : UInt8)]).length = H.length + 1 := by simp
  rw [l1] at s1 x1
  have hd2 : s.data.toList = (H ++ 231 :: (putText k).data.toList) ++ gb :: ((putText d).data.toList ++ ((four (sumOf (recT k g d) 5)).data.toList ++ R)) := by rw [hd]; simp [List.append_assoc]
  have l2 : (H ++ 231 :: (putText k).data.toList).length = H.length + 1 + (putText k).size := by simp; omega
  have b2 := byteAt_mid s _ _ gb hd2
  rw [l2] at b2
  have hd3 : s.data.toList = (H ++ 231 :: (putText k).data.toList ++ [gb]) ++ (putText d).data.toList ++ ((four (sumOf (recT k g d) 5)).data.toList ++ R) := by rw [hd]; simp [List.append_assoc]
  obtain ⟨s3, x3, z3⟩ := span_put s d _ _ 100000 o4 (Nat.le_refl _) hd3
  have l3 : (H ++ 231 :: (putText k).data.toList ++ [gb]).length = H.length + 1 + (putText k).size + 1 := by simp; omega
  rw [l3] at s3 x3
  have hlen : s.size = H.length + 1 + (putText k).size + 1 + (putText d).size + 4 + R.length := by
    have := congrArg List.length hd
    simp [-ByteArray.size_data] at this
    have e1 : (putText k).data.size = (putText k).size := rfl
    have e2 : (putText d).data.size = (putText d).size := rfl
    have e3 : s.data.size = s.size := rfl
    have e4 : (four (sumOf (recT k g d) 5)).data.size = 4 := four_size _
    omega
  have bm := byteAt_mid s H _ 231 hd
  obtain ⟨ka, hka⟩ : ∃ x, x = H.length + 1 + (putNum k.size).size := ⟨_, rfl⟩
  obtain ⟨ba, hba⟩ : ∃ x, x = H.length + 1 + (putText k).size + 1 + (putNum d.size).size := ⟨_, rfl⟩
  rw [← hka] at s1 x1
  rw [← hba] at s3 x3
  have eq : H.length + 1 + (putText k).size = ka + k.size := by omega
  rw [eq] at b2 s3
  have szV : (recV k g d).size = 1 + (putText k).size + 1 + (putText d).size + 4 := by
    rw [hv, ByteArray.size_append, four_size]
    have := congrArg List.length hT
    have e0 : (recT k g d).data.toList.length = (recT k g d).size := by simp
    have e1 : (putText k).data.toList.length = (putText k).size := by simp
    have e2 : (putText d).data.toList.length = (putText d).size := by simp
    rw [e0] at this
    simp only [List.length_cons, List.length_append, e1, e2] at this
    omega
  have gg : g = (byteAt s (ka + k.size) == 1) := by rw [b2, hgb]; cases g <;> rfl
  have C := (rec_iff s H.length ka k.size ba d.size (by omega) bm s1 (by omega) s3 (by omega) g gg).1 (by
    rw [x1, x3]
    refine ⟨hok, ?_⟩
    apply ba_ext
    rw [ex_data, hs, List.append_assoc, List.drop_left, List.take_left']
    have : (recV k g d).data.toList.length = (recV k g d).size := by simp
    rw [this, szV]; omega)
  refine ⟨⟨ka, k.size, g, ba, d.size, H.length, ba + d.size + 4⟩, ?_, x1, rfl, x3, rfl, ?_⟩
  · rw [getRec_at s H.length (by omega) bm, s1]
    simp only
    rw [if_neg (by omega), s3]
    simp only
    rw [if_neg (by omega), if_pos (show RecC s H.length ka k.size ba d.size from ⟨C.1, C.2.1, C.2.2.1, by rw [← gg]; exact C.2.2.2.1, C.2.2.2.2⟩), ← gg]
  · show ba + d.size + 4 = _
    rw [szV]; omega
theorem sum5 (T : ByteArray) (h : T.size ≤ 400000) : sumOf T 5 = sumL 6 T.data.toList := by unfold sumOf; rw [if_neg (by omega)]; rfl
theorem turned_no (H : List UInt8) (T s : ByteArray) (hT : T.size ≤ 400000) (j : Nat) (x : UInt8) (q : List UInt8) (hq : q = T.data.toList ++ (four (sumOf T 5)).data.toList) (hj : j < q.length) (hx : x ≠ q[j])
    (hs : s.data.toList = H ++ q.set j x) : ¬ sumOf (s.extract H.length (H.length + T.size)) 5 = sum4 s (H.length + T.size) := by
  have lT : T.data.toList.length = T.size := by simp
  have l4 : (four (sumOf T 5)).data.toList.length = 4 := by have := four_size (sumOf T 5); simpa using this
  have lq : q.length = T.size + 4 := by rw [hq, List.length_append, lT, l4]
  have lS : s.size = H.length + T.size + 4 := by
    have := congrArg List.length hs
    have e : s.data.toList.length = s.size := by simp
    rw [e] at this
    simp [lq] at this; omega
  have e1 : (s.extract H.length (H.length + T.size)).data.toList = (q.set j x).take T.size := by rw [ex_data, hs, List.drop_left, Nat.add_sub_cancel_left]
  have e2 : (s.extract (H.length + T.size) (H.length + T.size + 4)).data.toList = (q.set j x).drop T.size := by
    rw [ex_data, hs, Nat.add_sub_cancel_left, ← List.drop_drop, List.drop_left, List.take_of_length_le]
    simp [lq]
  have sbd : 0 ≤ sumOf T 5 ∧ sumOf T 5 ≤ 2147483647 := by rw [sum5 T hT]; exact sumL_bd _ _ (by decide) (by decide)
  have tq : q.take T.size = T.data.toList := by rw [hq, List.take_left' lT]
  have dq : q.drop T.size = (four (sumOf T 5)).data.toList := by rw [hq, List.drop_left' lT]
  intro h
  by_cases c : j < T.size
  · have f : four (sumOf T 5) = s.extract (H.length + T.size) (H.length + T.size + 4) := by
      apply ba_ext
      rw [e2, List.drop_set_of_lt c, dq]
    have g := (four_iff s (H.length + T.size) (by omega) _ sbd.1 sbd.2).1 f
    rw [← g, sum5 T hT, sum5 _ (by rw [ex_size s _ _ (by omega)]; omega), e1, List.take_set, tq] at h
    have cT : j < T.data.toList.length := by omega
    have sp : T.data.toList = T.data.toList.take j ++ T.data.toList[j] :: T.data.toList.drop (j + 1) := by
      rw [← List.drop_eq_getElem_cons cT, List.take_append_drop]
    have st : T.data.toList.set j x = T.data.toList.take j ++ x :: T.data.toList.drop (j + 1) := by
      rw [List.set_eq_take_append_cons_drop, if_pos cT]
    rw [st] at h
    conv at h => rhs; rw [sp]
    refine sum_turned 6 _ _ x T.data.toList[j] ?_ h
    intro r
    apply hx
    rw [r]
    have : q[j]? = some T.data.toList[j] := by rw [hq, List.getElem?_append_left cT, List.getElem?_eq_getElem cT]
    rw [List.getElem?_eq_getElem hj] at this
    exact (Option.some.inj this).symm
  · have e1' : s.extract H.length (H.length + T.size) = T := by
      apply ba_ext
      rw [e1, List.take_set, tq, List.set_eq_of_length_le (by omega)]
    rw [e1'] at h
    have f := (four_iff s (H.length + T.size) (by omega) _ sbd.1 sbd.2).2 h
    have f2 := congrArg (fun b => b.data.toList[j - T.size]?) f
    simp only [e2] at f2
    rw [← dq, List.getElem?_drop, List.getElem?_drop, show T.size + (j - T.size) = j by omega, List.getElem?_set_self (by omega), List.getElem?_eq_getElem hj] at f2
    exact hx (Option.some.inj f2).symm
end Go.Proofs.YtngkiokibldfjaaGreatDoor
