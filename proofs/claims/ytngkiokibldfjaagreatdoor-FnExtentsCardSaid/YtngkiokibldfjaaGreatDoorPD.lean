import Derived.Test.YtngkiokibldfjaaGreatDoorPC
import Derived.Deep.RegionHeld3
import Derived.Deep.DrawnRows
import Derived.BigQuiet
import Derived.Deep.QuietTactic
namespace Go.Proofs.YtngkiokibldfjaaGreatDoor
open Go.RowKit

/-! A cursor: a block of two cells, the data and the place. -/
def CurAt (w : World) (c : Nat) (s : ByteArray) (at' : Int) : Prop := w.heap[c]? = some (.cells #[.string s, .int .i64 at'] 183 (0, 0))
theorem CurAt.data {w : World} {c : Nat} {s : ByteArray} {p : Int} (h : CurAt w c s p) : w.cell? ⟨c, 0, none⟩ = some (.string s) := by rw [cell_of_row w c 0 _ _ _ h]; rfl
theorem CurAt.place {w : World} {c : Nat} {s : ByteArray} {p : Int} (h : CurAt w c s p) : w.cell? ⟨c, 1, none⟩ = some (.int .i64 p) := by rw [cell_of_row w c 1 _ _ _ h]; rfl
theorem CurAt.free {w : World} {c : Nat} {s : ByteArray} {p : Int} (h : CurAt w c s p) : w.frozen? ⟨c, 1, none⟩ = false := by
  have h' : w.heap[c]? = some (.cells #[.string s, .int .i64 p] 183 (0, 0)) := h
  simp [World.frozen?, h']
theorem CurAt.lt {w : World} {c : Nat} {s : ByteArray} {p : Int} (h : CurAt w c s p) : c < w.heap.size := by
  rcases Nat.lt_or_ge c w.heap.size with h1 | h1
  · exact h1
  · have h' : w.heap[c]? = some (.cells #[.string s, .int .i64 p] 183 (0, 0)) := h
    rw [Array.getElem?_eq_none h1] at h'; cases h'
theorem CurAt.set {w : World} {c : Nat} {s : ByteArray} {p : Int} (h : CurAt w c s p) (q : Int) : CurAt (w.setCell ⟨c, 1, none⟩ (.int .i64 q)) c s q := by
  have h' : w.heap[c]? = some (.cells #[.string s, .int .i64 p] 183 (0, 0)) := h
  have hl := h.lt
  have h2 : w.heap[c] = .cells #[.string s, .int .i64 p] 183 (0, 0) := by rw [Array.getElem?_eq_getElem hl] at h'; exact Option.some.inj h'
  unfold CurAt
  simp [World.setCell, hl, Array.getElem_modify, h2]
theorem CurAt.drewN {w : World} {c : Nat} {s : ByteArray} {p : Int} (h : CurAt w c s p) (n : Nat) : CurAt (w.drewN n) c s p := h
theorem grown_drew {a b : World} {r : Option Nat} (h : a.grownBy b r) : a.grownBy b.drew r := ⟨h.os, h.tape, h.output, h.size, h.block⟩

def leftI (s : ByteArray) (p : Int) : Int := if p < 0 ∨ s.size < p then 0 else s.size - p

set_option maxHeartbeats 400000 in
theorem left_all (c : Nat) (s : ByteArray) (p : Int) (w : World) (hc : CurAt w c s p) (hs : s.size ≤ 1048576) :
    Calls Tryz.prog 126 #[.pointer (some ⟨c, 0, none⟩)] w fun e w' => e = .returned (.int .i64 (leftI s p)) ∧ w' = w := by
  have h0 := hc.data
  have h1 := hc.place
  unfold leftI
  by_cases a : p < 0
  · have d0 : decide (p < 0) = true := by simp; omega
    rw [if_pos (Or.inl a)]
    go_enter Tryz.func126, Tryz.ntmps126
    go_wp2
    go_ret
    exact ⟨rfl, rfl⟩
  · have d0 : decide (p < 0) = false := by simp; omega
    by_cases b : s.size < p
    · have d1 : decide ((s.size : Int) < p) = true := by simp; omega
      rw [if_pos (Or.inr b)]
      go_enter Tryz.func126, Tryz.ntmps126
      go_wp2
      go_ret
      exact ⟨rfl, rfl⟩
    · have d1 : decide ((s.size : Int) < p) = false := by simp; omega
      rw [if_neg (by omega)]
      go_enter Tryz.func126, Tryz.ntmps126
      go_wp2
      go_ret
      exact ⟨rfl, rfl⟩

set_option maxRecDepth 20000 in
set_option maxHeartbeats 400000 in
theorem byte_yes (c : Nat) (s : ByteArray) (k : Nat) (w : World) (hc : CurAt w c s k) (hs : s.size ≤ 1048576) (hk : k < s.size) :
    Calls Tryz.prog 123 #[.pointer (some ⟨c, 0, none⟩)] w fun e w' => e = .returned (.tuple #[.int .u8 s[k].toNat, .bool true]) ∧ CurAt w' c s (k + 1 : Nat) ∧ w.grownBy w' (some c) := by
  have h0 := hc.data
  have h1 := hc.place
  have h2 := hc.free
  have hl : (leftI s k == 0) = false := by simp [leftI]; omega
  have i0 : (0 : Int) ≤ (k : Int) := by omega
  have i1 : (k : Int) < (s.size : Int) := by omega
  go_enter Tryz.func123, Tryz.ntmps123
  go_wp2_with fail
  refine (left_all c s k _ hc hs).mono ?_
  rintro e w' ⟨rfl, rfl⟩
  go_wp2_with fail
  go_quiet (fail)
  go_wp2
  go_ret2
  exact ⟨rfl, by simpa using (hc.drewN nq).set (k + 1), grown_trans (grown_drewN _ nq _) grown_set⟩

set_option maxHeartbeats 400000 in
theorem byte_no (c : Nat) (s : ByteArray) (p : Int) (w : World) (hc : CurAt w c s p) (hs : s.size ≤ 1048576) (hk : leftI s p = 0) :
    Calls Tryz.prog 123 #[.pointer (some ⟨c, 0, none⟩)] w fun e w' => e = .returned (.tuple #[.int .u8 0, .bool false]) ∧ w' = w := by
  have hl : (leftI s p == 0) = true := by simp [hk]
  have HK : Hid (leftI s p = 0) := hk
  clear hk
  go_enter Tryz.func123, Tryz.ntmps123
  go_wp2_with fail
  refine (left_all c s p _ hc hs).mono ?_
  rintro e w' ⟨rfl, rfl⟩
  go_wp2
  go_ret2
  exact ⟨rfl, rfl⟩

/-! ### What takeNum comes to -/
/-- How many bytes a number takes that begins the list, at most f. -/
def cnt : Nat → List UInt8 → Option Nat
  | 0, _ => none
  | _ + 1, [] => none
  | f + 1, b :: l => if b.toNat < 128 then some 1 else (cnt f l).map (· + 1)
theorem cnt_hit : ∀ (f k : Nat) (l : List UInt8) (b : UInt8), (∀ i, i < k → ∃ x, l[i]? = some x ∧ 128 ≤ x.toNat) → l[k]? = some b → b.toNat < 128 → k < f → cnt f l = some (k + 1)
  | 0, k, l, b, _, _, _, h => by omega
  | f + 1, k, [], b, _, h, _, _ => by simp at h
  | f + 1, 0, x :: l, b, _, h, hb, _ => by simp at h; subst h; simp [cnt, hb]
  | f + 1, k + 1, x :: l, b, ha, h, hb, hk => by
    obtain ⟨y, hy, hy2⟩ := ha 0 (by omega)
    simp at hy; subst hy
    have ih := cnt_hit f k l b (fun i hi => by obtain ⟨z, hz, hz2⟩ := ha (i + 1) (by omega); exact ⟨z, by simpa using hz, hz2⟩) (by simpa using h) hb (by omega)
    simp [cnt, show ¬ x.toNat < 128 by omega, ih]
theorem cnt_end : ∀ (f k : Nat) (l : List UInt8), (∀ i, i < k → ∃ x, l[i]? = some x ∧ 128 ≤ x.toNat) → (k = f ∨ (l.length = k ∧ k ≤ f)) → cnt f l = none
  | 0, _, _, _, _ => rfl
  | f + 1, k, [], _, _ => rfl
  | f + 1, 0, x :: l, _, h => by simp at h
  | f + 1, k + 1, x :: l, ha, h => by
    obtain ⟨y, hy, hy2⟩ := ha 0 (by omega)
    simp at hy; subst hy
    have ih := cnt_end f k l (fun i hi => by obtain ⟨z, hz, hz2⟩ := ha (i + 1) (by omega); exact ⟨z, by simpa using hz, hz2⟩) (by simp at h; omega)
    simp [cnt, show ¬ x.toNat < 128 by omega, ih]
def valL : List UInt8 → Nat
  | [] => 0
  | b :: l => b.toNat % 128 + 128 * valL l
theorem valL_snoc (l : List UInt8) (b : UInt8) : valL (l ++ [b]) = valL l + 128 ^ l.length * (b.toNat % 128) := by
  induction l with
  | nil => simp [valL]
  | cons x l ih => simp only [List.cons_append, valL, ih, List.length_cons, Nat.pow_succ, Nat.mul_add]; rw [Nat.mul_comm (128 ^ l.length) 128, Nat.mul_assoc]; omega
theorem valL_lt (l : List UInt8) : valL l < 128 ^ l.length := by
  induction l with
  | nil => simp [valL]
  | cons x l ih => simp only [valL, List.length_cons, Nat.pow_succ]; omega
/-- The bytes from a place on; none where it is no place of the data. -/
def restL (s : ByteArray) (p : Int) : List UInt8 := if p < 0 ∨ s.size < p then [] else s.data.toList.drop p.toNat
/-- The number that begins at a place, and how many bytes it takes. -/
def getNum (s : ByteArray) (p : Int) : Option (Nat × Nat) :=
  match cnt 9 (restL s p) with
  | none => none
  | some n => if n = 1 ∨ (restL s p).getD (n - 1) 0 ≠ 0 then some (valL ((restL s p).take n), n) else none
end Go.Proofs.YtngkiokibldfjaaGreatDoor
namespace Go.Proofs.YtngkiokibldfjaaGreatDoor
open Go.RowKit
/-- All bytes but the last have their highest bit; the last has not. -/
def form : List UInt8 → Prop
  | [] => False
  | [b] => b.toNat < 128
  | x :: y :: l => 128 ≤ x.toNat ∧ form (y :: l)
def lastB : List UInt8 → UInt8
  | [] => 0
  | [b] => b
  | _ :: y :: l => lastB (y :: l)
theorem valL_pos : ∀ l, form l → lastB l ≠ 0 → 0 < valL l
  | [], h, _ => h.elim
  | [b], h, hn => by
    have h1 : b.toNat < 128 := h
    have h2 : b.toNat ≠ 0 := fun h => hn (UInt8.toNat_inj.1 (by show b.toNat = 0; exact h))
    simp only [valL]; omega
  | x :: y :: l, h, hn => by have := valL_pos (y :: l) h.2 hn; simp only [valL] at this ⊢; omega
theorem putL_val : ∀ (l : List UInt8) (f : Nat), form l → (l.length = 1 ∨ lastB l ≠ 0) → l.length ≤ f + 1 → putL f (valL l) = l.map (fun b => (b.toNat : Int))
  | [], _, h, _, _ => h.elim
  | [b], f, h, _, _ => by
    have h1 : b.toNat < 128 := h
    have e : valL [b] = b.toNat := by simp only [valL]; omega
    rw [e, putL_small f _ h1]; rfl
  | x :: y :: l, 0, h, hn, hl => by simp at hl
  | x :: y :: l, f + 1, h, hn, hl => by
    have hl0 : lastB (y :: l) ≠ 0 := by
      rcases hn with h1 | h1
      · simp at h1
      · exact h1
    have hp := valL_pos (y :: l) h.2 hl0
    have hx := h.1
    have hx2 := x.toNat_lt
    have ih := putL_val (y :: l) f h.2 (Or.inr hl0) (by simp at hl ⊢; omega)
    have e : valL (x :: y :: l) = x.toNat % 128 + 128 * valL (y :: l) := rfl
    rw [putL_big f _ (by omega), show valL (x :: y :: l) / 128 = valL (y :: l) from by omega, ih]
    rw [e, List.map_cons]
    congr 1
    show _ = (x.toNat : Int)
    omega
def lastI : List Int → Int
  | [] => 0
  | [b] => b
  | _ :: y :: l => lastI (y :: l)
theorem putL_last : ∀ (f n : Nat), n < 128 ^ (f + 1) → (putL f n).length = 1 ∨ lastI (putL f n) ≠ 0 := by
  intro f
  induction f with
  | zero => intro n _; left; rfl
  | succ f ih =>
    intro n hn
    by_cases h : n < 128
    · left; rw [putL_small _ _ h]; rfl
    · right
      rw [putL_big f n (by omega)]
      have hd : n / 128 < 128 ^ (f + 1) := by rw [Nat.div_lt_iff_lt_mul (by decide)]; rw [Nat.pow_succ] at hn; exact hn
      have ih' := ih (n / 128) hd
      cases hp : putL f (n / 128) with
      | nil => rw [hp] at ih'; simp [lastI] at ih'
      | cons y l =>
        show lastI (y :: l) ≠ 0
        rw [hp] at ih'
        rcases ih' with h1 | h1
        · have hl : l = [] := by simpa using h1
          subst hl
          by_cases h2 : n / 128 < 128
          · rw [putL_small _ _ h2] at hp
            have : ((n / 128 : Nat) : Int) = y := by simpa using hp
            show y ≠ 0
            omega
          · cases f with
            | zero => simp at hd; omega
            | succ f =>
              rw [putL_big f _ (by omega)] at hp
              have hq := (List.cons.inj hp).2
              have : (putL f (n / 128 / 128)).length = 0 := by rw [hq]; rfl
              cases f with
              | zero => simp [putL] at this
              | succ f => unfold putL at this; split at this <;> simp at this
        · exact h1
theorem lastI_map : ∀ l : List UInt8, lastI (l.map (fun b => (b.toNat : Int))) = (lastB l).toNat
  | [] => rfl
  | [_] => rfl
  | _ :: y :: l => lastI_map (y :: l)
/-- The number's bytes are the list exactly if the list is as short as can be. -/
theorem put_iff (l : List UInt8) (hf : form l) (h9 : l.length ≤ 9) : putL 8 (valL l) = l.map (fun b => (b.toNat : Int)) ↔ (l.length = 1 ∨ lastB l ≠ 0) := by
  constructor
  · intro h
    have h1 := putL_last 8 (valL l) (Nat.lt_of_lt_of_le (valL_lt l) (Nat.pow_le_pow_right (by decide) h9))
    rw [h, lastI_map] at h1
    rcases h1 with h1 | h1
    · left; simpa using h1
    · right; intro h2; rw [h2] at h1; exact h1 rfl
  · intro h; exact putL_val l 8 hf h h9
theorem ofNat_map (l : List UInt8) : (l.map (fun b => (b.toNat : Int))).map (fun n => UInt8.ofNat n.toNat) = l := by
  rw [List.map_map]
  have : ((fun n : Int => UInt8.ofNat n.toNat) ∘ fun b : UInt8 => (b.toNat : Int)) = id := by funext b; simp
  rw [this, List.map_id]
theorem map_inj {l l' : List Int} (h : ∀ x ∈ l, 0 ≤ x ∧ x < 256) (h' : ∀ x ∈ l', 0 ≤ x ∧ x < 256) (e : l.map (fun n => UInt8.ofNat n.toNat) = l'.map (fun n => UInt8.ofNat n.toNat)) : l = l' := by
  have e2 := congrArg (List.map (fun b : UInt8 => (b.toNat : Int))) e
  have key : ∀ m : List Int, (∀ x ∈ m, 0 ≤ x ∧ x < 256) → (m.map (fun n => UInt8.ofNat n.toNat)).map (fun b : UInt8 => (b.toNat : Int)) = m := by
    intro m hm
    rw [List.map_map]
    conv => rhs; rw [← List.map_id m]
    refine List.map_congr_left fun x hx => ?_
    have := hm x hx
    simp; omega
  rw [key l h, key l' h'] at e2
  exact e2
theorem form_of : ∀ (l : List UInt8) (k : Nat), l.length = k + 1 → (∀ j, j < k → ∃ x, l[j]? = some x ∧ 128 ≤ x.toNat) → (∃ b, l[k]? = some b ∧ b.toNat < 128) → form l ∧ l[k]? = some (lastB l)
  | [], k, h, _, _ => by simp at h
  | [b], k, h, _, hb => by
    obtain rfl : k = 0 := by simpa using h.symm
    obtain ⟨x, hx, hx2⟩ := hb
    simp at hx; subst hx
    exact ⟨hx2, rfl⟩
  | x :: y :: l, 0, h, _, _ => by simp at h
  | x :: y :: l, k + 1, h, ha, hb => by
    obtain ⟨z, hz, hz2⟩ := ha 0 (by omega)
    simp at hz; subst hz
    have ih := form_of (y :: l) k (by simpa using h) (fun j hj => by simpa using ha (j + 1) (by omega)) (by simpa using hb)
    exact ⟨⟨hz2, ih.1⟩, by show (x :: y :: l)[k + 1]? = some (lastB (y :: l)); simpa using ih.2⟩
end Go.Proofs.YtngkiokibldfjaaGreatDoor
namespace Go.Proofs.YtngkiokibldfjaaGreatDoor
open Go.RowKit
theorem rest_get (s : ByteArray) (a k : Nat) (ha : a ≤ s.size) : (restL s a)[k]? = s.data.toList[a + k]? := by
  unfold restL
  rw [if_neg (by omega)]; simp
theorem rest_len (s : ByteArray) (a : Nat) (ha : a ≤ s.size) : (restL s a).length = s.size - a := by
  unfold restL
  rw [if_neg (by omega)]; simp
theorem rest_bad (s : ByteArray) (p : Int) (h : p < 0 ∨ s.size < p) : restL s p = [] := by unfold restL; rw [if_pos h]

theorem or_shift (v b k : Nat) (hk : k < 9) (hv : v < 128 ^ k) (hb : b < 256) :
    bits .or .u64 (v : Int) (IntKind.u64.wrap (IntKind.u64.wrap (bits .and .u8 (b : Int) 127) * 2 ^ (7 * k))) = ((v + 128 ^ k * (b % 128) : Nat) : Int) := by
  have e1 : bits .and .u8 (b : Int) 127 = ((b % 128 : Nat) : Int) := by
    rw [show (127 : Int) = ((127 : Nat) : Int) from rfl, u8_and_nat _ _ hb (by omega), nat_mask7]
  have e2 : ∀ n : Nat, n < 18446744073709551616 → IntKind.u64.wrap (n : Int) = (n : Int) := by
    intro n hn; simp [IntKind.wrap, IntKind.bits, IntKind.signed]; omega
  have e3 : (128 : Nat) ^ k = 2 ^ (7 * k) := by rw [Nat.pow_mul]
  have e5 : 2 ^ (7 * k) ≤ 2 ^ 56 := Nat.pow_le_pow_right (by decide) (by omega)
  have e6 : (b % 128) * 2 ^ (7 * k) ≤ 127 * 2 ^ 56 := Nat.mul_le_mul (by omega) e5
  have e4 : ((b % 128 : Nat) : Int) * 2 ^ (7 * k) = (((b % 128) * 2 ^ (7 * k) : Nat) : Int) := by simp
  rw [e1, e2 _ (by omega), e4, e2 _ (by omega), u64_or_nat _ _ (by omega) (by omega)]
  rw [Nat.or_comm, nat_join (7 * k) _ _ (Nat.mul_mod_left _ _) (by omega), e3, Nat.mul_comm (b % 128), Nat.add_comm]

theorem ret2_int {k : IntKind} {a b : Int} {v : Value} (h : a = b) : Ending.returned (.tuple #[.int k a, v]) = .returned (.tuple #[.int k b, v]) := by rw [h]

theorem take_next (l : List UInt8) (k : Nat) (b : UInt8) (h : l[k]? = some b) : valL (l.take (k + 1)) = valL (l.take k) + 128 ^ k * (b.toNat % 128) := by
  have hk : k < l.length := by
    rcases Nat.lt_or_ge k l.length with h1 | h1
    · exact h1
    · rw [List.getElem?_eq_none h1] at h; cases h
  have hb : l[k] = b := by rw [List.getElem?_eq_getElem hk] at h; exact Option.some.inj h
  rw [List.take_succ_eq_append_getElem hk, valL_snoc, hb, List.length_take, Nat.min_eq_left (by omega)]
theorem take_lt (l : List UInt8) (k : Nat) : valL (l.take k) < 128 ^ k := by
  refine Nat.lt_of_lt_of_le (valL_lt _) (Nat.pow_le_pow_right (by decide) (List.length_take_le _ _))
theorem data_get (s : ByteArray) (k : Nat) (h : k < s.size) : s.data.toList[k]? = some s[k] := by
  rw [List.getElem?_eq_getElem (by simpa using h)]; rfl
theorem getNum_none (s : ByteArray) (p : Int) (h : cnt 9 (restL s p) = none) : getNum s p = none := by unfold getNum; rw [h]
theorem getNum_some (s : ByteArray) (p : Int) (n : Nat) (h : cnt 9 (restL s p) = some n) : getNum s p = if n = 1 ∨ (restL s p).getD (n - 1) 0 ≠ 0 then some (valL ((restL s p).take n), n) else none := by unfold getNum; rw [h]
/-- A byte is there. -/
theorem left_pos (s : ByteArray) (p : Int) (k : Nat) (hall : ∀ j, j < k → ∃ x, (restL s p)[j]? = some x ∧ 128 ≤ x.toNat) (h : leftI s (p + k) ≠ 0) : ∃ a : Nat, p = a ∧ a + k < s.size := by
  have h1 : ¬ (p + k < 0 ∨ s.size < p + k) := by intro h2; exact h (by unfold leftI; rw [if_pos h2])
  have h2 : leftI s (p + k) = s.size - (p + k) := by unfold leftI; rw [if_neg h1]
  have h3 : 0 ≤ p := by
    rcases Int.lt_or_le p 0 with h4 | h4
    · by_cases hk : k = 0
      · omega
      · obtain ⟨x, hx, _⟩ := hall 0 (by omega)
        rw [rest_bad s p (Or.inl h4)] at hx; simp at hx
    · exact h4
  obtain ⟨a, rfl⟩ := Int.eq_ofNat_of_zero_le h3
  exact ⟨a, rfl, by omega⟩
/-- No byte is there. -/
theorem left_zero (s : ByteArray) (p : Int) (k : Nat) (hk : k ≤ 9) (hall : ∀ j, j < k → ∃ x, (restL s p)[j]? = some x ∧ 128 ≤ x.toNat) (h : leftI s (p + k) = 0) : cnt 9 (restL s p) = none := by
  refine cnt_end 9 k _ hall (Or.inr ⟨?_, hk⟩)
  have hge : k ≤ (restL s p).length := by
    rcases Nat.lt_or_ge (restL s p).length k with h1 | h1
    · obtain ⟨x, hx, _⟩ := hall _ h1
      rw [List.getElem?_eq_none (Nat.le_refl _)] at hx; cases hx
    · exact h1
  by_cases hp : p < 0 ∨ s.size < p
  · rw [rest_bad s p hp] at hge ⊢; simp at hge ⊢; omega
  · obtain ⟨a, rfl⟩ := Int.eq_ofNat_of_zero_le (show 0 ≤ p by omega)
    rw [rest_len s a (by omega)] at hge ⊢
    unfold leftI at h
    split at h <;> omega

set_option maxRecDepth 20000 in
set_option maxHeartbeats 1000000 in
theorem takeNum_all (c : Nat) (s : ByteArray) (p : Int) (w : World) (hc : CurAt w c s p) (hs : s.size ≤ 1048576) :
    Calls Tryz.prog 135 #[.pointer (some ⟨c, 0, none⟩)] w fun e w' => w.grownBy w' (some c) ∧
      ((∃ v n, getNum s p = some (v, n) ∧ e = .returned (.tuple #[.int .i64 (v : Nat), .bool true]) ∧ CurAt w' c s (p + (n : Nat))) ∨
       (∃ x, getNum s p = none ∧ e = .returned (.tuple #[.int .i64 x, .bool false]))) := by
  go_enter Tryz.func135, Tryz.ntmps135
  go_wp2
  go_loopw [4, 8] (fun n i wr => ∃ k : Nat, k ≤ 9 ∧ i = .int .i64 k ∧ n = .int .u64 (valL ((restL s p).take k)) ∧ (∀ j, j < k → ∃ x, (restL s p)[j]? = some x ∧ 128 ≤ x.toNat) ∧ CurAt wr c s (p + k) ∧ w.grownBy wr (some c))
    (fun _ i _ => 9 - (intOf i).toNat)
  case atStart => exact ⟨0, by omega, rfl, rfl, by intro j hj; omega, by simpa using hc, World.grownBy.refl _ _⟩
  case round =>
    obtain ⟨k, hk, rfl, rfl, hall, hcr, hgr⟩ := hrel
    have HALL : Hid (∀ j, j < k → ∃ x, (restL s p)[j]? = some x ∧ 128 ≤ x.toNat) := hall
    clear hall
    by_cases h9 : k < 9
    · by_cases hleft : leftI s (p + k) = 0
      · have HL : Hid (leftI s (p + k) = 0) := hleft
        clear hleft
        go_wp2_with fail
        refine (byte_no c s _ _ hcr hs HL.out).mono ?_
        rintro e w' ⟨rfl, rfl⟩
        go_wp2
        go_ret2
        refine ⟨hgr, Or.inr ⟨0, ?_, rfl⟩⟩
        exact getNum_none s p (left_zero s p k hk HALL.out HL.out)
      · obtain ⟨a, rfl, hak⟩ := left_pos s p k HALL.out hleft
        clear hleft
        have hcr' : CurAt wr c s ((a + k : Nat) : Int) := by simpa using hcr
        clear hcr
        have hget : (restL s a)[k]? = some s[a + k] := by rw [rest_get s a k (by omega), data_get s (a + k) hak]
        have hb256 : s[a + k].toNat < 256 := s[a + k].toNat_lt
        have HV : Hid (bits .or .u64 (↑(valL ((restL s a).take k)) : Int) (IntKind.u64.wrap (IntKind.u64.wrap (bits .and .u8 (↑s[a + k].toNat) 127) * 2 ^ (7 * k))) = ((valL ((restL s a).take (k + 1)) : Nat) : Int)) := by
          show _ = _; rw [or_shift _ _ k h9 (take_lt _ k) hb256, take_next _ k _ hget]
        have HLT : Hid (valL ((restL s a).take (k + 1)) < 128 ^ 9) := Nat.lt_of_lt_of_le (take_lt _ (k + 1)) (Nat.pow_le_pow_right (by decide) (by omega))
        have HW : Hid (wrap64 (bits .or .u64 (↑(valL ((restL s a).take k)) : Int) (IntKind.u64.wrap (IntKind.u64.wrap (bits .and .u8 (↑s[a + k].toNat) 127) * 2 ^ (7 * k)))) = ((valL ((restL s a).take (k + 1)) : Nat) : Int)) := by
          have := HLT.out
          show _ = _; rw [HV.out]; exact IntWalk.wrap64_in _ ⟨by omega, by omega⟩
        have HG : Hid ((restL s a)[k]? = some s[a + k]) := hget
        clear hget
        go_wp2_with fail
        refine (byte_yes c s (a + k) _ hcr' hs hak).mono ?_
        rintro e w1 ⟨rfl, hc1, hg1⟩
        have hgw := grown_trans hgr hg1
        by_cases hb : s[a + k].toNat < 128
        · have HC : Hid (cnt 9 (restL s a) = some (k + 1)) := cnt_hit 9 k _ _ HALL.out HG.out hb h9
          have HD : Hid ((restL s a).getD k 0 = s[a + k]) := by rw [List.getD_eq_getElem?_getD, HG.out]; rfl
          by_cases hz : s[a + k].toNat = 0
          · have z1 : ((s[a + k].toNat : Int) != 0) = false := by simp [hz]
            by_cases hk0 : k = 0
            · have z2 : ((k : Int) == 0) = true := by simp [hk0]
              have HK : Hid (k = 0) := hk0
              have HZ : Hid (s[a + k].toNat = 0) := hz
              clear hz hk0
              go_wp2
              go_ret2
              refine ⟨hgw, Or.inl ⟨valL ((restL s a).take (k + 1)), k + 1, ?_, ?_, by simpa [Int.add_assoc] using hc1⟩⟩
              · rw [getNum_some s a (k + 1) HC.out, if_pos (Or.inl (by have := HK.out; omega))]
              · exact ret2_int HW.out
            · have z2 : ((k : Int) == 0) = false := by simp [hk0]
              have HK : Hid (k ≠ 0) := hk0
              have HZ : Hid (s[a + k].toNat = 0) := hz
              clear hz hk0
              go_wp2
              go_ret2
              refine ⟨hgw, Or.inr ⟨_, ?_, rfl⟩⟩
              rw [getNum_some s a (k + 1) HC.out, if_neg]
              have := HK.out
              simp only [Nat.add_sub_cancel, HD.out]
              have hz2 := HZ.out
              intro h
              rcases h with h | h
              · omega
              · exact h (UInt8.toNat_inj.1 (by simpa using hz2))
          · have z1 : ((s[a + k].toNat : Int) != 0) = true := by simp [hz]
            have HZ : Hid (s[a + k].toNat ≠ 0) := hz
            clear hz
            go_wp2
            go_ret2
            refine ⟨hgw, Or.inl ⟨valL ((restL s a).take (k + 1)), k + 1, ?_, ?_, by simpa [Int.add_assoc] using hc1⟩⟩
            · rw [getNum_some s a (k + 1) HC.out, if_pos]
              right
              simp only [Nat.add_sub_cancel, HD.out]
              intro h
              exact HZ.out (by rw [h]; rfl)
            · exact ret2_int HW.out
        · go_wp2
          go_roundw
          case rel =>
            refine ⟨k + 1, by omega, by go_num, by rw [HV.out], ?_, by simpa [Int.add_assoc] using hc1, hgw⟩
            intro j hj
            by_cases hjk : j < k
            · exact HALL.out j hjk
            · obtain rfl : j = k := by omega
              exact ⟨_, HG.out, by omega⟩
          case measure => simp [intOf]; omega
    · go_wp2
      go_ret2
      refine ⟨hgr, Or.inr ⟨0, ?_, rfl⟩⟩
      exact getNum_none s p (cnt_end 9 k _ HALL.out (Or.inl (by omega)))
end Go.Proofs.YtngkiokibldfjaaGreatDoor
namespace Go.Proofs.YtngkiokibldfjaaGreatDoor
open Go.RowKit
def numV (p : Int) : Option (Nat × Nat) → Value
  | none => .agg #[.bool false, .int .i64 0, .int .i64 0]
  | some (v, n) => .agg #[.bool true, .int .i64 (v : Nat), .int .i64 (p + (n : Nat))]
def textV : Option (ByteArray × Int) → Value
  | none => .agg #[.bool false, .string ByteArray.empty, .int .i64 0]
  | some (t, q) => .agg #[.bool true, .string t, .int .i64 q]
theorem numV_form (p : Int) (r : Option (Nat × Nat)) : ∃ g x y, numV p r = .agg #[.bool g, .int .i64 x, .int .i64 y] := by
  cases r with
  | none => exact ⟨_, _, _, rfl⟩
  | some q => obtain ⟨v, n⟩ := q; exact ⟨_, _, _, rfl⟩
theorem textV_form (r : Option (ByteArray × Int)) : ∃ g x y, textV r = .agg #[.bool g, .string x, .int .i64 y] := by
  cases r with
  | none => exact ⟨_, _, _, rfl⟩
  | some q => obtain ⟨v, n⟩ := q; exact ⟨_, _, _, rfl⟩
theorem CurAt.made (w : World) (s : ByteArray) (p : Int) : CurAt (w.alloc (.cells #[.string s, .int .i64 p] 183)) w.heap.size s p := heap_alloc_new w _

end Go.Proofs.YtngkiokibldfjaaGreatDoor
