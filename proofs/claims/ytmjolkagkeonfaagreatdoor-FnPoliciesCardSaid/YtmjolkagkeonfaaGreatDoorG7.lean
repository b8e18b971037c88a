import Derived.Test.YtmjolkagkeonfaaGreatDoorBase
import Derived.Test.YtmjolkagkeonfaaGreatDoorG2
import Derived.Test.YtmjolkagkeonfaaGreatDoorProg
import Derived.Deep.RegionHeld3
import Derived.Deep.DrawnRows
import Derived.Deep.RegionLaw
import Derived.Test.YtmjolkagkeonfaaGreatDoorG4
import Derived.Lib.OthersKept
import Derived.Lib.FieldsP
import Derived.Laws.RangeString
import Derived.Laws.RangeAny
import Derived.Test.YtmjolkagkeonfaaGreatDoorG6
import Derived.Test.YtmjolkagkeonfaaGreatDoorG6
namespace Go.Proofs.YtmjolkagkeonfaaGreatDoor
open Go.RowKit
/-! Texts escaped and back. -/
def ePl (c : Nat) : Prop := (97 ≤ c ∧ c ≤ 122) ∨ (65 ≤ c ∧ c ≤ 90) ∨ (48 ≤ c ∧ c ≤ 57) ∨ c = 45 ∨ c = 95 ∨ c = 46 ∨ c = 47
instance (c : Nat) : Decidable (ePl c) := by unfold ePl; infer_instance
def eHx (n : Nat) : UInt8 := if n < 10 then UInt8.ofNat (48 + n) else UInt8.ofNat (55 + n)
def e1 (c : UInt8) : List UInt8 := if ePl c.toNat then [c] else [37, eHx (c.toNat / 16), eHx (c.toNat % 16)]
end Go.Proofs.YtmjolkagkeonfaaGreatDoor
namespace Go.Proofs.YtmjolkagkeonfaaGreatDoor
open Go.RowKit
/-! The specification's Escape. -/
end Go.Proofs.YtmjolkagkeonfaaGreatDoor
namespace Go.Proofs.YtmjolkagkeonfaaGreatDoor
open Go.RowKit
/-! The program's kinds of signs; runes. -/
theorem get_lt (s : ByteArray) (i : Nat) (h : i < s.size) : s.get! i = s[i]'h := by
  simp [ByteArray.get!, getElem!_pos, h]
  rfl
/-- the bytes of a sign of several bytes are high ones -/
theorem dec_cont (s : ByteArray) (pos : Nat) (h : pos < s.size) (ha : 128 ≤ (s[pos]'h).toNat) (k : Nat) (hk : k < (Utf8.decode s pos).2) :
    pos + k < s.size ∧ 128 ≤ (s.get! (pos + k)).toNat := by
  have hn : ¬ (s[pos]'h).toNat < 128 := by omega
  have h0 : pos + 0 < s.size ∧ 128 ≤ (s.get! (pos + 0)).toNat := ⟨h, by rw [get_at s pos h]; exact ha⟩
  simp only [Utf8.decode, get_at s pos h, hn, if_false] at hk
  repeat' split at hk
  all_goals simp only [Bool.and_eq_true, decide_eq_true_eq, beq_iff_eq] at *
  all_goals first
    | (have : k = 0 := by omega
       subst this
       exact h0)
    | (have : k = 0 ∨ k = 1 := by omega
       rcases this with rfl | rfl
       · exact h0
       · refine ⟨by omega, ?_⟩
         omega)
    | (have : k = 0 ∨ k = 1 ∨ k = 2 := by omega
       rcases this with rfl | rfl | rfl
       · exact h0
       · refine ⟨by omega, ?_⟩
         omega
       · refine ⟨by omega, ?_⟩
         omega)
    | (have : k = 0 ∨ k = 1 ∨ k = 2 ∨ k = 3 := by omega
       rcases this with rfl | rfl | rfl | rfl
       · exact h0
       · refine ⟨by omega, ?_⟩
         omega
       · refine ⟨by omega, ?_⟩
         omega
       · refine ⟨by omega, ?_⟩
         omega)
theorem dec_wide (s : ByteArray) (pos : Nat) (h : pos < s.size) (ha : 128 ≤ (s[pos]'h).toNat) :
    1 ≤ (Utf8.decode s pos).2 ∧ pos + (Utf8.decode s pos).2 ≤ s.size ∧ ∀ i (hi : i < s.size), pos ≤ i → i < pos + (Utf8.decode s pos).2 → 128 ≤ (s[i]'hi).toNat := by
  have h1 := (decode_high s pos h ha).2
  refine ⟨h1, ?_, fun i hi h2 h3 => ?_⟩
  · have := (dec_cont s pos h ha ((Utf8.decode s pos).2 - 1) (by omega)).1
    omega
  · have := (dec_cont s pos h ha (i - pos) (by omega)).2
    rw [show pos + (i - pos) = i by omega, get_lt s i hi] at this
    exact this
end Go.Proofs.YtmjolkagkeonfaaGreatDoor
namespace Go.Proofs.YtmjolkagkeonfaaGreatDoor
open Go.RowKit
/-! What reading a policy gives, as plain data. -/
def atB (l : List ByteArray) (i : Nat) : ByteArray := l.getD i ⟨#[]⟩
def atC (l : List Cn) (i : Nat) : Cn := l.getD i ⟨0, ⟨#[]⟩, 0⟩
theorem atB_get {l : List ByteArray} {i : Nat} (h : i < l.length) : l[i]? = some (atB l i) := by
  unfold atB; rw [List.getD_eq_getElem?_getD, List.getElem?_eq_getElem h]; rfl
theorem atC_get {l : List Cn} {i : Nat} (h : i < l.length) : l[i]? = some (atC l i) := by
  unfold atC; rw [List.getD_eq_getElem?_getD, List.getElem?_eq_getElem h]; rfl
/-- a statement -/
structure PS where
  ef : Int
  wo : List ByteArray
  wa : List ByteArray
  wi : List ByteArray
  cs : List Cn
def psP (s : PS) : Prop := (s.ef = 1 ∨ s.ef = 2) ∧ lsP s.wo.length (atB s.wo) ∧ lsP s.wa.length (atB s.wa) ∧ lsP s.wi.length (atB s.wi) ∧ isP s.cs.length (atC s.cs)
/-- a line's words -/
def wdsL (s : ByteArray) : List ByteArray := (splB 32 s).filter fun b => decide (0 < b.size)
def isW (b : ByteArray) (l : List UInt8) : Prop := b.data.toList = l
instance (b : ByteArray) (l : List UInt8) : Decidable (isW b l) := inferInstanceAs (Decidable (_ = _))
def kAllow : List UInt8 := [97, 108, 108, 111, 119]
def kDeny : List UInt8 := [100, 101, 110, 121]
def kWho : List UInt8 := [119, 104, 111]
def kDo : List UInt8 := [100, 111]
def kOn : List UInt8 := [111, 110]
def kPrefix : List UInt8 := [112, 114, 101, 102, 105, 120]
def kBefore : List UInt8 := [98, 101, 102, 111, 114, 101]
def kAfter : List UInt8 := [97, 102, 116, 101, 114]
def kFrom : List UInt8 := [102, 114, 111, 109]
def efV (b : ByteArray) : Int := if isW b kAllow then 1 else if isW b kDeny then 2 else 0
noncomputable def cdS (a b : ByteArray) : Cn :=
  if isW a kPrefix then ⟨1, b, 0⟩ else if isW a kFrom then ⟨4, b, 0⟩ else if isW a kBefore then ⟨2, ⟨#[]⟩, timV b⟩ else if isW a kAfter then ⟨3, ⟨#[]⟩, timV b⟩ else ⟨0, ⟨#[]⟩, 0⟩
noncomputable def cdsS : List ByteArray → List Cn
  | a :: b :: r => cdS a b :: cdsS r
  | _ => []
/-- a line's form -/
def frmP (w : List ByteArray) : Prop := 7 ≤ w.length ∧ w.length % 2 = 1 ∧ isW (atB w 1) kWho ∧ isW (atB w 3) kDo ∧ isW (atB w 5) kOn
noncomputable def sS (w : List ByteArray) : PS := ⟨efV (atB w 0), splB 44 (atB w 2), splB 44 (atB w 4), splB 44 (atB w 6), cdsS (w.drop 7)⟩
def lnP (w : List ByteArray) : Prop := frmP w ∧ psP (sS w)
/-- what the program takes of two words -/
def CdO (a b : ByteArray) (c : Cn) : Prop :=
  (isW a kPrefix ∧ c = ⟨1, b, 0⟩) ∨ (isW a kBefore ∧ ∃ z, decO2 b.data.toList z ∧ c = ⟨2, ⟨#[]⟩, z⟩) ∨ (isW a kAfter ∧ ∃ z, decO2 b.data.toList z ∧ c = ⟨3, ⟨#[]⟩, z⟩) ∨ (isW a kFrom ∧ c = ⟨4, b, 0⟩)
def CdsO : List ByteArray → List Cn → Prop
  | [], [] => True
  | a :: b :: r, c :: cs => CdO a b c ∧ CdsO r cs
  | _, _ => False
theorem isW_ne {b : ByteArray} {l m : List UInt8} (h : isW b l) (hn : l ≠ m) : ¬ isW b m := fun h2 => hn (h.symm.trans h2)
theorem tim_dec {b : ByteArray} {z : Int} (h : decO2 b.data.toList z) : (0 ≤ z ∧ z ≤ 4102444800) ↔ (0 ≤ timV b ∧ timV b ≤ 4102444800) := by
  constructor
  · rintro ⟨h1, h2⟩
    obtain ⟨n, rfl⟩ := Int.eq_ofNat_of_zero_le h1
    have := ((h.2.2 n).1 rfl).2
    have ht : tmP b := ⟨n, by omega, this⟩
    unfold timV
    rw [pb_t ht, if_pos rfl, this, numL_dec]
    omega
  · rintro ⟨h1, h2⟩
    unfold timV at h1 h2
    by_cases ht : tmP b
    · obtain ⟨n, hn, he⟩ := ht
      rw [(h.2.2 n).2 ⟨by omega, he⟩]
      omega
    · rw [pb_f ht] at h1
      simp at h1
theorem tim_eq {b : ByteArray} {z : Int} (h : decO2 b.data.toList z) (h0 : 0 ≤ z ∧ z ≤ 4102444800) : z = timV b := by
  obtain ⟨n, rfl⟩ := Int.eq_ofNat_of_zero_le h0.1
  have := ((h.2.2 n).1 rfl).2
  unfold timV
  rw [pb_t ⟨n, by omega, this⟩, if_pos rfl, this, numL_dec]
theorem cnP_tm {k : Int} {t : ByteArray} {z : Int} (hk : k = 2 ∨ k = 3) (ht : t = ⟨#[]⟩) : cnP ⟨k, t, z⟩ ↔ 0 ≤ z ∧ z ≤ 4102444800 := by
  unfold cnP
  dsimp only
  constructor
  · rintro (⟨h1, _⟩ | ⟨_, _, h2⟩)
    · omega
    · exact h2
  · exact fun h => .inr ⟨hk, ht, h⟩
theorem cdO_iff {a b : ByteArray} {c : Cn} (h : CdO a b c) : (cnP c ↔ cnP (cdS a b)) ∧ (cnP c → c = cdS a b) := by
  rcases h with ⟨h, rfl⟩ | ⟨h, z, hz, rfl⟩ | ⟨h, z, hz, rfl⟩ | ⟨h, rfl⟩
  · unfold cdS; rw [if_pos h]; exact ⟨Iff.rfl, fun _ => rfl⟩
  · have e : cdS a b = ⟨2, ⟨#[]⟩, timV b⟩ := by
      unfold cdS
      rw [if_neg (isW_ne h (by decide)), if_neg (isW_ne h (by decide)), if_pos h]
    rw [e, cnP_tm (.inl rfl) rfl, cnP_tm (.inl rfl) rfl]
    exact ⟨tim_dec hz, fun hh => by rw [tim_eq hz hh]⟩
  · have e : cdS a b = ⟨3, ⟨#[]⟩, timV b⟩ := by
      unfold cdS
      rw [if_neg (isW_ne h (by decide)), if_neg (isW_ne h (by decide)), if_neg (isW_ne h (by decide)), if_pos h]
    rw [e, cnP_tm (.inr rfl) rfl, cnP_tm (.inr rfl) rfl]
    exact ⟨tim_dec hz, fun hh => by rw [tim_eq hz hh]⟩
  · have e : cdS a b = ⟨4, b, 0⟩ := by
      unfold cdS
      rw [if_neg (isW_ne h (by decide)), if_pos h]
    rw [e]
    exact ⟨Iff.rfl, fun _ => rfl⟩
theorem cdS_no {a b : ByteArray} (h1 : ¬ isW a kPrefix) (h2 : ¬ isW a kBefore) (h3 : ¬ isW a kAfter) (h4 : ¬ isW a kFrom) : ¬ cnP (cdS a b) := by
  unfold cdS
  rw [if_neg h1, if_neg h4, if_neg h2, if_neg h3]
  unfold cnP
  dsimp only
  rintro (⟨h, _⟩ | ⟨h, _⟩) <;> omega
def allC (cs : List Cn) : Prop := ∀ c ∈ cs, cnP c
theorem isP_all (cs : List Cn) : isP cs.length (atC cs) ↔ allC cs := by
  constructor
  · intro h c hc
    obtain ⟨i, hi, rfl⟩ := List.getElem_of_mem hc
    have := h i hi
    have e := atC_get hi
    rw [List.getElem?_eq_getElem hi] at e
    rw [Option.some.inj e]
    exact this
  · intro h i hi
    have e := atC_get hi
    rw [List.getElem?_eq_getElem hi] at e
    rw [← Option.some.inj e]
    exact h _ (List.getElem_mem hi)
theorem cdsO_iff : ∀ (w : List ByteArray) (cs : List Cn), CdsO w cs → w.length = 2 * cs.length ∧ cs.length = (cdsS w).length ∧ (allC cs ↔ allC (cdsS w)) ∧ (allC cs → cs = cdsS w)
  | [], [], _ => ⟨rfl, rfl, Iff.rfl, fun _ => rfl⟩
  | [], _ :: _, h => by cases h
  | [_], [], h => by cases h
  | [_], _ :: _, h => by cases h
  | _ :: _ :: _, [], h => by cases h
  | a :: b :: r, c :: cs, h => by
    obtain ⟨h1, h2⟩ := h
    obtain ⟨i1, i2, i3, i4⟩ := cdsO_iff r cs h2
    obtain ⟨j1, j2⟩ := cdO_iff h1
    refine ⟨by simp; omega, by simp [cdsS, i2], ?_, ?_⟩
    · unfold cdsS allC
      simp only [List.mem_cons, forall_eq_or_imp]
      exact and_congr j1 i3
    · intro hh
      have q1 := hh c (by simp)
      have q2 : allC cs := fun x hx => hh x (by simp [hx])
      rw [cdsS, ← j2 q1, ← i4 q2]
theorem cdsO_snoc {w : List ByteArray} {cs : List Cn} {a b : ByteArray} {c : Cn} : CdsO w cs → CdO a b c → CdsO (w ++ [a, b]) (cs ++ [c]) := by
  induction cs generalizing w with
  | nil =>
    intro h h2
    match w, h with
    | [], _ => exact ⟨h2, trivial⟩
    | [_], h => cases h
    | _ :: _ :: _, h => cases h
  | cons d cs ih =>
    intro h h2
    match w, h with
    | [], h => cases h
    | [_], h => cases h
    | x :: y :: r, h => exact ⟨h.1, ih h.2 h2⟩
/-- a name that is none, among the names: the line is not right -/
theorem cdsS_bad {u r : List ByteArray} {cs : List Cn} {a b : ByteArray} (h : CdsO u cs) (hb : ¬ cnP (cdS a b)) : ¬ allC (cdsS (u ++ a :: b :: r)) := by
  induction cs generalizing u with
  | nil =>
    match u, h with
    | [], _ => exact fun hh => hb (hh _ (by simp [cdsS]))
    | [_], h => cases h
    | _ :: _ :: _, h => cases h
  | cons d cs ih =>
    match u, h with
    | [], h => cases h
    | [_], h => cases h
    | x :: y :: q, h =>
      intro hh
      exact ih h.2 (fun c hc => hh c (by simp [cdsS]; exact .inr hc))
theorem ps_iff {w : List ByteArray} {cs : List Cn} (h : CdsO (w.drop 7) cs) : (psP ⟨efV (atB w 0), splB 44 (atB w 2), splB 44 (atB w 4), splB 44 (atB w 6), cs⟩ ↔ psP (sS w)) ∧ (psP ⟨efV (atB w 0), splB 44 (atB w 2), splB 44 (atB w 4), splB 44 (atB w 6), cs⟩ → (⟨efV (atB w 0), splB 44 (atB w 2), splB 44 (atB w 4), splB 44 (atB w 6), cs⟩ : PS) = sS w) ∧ cs.length = (sS w).cs.length := by
  obtain ⟨_, h2, h3, h4⟩ := cdsO_iff _ _ h
  refine ⟨?_, ?_, h2⟩
  · unfold psP sS
    dsimp only
    rw [isP_all, isP_all, h3]
  · intro hh
    have := hh.2.2.2.2
    rw [isP_all] at this
    unfold sS
    rw [← h4 this]
/-! Words: as the library parts them. -/
theorem splA_run (c : UInt8) : ∀ (l cur r : List UInt8), (∀ x ∈ l, x ≠ c) → splA c cur (l ++ r) = splA c (cur ++ l) r
  | [], cur, r, _ => by simp
  | x :: t, cur, r, h => by
    rw [List.cons_append, splA, if_neg (h x (by simp)), splA_run c t _ r (fun y hy => h y (by simp [hy]))]
    simp
theorem splA_sep (c : UInt8) (cur r : List UInt8) : splA c cur (c :: r) = cur :: splA c [] r := by rw [splA, if_pos rfl]
def ne0 (l : List UInt8) : Bool := decide (0 < l.length)
theorem wdsL_eq (s : ByteArray) : wdsL s = ((splA 32 [] s.data.toList).filter ne0).map ofL := by
  unfold wdsL splB
  rw [List.filter_map]
  congr 1
def opnL (l : List UInt8) (st : Option Nat) (pos : Nat) : List UInt8 := match st with | some a => (l.take pos).drop a | none => []
theorem spans_spl (s : ByteArray) : ∀ (f pos : Nat) (st : Option Nat) (acc : List (Nat × Nat)), s.size ≤ pos + f → pos ≤ s.size → (∀ a, st = some a → a < pos) →
    (Lib.closeSpans s (Lib.spansFromP (fun r => r == 32) s f pos st acc)).map (fun x => s.extract x.1 x.2) = acc.map (fun x => s.extract x.1 x.2) ++ ((splA 32 (opnL s.data.toList st pos) (s.data.toList.drop pos)).filter ne0).map ofL := by
  have END : ∀ (pos : Nat) (st : Option Nat) (acc : List (Nat × Nat)), pos = s.size → (∀ a, st = some a → a < pos) → (Lib.closeSpans s (acc, st)).map (fun x => s.extract x.1 x.2) = acc.map (fun x => s.extract x.1 x.2) ++ ((splA 32 (opnL s.data.toList st pos) (s.data.toList.drop pos)).filter ne0).map ofL := by
    intro pos st acc hp hst
    subst hp
    rw [List.drop_of_length_le (by rw [baLen]; exact Nat.le_refl _)]
    unfold splA
    cases st with
    | none => simp [Lib.closeSpans, opnL, ne0]
    | some a =>
      have h1 := hst a rfl
      have h2 : 0 < ((s.data.toList.take s.size).drop a).length := by rw [List.length_drop, List.length_take, baLen]; omega
      have e : s.extract a s.size = ofL ((s.data.toList.take s.size).drop a) := ofL_of (ext_mid s a s.size)
      simp only [Lib.closeSpans, opnL, List.map_append, List.map_cons, List.map_nil, e]
      rw [List.filter_cons, if_pos (by unfold ne0; exact decide_eq_true h2)]
      rfl
  intro f
  induction f with
  | zero =>
    intro pos st acc h hp hst
    exact END pos st acc (by omega) hst
  | succ f ih =>
    intro pos st acc h hp hst
    by_cases hlt : pos < s.size
    · have hd : s.data.toList.drop pos = s[pos] :: s.data.toList.drop (pos + 1) := by
        rw [List.drop_eq_getElem_cons (by rw [baLen]; exact hlt)]; rfl
      by_cases q : s[pos] = 32
      · have hdec : Utf8.decode s pos = (32, 1) := by rw [decode_ascii s pos hlt (by rw [q]; decide), q]; rfl
        simp only [Lib.spansFromP, if_pos hlt, hdec]
        rw [hd, q, splA_sep]
        cases st with
        | none =>
          simp only [show (((32 : Nat) == 32) = true) from rfl, if_true]
          rw [ih (pos + 1) none acc (by omega) (by omega) (fun a e => by cases e)]
          simp [opnL, ne0]
        | some a =>
          simp only [show (((32 : Nat) == 32) = true) from rfl, if_true]
          rw [ih (pos + 1) none (acc ++ [(a, pos)]) (by omega) (by omega) (fun a e => by cases e)]
          have h1 := hst a rfl
          have h2 : 0 < ((s.data.toList.take pos).drop a).length := by rw [List.length_drop, List.length_take, baLen]; omega
          have e : s.extract a pos = ofL ((s.data.toList.take pos).drop a) := ofL_of (ext_mid s a pos)
          simp only [opnL, List.map_append, List.map_cons, List.map_nil, e]
          rw [List.filter_cons, if_pos (by unfold ne0; exact decide_eq_true h2)]
          simp
      · obtain ⟨K, hK, hr, hK1, hKs, hno⟩ : ∃ K, (Utf8.decode s pos).2 = K ∧ ((Utf8.decode s pos).1 == 32) = false ∧ 1 ≤ K ∧ pos + K ≤ s.size ∧ ∀ x ∈ (s.data.toList.drop pos).take K, x ≠ 32 := by
          by_cases ha : (s[pos]'hlt).toNat < 128
          · have hdec := decode_ascii s pos hlt ha
            refine ⟨1, by rw [hdec], ?_, Nat.le_refl _, by omega, ?_⟩
            · rw [hdec]
              simp only [beq_eq_false_iff_ne]
              exact fun e => q (UInt8.toNat_inj.1 (by simpa using e))
            · intro x hx
              rw [hd] at hx
              simp at hx
              rw [hx]; exact q
          · have ha' : 128 ≤ (s[pos]'hlt).toNat := by omega
            obtain ⟨w1, w2, w3⟩ := dec_wide s pos hlt ha'
            refine ⟨_, rfl, ?_, w1, w2, ?_⟩
            · have := (decode_high s pos hlt ha').1
              simp only [beq_eq_false_iff_ne]
              omega
            · intro x hx
              obtain ⟨i, hi, rfl⟩ := List.getElem_of_mem hx
              have hi1 : i < (Utf8.decode s pos).2 := by rw [List.length_take] at hi; omega
              have hi2 : pos + i < s.size := by omega
              have := w3 (pos + i) hi2 (by omega) (by omega)
              rw [List.getElem_take, List.getElem_drop]
              intro e
              have e2 : s[pos + i]'hi2 = 32 := e
              rw [e2] at this
              exact absurd this (by decide)
        have hsp : s.data.toList.drop pos = (s.data.toList.drop pos).take K ++ s.data.toList.drop (pos + K) := by
          rw [← List.drop_drop, List.take_append_drop]
        simp only [Lib.spansFromP, if_pos hlt, hr, hK, Bool.false_eq_true, if_false]
        rw [hsp, splA_run 32 _ _ _ hno]
        cases st with
        | none =>
          dsimp only
          rw [ih (pos + K) (some pos) acc (by omega) hKs (fun a e => by cases e; omega)]
          have e : opnL s.data.toList (some pos) (pos + K) = opnL s.data.toList none pos ++ (s.data.toList.drop pos).take K := by
            simp only [opnL, List.nil_append]
            rw [List.drop_take, Nat.add_sub_cancel_left]
          rw [e]
        | some a =>
          dsimp only
          rw [ih (pos + K) (some a) acc (by omega) hKs (fun b e => by cases e; have := hst a rfl; omega)]
          have e : opnL s.data.toList (some a) (pos + K) = opnL s.data.toList (some a) pos ++ (s.data.toList.drop pos).take K := by
            have h1 := hst a rfl
            simp only [opnL]
            rw [List.take_add, List.drop_append_of_le_length (by rw [List.length_take, baLen]; omega)]
          rw [e]
    · rw [Lib.spansFromP_end _ _ _ _ _ _ hlt]
      exact END pos st acc (by omega) hst
theorem fields_wds (s : ByteArray) : Lib.goFieldsP (fun r => r == 32) s = wdsL s := by
  unfold Lib.goFieldsP Lib.spansOfP
  rw [spans_spl s s.size 0 none [] (by omega) (Nat.zero_le _) (fun a e => by cases e), wdsL_eq]
  simp [opnL]
/-! The whole. -/
noncomputable def rdP : Nat → List PS → List ByteArray → Int × Int × List PS
  | _, acc, [] => (0, 0, acc)
  | i, acc, l :: r =>
    if wdsL l = [] then rdP (i + 1) acc r
    else if pb (lnP (wdsL l)) then
      (if acc.length < 50 ∧ (sS (wdsL l)).cs.length ≤ 10 then rdP (i + 1) (acc ++ [sS (wdsL l)]) r else (4, (i : Int) + 1, []))
    else (3, (i : Int) + 1, [])
theorem rdP_skip {i : Nat} {acc : List PS} {l : ByteArray} {r : List ByteArray} (h : wdsL l = []) : rdP i acc (l :: r) = rdP (i + 1) acc r := by rw [rdP, if_pos h]
theorem rdP_syn {i : Nat} {acc : List PS} {l : ByteArray} {r : List ByteArray} (h : ¬ wdsL l = []) (h2 : ¬ lnP (wdsL l)) : rdP i acc (l :: r) = (3, (i : Int) + 1, []) := by rw [rdP, if_neg h, pb_f h2]; rfl
theorem rdP_cnt {i : Nat} {acc : List PS} {l : ByteArray} {r : List ByteArray} (h : ¬ wdsL l = []) (h2 : lnP (wdsL l)) (h3 : ¬ (acc.length < 50 ∧ (sS (wdsL l)).cs.length ≤ 10)) : rdP i acc (l :: r) = (4, (i : Int) + 1, []) := by rw [rdP, if_neg h, pb_t h2, if_pos rfl, if_neg h3]
theorem rdP_ok {i : Nat} {acc : List PS} {l : ByteArray} {r : List ByteArray} (h : ¬ wdsL l = []) (h2 : lnP (wdsL l)) (h3 : acc.length < 50 ∧ (sS (wdsL l)).cs.length ≤ 10) : rdP i acc (l :: r) = rdP (i + 1) (acc ++ [sS (wdsL l)]) r := by rw [rdP, if_neg h, pb_t h2, if_pos rfl, if_pos h3]
noncomputable def polO (s : ByteArray) : Int × Int × List PS := if s.size ≤ 10000 then rdP 0 [] (splB 10 s) else (2, 0, [])
end Go.Proofs.YtmjolkagkeonfaaGreatDoor
