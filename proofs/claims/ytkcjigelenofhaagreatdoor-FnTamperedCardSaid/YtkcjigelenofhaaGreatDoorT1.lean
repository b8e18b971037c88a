import Derived.Test.YtkcjigelenofhaaGreatDoorProg
import Derived.Test.YtkcjigelenofhaaGreatDoorBase
import Derived.BigQuiet
import Derived.Deep.QuietTactic
import Derived.Deep.RegionWith
namespace Go.Proofs.YtkcjigelenofhaaGreatDoor
inductive Fit : List UInt8 → List UInt8 → Prop
 | nil : Fit [] []
 | star0 {p t : List UInt8} : Fit p t → Fit (42 :: p) t
 | star1 {p t : List UInt8} {b : UInt8} : Fit (42 :: p) t → Fit (42 :: p) (b :: t)
 | one {p t : List UInt8} {c b : UInt8} : c ≠ 42 → (c = 63 ∨ c = b) → Fit p t → Fit (c :: p) (b :: t)
theorem fit_nil {t : List UInt8} : Fit [] t ↔ t = [] := ⟨fun h => by cases h; rfl, fun h => by subst h; exact .nil⟩
theorem fit_star {p : List UInt8} : ∀ {t : List UInt8}, Fit (42 :: p) t ↔ ∃ k, k ≤ t.length ∧ Fit p (t.drop k)
 | [] => ⟨fun h => by
  cases h with
  | star0 h => exact ⟨0, Nat.le_refl _, h⟩, fun ⟨k, hk, h⟩ => by
  have : k = 0 := by simpa using hk
  subst this; exact .star0 h⟩
 | b :: t => ⟨fun h => by
  cases h with
  | star0 h => exact ⟨0, Nat.zero_le _, h⟩
  | star1 h =>
   obtain ⟨k, hk, h⟩ := fit_star.1 h
   exact ⟨k + 1, by simp; omega, h⟩
  | one h => exact absurd rfl h, fun ⟨k, hk, h⟩ => by
  cases k with
  | zero => exact .star0 h
  | succ k => exact .star1 (fit_star.2 ⟨k, by simpa using hk, h⟩)⟩
theorem fit_one {c : UInt8} {p t : List UInt8} (hc : c ≠ 42) : Fit (c :: p) t ↔ ∃ b t', t = b :: t' ∧ (c = 63 ∨ c = b) ∧ Fit p t' :=
 ⟨fun h => by
  cases h with
  | star0 h => exact absurd rfl hc
  | star1 h => exact absurd rfl hc
  | one _ h1 h2 => exact ⟨_, _, rfl, h1, h2⟩, fun ⟨b, t', e, h1, h2⟩ => by subst e; exact .one hc h1 h2⟩
theorem fit_to_nil : ∀ {q : List UInt8}, Fit q [] ↔ ∀ c ∈ q, c = 42
 | [] => ⟨fun _ c hc => by simp at hc, fun _ => .nil⟩
 | c :: q => by
  constructor
  · intro h
    cases h with
    | star0 h => intro x hx; rcases List.mem_cons.1 hx with rfl | hx; rfl; exact fit_to_nil.1 h x hx
  · intro h
    have := h c (by simp); subst this
    exact .star0 (fit_to_nil.2 fun x hx => h x (by simp [hx]))
theorem fit_seg {q : List UInt8} : ∀ {s t : List UInt8}, (∀ c ∈ s, c ≠ 42) → Fit (s ++ q) t → s.length ≤ t.length ∧ Fit q (t.drop s.length)
 | [], t, _, h => ⟨Nat.zero_le _, by simpa using h⟩
 | c :: s, t, hs, h => by
  obtain ⟨b, t', rfl, _, h2⟩ := (fit_one (hs c (by simp))).1 h
  obtain ⟨h3, h4⟩ := fit_seg (fun x hx => hs x (by simp [hx])) h2
  exact ⟨by simp; omega, h4⟩
open Classical in
noncomputable def glB (p t : List UInt8) : Bool := decide (Fit p t)
theorem glB_f {p t : List UInt8} (h : ¬ Fit p t) : glB p t = false := by unfold glB; simpa using h
structure Way (P T : List UInt8) (p t s1 e : Nat) : Prop where
 p_le : p ≤ P.length
 t_le : t ≤ T.length
 e_le : e ≤ t
 s_le : s1 ≤ p
 same : s1 ≠ 0 → p - s1 = t - e
 none : s1 = 0 → e = 0
 plain : s1 ≠ 0 → ∀ c ∈ (P.drop s1).take (p - s1), c ≠ 42
 iff : Fit P T ↔ Fit (P.drop p) (T.drop t) ∨ (s1 ≠ 0 ∧ ∃ k, e < k ∧ k ≤ T.length ∧ Fit (P.drop s1) (T.drop k))
theorem drop_at {l : List UInt8} {i : Nat} {c : UInt8} (h : l[i]? = some c) : l.drop i = c :: l.drop (i + 1) := by
 have hl : i < l.length := (List.getElem?_eq_some_iff.1 h).1
 rw [List.drop_eq_getElem_cons hl]
 congr 1
 exact (List.getElem?_eq_some_iff.1 h).2
theorem Way.later {P T : List UInt8} {p t s1 e : Nat} (h : Way P T p t s1 e) (hs : s1 ≠ 0) {k : Nat} (hk : e < k) (hT : k ≤ T.length) (hf : Fit (P.drop s1) (T.drop k)) :
 k + (p - s1) ≤ T.length ∧ t < k + (p - s1) ∧ Fit (P.drop p) (T.drop (k + (p - s1))) := by
 have h1 := h.same hs
 have h2 := h.s_le; have h3 := h.e_le; have h4 := h.p_le
 have e1 : P.drop s1 = (P.drop s1).take (p - s1) ++ P.drop p := by
  conv => lhs; rw [← List.take_append_drop (p - s1) (P.drop s1)]
  rw [List.drop_drop, show s1 + (p - s1) = p by omega]
 rw [e1] at hf
 obtain ⟨h5, h6⟩ := fit_seg (h.plain hs) hf
 rw [List.length_take, List.length_drop, Nat.min_eq_left (by omega), List.length_drop] at h5
 rw [List.length_take, List.length_drop, Nat.min_eq_left (by omega), List.drop_drop] at h6
 exact ⟨by omega, by omega, h6⟩
theorem Way.star {P T : List UInt8} {p t s1 e : Nat} (h : Way P T p t s1 e) (hp : P[p]? = some 42) : Way P T (p + 1) t (p + 1) t := by
 have hl : p < P.length := (List.getElem?_eq_some_iff.1 hp).1
 refine ⟨by omega, h.t_le, Nat.le_refl _, Nat.le_refl _, fun _ => by omega, fun h => by omega, fun _ c hc => by simp at hc, ?_⟩
 have hd : P.drop p = 42 :: P.drop (p + 1) := drop_at hp
 have key : Fit (P.drop p) (T.drop t) ↔ Fit (P.drop (p + 1)) (T.drop t) ∨ (p + 1 ≠ 0 ∧ ∃ k, t < k ∧ k ≤ T.length ∧ Fit (P.drop (p + 1)) (T.drop k)) := by
  rw [hd, fit_star]
  constructor
  · rintro ⟨k, hk, h1⟩
    rw [List.drop_drop] at h1
    rw [List.length_drop] at hk
    by_cases h0 : k = 0
    · subst h0; exact Or.inl h1
    · exact Or.inr ⟨by omega, t + k, by omega, by have := h.t_le; omega, h1⟩
  · rintro (h1 | ⟨_, k, hk, hT, h1⟩)
    · exact ⟨0, Nat.zero_le _, h1⟩
    · exact ⟨k - t, by rw [List.length_drop]; omega, by rw [List.drop_drop, show t + (k - t) = k by omega]; exact h1⟩
 rw [h.iff, ← key]
 constructor
 · rintro (h1 | ⟨hs, k, hk, hT, h1⟩)
   · exact h1
   · obtain ⟨h2, h3, h4⟩ := h.later hs hk hT h1
     rw [hd, fit_star] at h4 ⊢
     obtain ⟨m, hm, h5⟩ := h4
     rw [List.length_drop] at hm
     rw [List.drop_drop] at h5
     exact ⟨k + (p - s1) + m - t, by rw [List.length_drop]; omega, by rw [List.drop_drop, show t + (k + (p - s1) + m - t) = k + (p - s1) + m by omega]; exact h5⟩
 · exact Or.inl
theorem Way.one {P T : List UInt8} {p t s1 e : Nat} (h : Way P T p t s1 e) {c b : UInt8} (hp : P[p]? = some c) (ht : T[t]? = some b) (hc : c ≠ 42) (hm : c = 63 ∨ c = b) : Way P T (p + 1) (t + 1) s1 e := by
 have hl : p < P.length := (List.getElem?_eq_some_iff.1 hp).1
 have hl2 : t < T.length := (List.getElem?_eq_some_iff.1 ht).1
 have h2 := h.s_le; have h3 := h.e_le
 refine ⟨by omega, by omega, by omega, by omega, fun hs => by have := h.same hs; omega, h.none, fun hs x hx => ?_, ?_⟩
 · rw [show p + 1 - s1 = p - s1 + 1 by omega, List.take_add_one, List.getElem?_drop, show s1 + (p - s1) = p by omega, hp] at hx
   rcases List.mem_append.1 hx with hx | hx
   · exact h.plain hs x hx
   · have : x = c := by simpa using hx
     subst this; exact hc
 · rw [h.iff, drop_at hp, drop_at ht]
   have : Fit (c :: P.drop (p + 1)) (b :: T.drop (t + 1)) ↔ Fit (P.drop (p + 1)) (T.drop (t + 1)) := by
    rw [fit_one hc]
    exact ⟨fun ⟨b', t', e, _, h⟩ => by injection e with e1 e2; rw [e2]; exact h, fun h => ⟨_, _, rfl, hm, h⟩⟩
   rw [this]
theorem Way.dead {P T : List UInt8} {p t s1 e : Nat} (h : Way P T p t s1 e) (ht : t < T.length) (hn : p = P.length ∨ ∃ c b, P[p]? = some c ∧ T[t]? = some b ∧ c ≠ 42 ∧ c ≠ 63 ∧ c ≠ b) :
 Fit P T ↔ (s1 ≠ 0 ∧ ∃ k, e < k ∧ k ≤ T.length ∧ Fit (P.drop s1) (T.drop k)) := by
 rw [h.iff]
 refine ⟨fun hh => hh.resolve_left fun hf => ?_, Or.inr⟩
 rcases hn with rfl | ⟨c, b, hp, hb, h1, h2, h3⟩
 · rw [List.drop_length, fit_nil] at hf
   have := congrArg List.length hf
   rw [List.length_drop] at this; simp at this; omega
 · rw [drop_at hp, drop_at hb, fit_one h1] at hf
   obtain ⟨b', t', e, h4, _⟩ := hf
   injection e with e1 e2
   subst e1
   rcases h4 with h4 | h4
   · exact h2 h4
   · exact h3 h4
theorem Way.back {P T : List UInt8} {p t s1 e : Nat} (h : Way P T p t s1 e) (ht : t < T.length) (hn : p = P.length ∨ ∃ c b, P[p]? = some c ∧ T[t]? = some b ∧ c ≠ 42 ∧ c ≠ 63 ∧ c ≠ b) (hs : s1 ≠ 0) : Way P T s1 (e + 1) s1 (e + 1) := by
 have h2 := h.s_le; have h3 := h.e_le; have h4 := h.p_le
 refine ⟨by omega, by omega, Nat.le_refl _, Nat.le_refl _, fun _ => by omega, fun h => absurd h hs, fun _ c hc => by simp at hc, ?_⟩
 rw [h.dead ht hn]
 constructor
 · rintro ⟨_, k, hk, hT, h1⟩
   by_cases h0 : k = e + 1
   · subst h0; exact Or.inl h1
   · exact Or.inr ⟨hs, k, by omega, hT, h1⟩
 · rintro (h1 | ⟨_, k, hk, hT, h1⟩)
   · exact ⟨hs, e + 1, by omega, by omega, h1⟩
   · exact ⟨hs, k, by omega, hT, h1⟩
theorem Way.no {P T : List UInt8} {p t e : Nat} (h : Way P T p t 0 e) (ht : t < T.length) (hn : p = P.length ∨ ∃ c b, P[p]? = some c ∧ T[t]? = some b ∧ c ≠ 42 ∧ c ≠ 63 ∧ c ≠ b) : glB P T = false :=
 glB_f fun hh => ((h.dead ht hn).1 hh).1 rfl
theorem Way.done {P T : List UInt8} {p s1 e : Nat} (h : Way P T p T.length s1 e) : Fit P T ↔ ∀ c ∈ P.drop p, c = 42 := by
 rw [h.iff, List.drop_length, fit_to_nil]
 refine ⟨fun hh => hh.resolve_right ?_, Or.inl⟩
 rintro ⟨hs, k, hk, hT, h1⟩
 obtain ⟨h2, h3, _⟩ := h.later hs hk hT h1
 omega
end Go.Proofs.YtkcjigelenofhaaGreatDoor
namespace Go.Proofs.YtkcjigelenofhaaGreatDoor
open Go.RowKit
def szVS : Value → Nat
 | .string t => t.size
 | _ => 0
def RTS (s t : ByteArray) : Prop := ∃ k, t.data.toList = s.data.toList.take k ∧ (∀ c ∈ s.data.toList.drop k, c = 32) ∧ (∀ h : 0 < t.size, t[t.size - 1] ≠ 32)
def LTS (s t : ByteArray) : Prop := ∃ k, t.data.toList = s.data.toList.drop k ∧ (∀ c ∈ s.data.toList.take k, c = 32) ∧ (∀ h : 0 < t.size, t[0] ≠ 32)
theorem baLenS (b : ByteArray) : b.data.toList.length = b.size := by simp
theorem ba0S {b : ByteArray} (h : b.size = 0) : b = ⟨#[]⟩ := by
 cases b with
 | mk d => congr 1; exact Array.eq_empty_of_size_eq_zero h
theorem baTlS (a : ByteArray) : a.toList = a.data.toList := ByteArray.toList_eq ..
theorem ext_takeS (t : ByteArray) (n : Nat) : (t.extract 0 n).data.toList = t.data.toList.take n := by
 rw [ByteArray.data_extract]; simp
theorem ext_dropS (t : ByteArray) (n : Nat) : (t.extract n t.size).data.toList = t.data.toList.drop n := by
 rw [ByteArray.data_extract]
 simp
 rw [List.take_of_length_le]
 simp
theorem u8_eqS {x c : UInt8} {k : Int} (hk : (c.toNat : Int) = k) : (x.toNat : Int) = k ↔ x = c :=
 ⟨fun h => UInt8.toNat_inj.1 (by omega), fun h => by rw [h]; exact hk⟩
theorem ba_atS (t : ByteArray) (n : Nat) (h : n < t.size) : t.data.toList[n]? = some (t[n]'h) := by
 rw [Array.getElem?_toList]
 exact Array.getElem?_eq_getElem (by exact h)
set_option maxRecDepth 20000 in
set_option maxHeartbeats 1000000 in
theorem iTrimRS (s : ByteArray) (hs : s.size ≤ 1099511627776) (w : World) :
 Calls Tryz.prog 123 #[.string s, .int .u8 32] w fun e w' => (∃ t, e = .returned (.string t) ∧ RTS s t) ∧ w' = w := by
 go_enter Tryz.func123, Tryz.ntmps123
 go_wp2
 go_loop [0] (fun v => ∃ (t : ByteArray) (k : Nat), v = .string t ∧ t.size ≤ 1099511627776 ∧ t.data.toList = s.data.toList.take k ∧ ∀ c ∈ s.data.toList.drop k, c = 32) (fun v => szVS v)
 case atStart => exact ⟨s, s.size, rfl, hs, by rw [List.take_of_length_le]; simp, fun c hc => by rw [List.drop_of_length_le (by simp)] at hc; cases hc⟩
 case round =>
  obtain ⟨t, k, rfl, ht, h1, h2⟩ := hrel
  have H1 := hid h1
  have H2 := hid h2
  clear h1 h2
  by_cases h0 : 0 < t.size
  · obtain ⟨n, hn⟩ : ∃ n, t.size = n + 1 := ⟨t.size - 1, by omega⟩
    have e1 : (t.size : Int) - 1 = (n : Int) := by omega
    have e2 : IntKind.i64.wrap (n : Int) = (n : Int) := by rw [IntKind.wrap_i64]; omega
    have hl : n < t.size := by omega
    have HN := hid hn
    clear hn
    by_cases hc : t[n]'hl = 32
    · have c1 : ((t[n]'hl).toNat : Int) = 32 := by rw [hc]; rfl
      have HC := hid hc
      clear hc
      go_wp2
      refine ⟨⟨_, n, rfl, by rw [ByteArray.size_extract]; omega, ?_, ?_⟩, ?_⟩
      · rw [ext_takeS, H1.out, List.take_take]
        have := congrArg List.length H1.out
        rw [List.length_take, baLenS] at this
        rw [Nat.min_eq_left (by have := HN.out; omega)]
      · intro c hx
        have hL := congrArg List.length H1.out
        rw [List.length_take, baLenS, baLenS] at hL
        have hnn := HN.out
        have e3 : s.data.toList[n]? = some (t[n]'hl) := by
         rw [← ba_atS t n hl, H1.out, List.getElem?_take, if_pos (by omega)]
        rw [drop_at e3] at hx
        rcases List.mem_cons.1 hx with rfl | hx
        · exact HC.out
        · refine H2.out c ?_
          rcases Nat.lt_or_ge k (n + 2) with h | h
          · rw [show k = n + 1 by omega]; exact hx
          · rw [show n + 1 = s.size by omega] at hx
            rw [List.drop_of_length_le (by rw [baLenS]; exact Nat.le_refl _)] at hx; cases hx
      · show (t.extract 0 n).size < t.size
        rw [ByteArray.size_extract]; omega
    · have c1 : ¬ ((t[n]'hl).toNat : Int) = 32 := fun h => hc ((u8_eqS (c := 32) rfl).1 h)
      have HC := hid hc
      clear hc
      go_wp2
      go_ret
      refine ⟨⟨t, rfl, k, H1.out, H2.out, fun h => ?_⟩, rfl⟩
      have : t.size - 1 = n := by have := HN.out; omega
      simp only [this]; exact HC.out
  · have d0 : ¬ (0 : Int) < (t.size : Int) := by omega
    go_wp2
    go_ret
    exact ⟨⟨t, rfl, k, H1.out, H2.out, fun h => absurd h h0⟩, rfl⟩
set_option maxRecDepth 20000 in
set_option maxHeartbeats 1000000 in
theorem iTrimLS (s : ByteArray) (hs : s.size ≤ 1099511627776) (w : World) :
 Calls Tryz.prog 122 #[.string s, .int .u8 32] w fun e w' => (∃ t, e = .returned (.string t) ∧ LTS s t) ∧ w' = w := by
 go_enter Tryz.func122, Tryz.ntmps122
 go_wp2
 go_loop [0] (fun v => ∃ (t : ByteArray) (k : Nat), v = .string t ∧ t.size ≤ 1099511627776 ∧ t.data.toList = s.data.toList.drop k ∧ ∀ c ∈ s.data.toList.take k, c = 32) (fun v => szVS v)
 case atStart => exact ⟨s, 0, rfl, hs, rfl, fun c hc => by cases hc⟩
 case round =>
  obtain ⟨t, k, rfl, ht, h1, h2⟩ := hrel
  have H1 := hid h1
  have H2 := hid h2
  clear h1 h2
  by_cases h0 : 0 < t.size
  · by_cases hc : t[0]'h0 = 32
    · have c1 : ((t[0]'h0).toNat : Int) = 32 := by rw [hc]; rfl
      have HC := hid hc
      clear hc
      go_wp2
      refine ⟨⟨_, k + 1, rfl, by rw [ByteArray.size_extract]; omega, ?_, ?_⟩, ?_⟩
      · rw [ext_dropS, H1.out, List.drop_drop]
      · intro c hx
        have e3 : s.data.toList[k]? = some (t[0]'h0) := by
         rw [← ba_atS t 0 h0, H1.out, List.getElem?_drop]; rfl
        rw [List.take_add_one, e3] at hx
        rcases List.mem_append.1 hx with hx | hx
        · exact H2.out c hx
        · have : c = t[0]'h0 := by simpa using hx
          rw [this]; exact HC.out
      · show (t.extract 1 t.size).size < t.size
        rw [ByteArray.size_extract]; omega
    · have c1 : ¬ ((t[0]'h0).toNat : Int) = 32 := fun h => hc ((u8_eqS (c := 32) rfl).1 h)
      have HC := hid hc
      clear hc
      go_wp2
      go_ret
      exact ⟨⟨t, rfl, k, H1.out, H2.out, fun h => HC.out⟩, rfl⟩
  · have d0 : ¬ (0 : Int) < (t.size : Int) := by omega
    go_wp2
    go_ret
    exact ⟨⟨t, rfl, k, H1.out, H2.out, fun h => absurd h h0⟩, rfl⟩
theorem iTrimRzS (s : ByteArray) (hs : s.size ≤ 1099511627776) (z : Int) (hz : z = 32) (w : World) :
 Calls Tryz.prog 123 #[.string s, .int .u8 z] w fun e w' => (∃ t, e = .returned (.string t) ∧ RTS s t) ∧ w' = w := by subst hz; exact iTrimRS s hs w
theorem iTrimLzS (s : ByteArray) (hs : s.size ≤ 1099511627776) (z : Int) (hz : z = 32) (w : World) :
 Calls Tryz.prog 122 #[.string s, .int .u8 z] w fun e w' => (∃ t, e = .returned (.string t) ∧ LTS s t) ∧ w' = w := by subst hz; exact iTrimLS s hs w
theorem rt_leS {s t : ByteArray} (h : RTS s t) : t.size ≤ s.size := by
 obtain ⟨k, h1, _⟩ := h
 have := congrArg List.length h1
 rw [List.length_take, baLenS, baLenS] at this; omega
theorem lt_leS {s t : ByteArray} (h : LTS s t) : t.size ≤ s.size := by
 obtain ⟨k, h1, _⟩ := h
 have := congrArg List.length h1
 rw [List.length_drop, baLenS, baLenS] at this; omega
theorem ba_extS {a b : ByteArray} (h : a.data.toList = b.data.toList) : a = b := by
 cases a
 cases b
 congr 1
 exact Array.toList_inj.1 h
theorem trim_sameS {s t u : ByteArray} (h1 : RTS s t) (h2 : LTS t u) : u = s ↔ ∀ h : 0 < s.size, s[0]'h ≠ 32 ∧ s[s.size - 1]'(by omega) ≠ 32 := by
 have l1 := rt_leS h1
 have l2 := lt_leS h2
 obtain ⟨k, a1, a2, a3⟩ := h1
 obtain ⟨m, b1, b2, b3⟩ := h2
 constructor
 · intro hu h
   have ht : t = s := by
    have l3 : u.size = s.size := by rw [hu]
    refine ba_extS ?_
    rw [a1]
    refine List.take_of_length_le ?_
    have := congrArg List.length a1
    rw [List.length_take, baLenS, baLenS] at this
    rw [baLenS]
    omega
   subst ht
   subst hu
   exact ⟨b3 h, a3 h⟩
 · intro h
   by_cases h0 : 0 < s.size
   · obtain ⟨p1, p2⟩ := h h0
     have ht : t = s := by
      refine ba_extS ?_
      rw [a1]
      refine List.take_of_length_le ?_
      rw [baLenS]
      rcases Nat.lt_or_ge k s.size with hk | hk
      · exfalso
        refine p2 (a2 _ (List.mem_iff_getElem?.2 ⟨s.size - 1 - k, ?_⟩))
        rw [List.getElem?_drop, show k + (s.size - 1 - k) = s.size - 1 by omega]
        exact ba_atS s _ _
      · exact hk
     subst ht
     refine ba_extS ?_
     rw [b1]
     rcases Nat.eq_zero_or_pos m with hm | hm
     · subst hm; rfl
     · exfalso
       refine p1 (b2 _ (List.mem_iff_getElem?.2 ⟨0, ?_⟩))
       rw [List.getElem?_take, if_pos hm]
       exact ba_atS _ _ _
   · have hs : s.size = 0 := by omega
     refine ba_extS ?_
     rw [List.eq_nil_of_length_eq_zero (show u.data.toList.length = 0 by rw [baLenS]; omega), List.eq_nil_of_length_eq_zero (show s.data.toList.length = 0 by rw [baLenS]; omega)]
set_option maxRecDepth 20000 in
set_option maxHeartbeats 1000000 in
theorem iTrimS (s : ByteArray) (hs : s.size ≤ 1099511627776) (w : World) :
 Calls Tryz.prog 103 #[.string s, .string ⟨#[32]⟩] w fun e w' => (∃ u : ByteArray, e = .returned (.string u) ∧ (u = s ↔ ∀ h : 0 < s.size, s[0]'h ≠ 32 ∧ s[s.size - 1]'(by omega) ≠ 32)) ∧ ∃ n, w' = w.drewN n := by
 by_cases h0 : s.size = 0
 · have e0 : s = ⟨#[]⟩ := ba0S h0
   subst e0
   go_enter Tryz.func103, Tryz.ntmps103
   go_wp2
   go_ret
   refine ⟨⟨_, rfl, ?_⟩, 0, rfl⟩
   exact ⟨fun _ h => absurd h (by decide), fun _ => rfl⟩
 · have hne := hid h0
   have e0 : ¬ s.toList = [] := fun e => h0 (by rw [← baLenS, ← baTlS, e]; rfl)
   have e1 : s.toList.isEmpty = false := by cases h : s.toList with
    | nil => exact absurd h e0
    | cons _ _ => rfl
   have x1 : (((⟨#[32]⟩ : ByteArray)[0]'(by decide)).toNat : Int) < 128 := by decide
   clear h0
   go_enter Tryz.func103, Tryz.ntmps103
   go_wp2_with fail
   go_region_with (first | (go_at_call 123; refine (iTrimRzS s hs _ (by decide) _).mono ?_; rintro e w2 ⟨⟨t, rfl, h1⟩, rfl⟩; have H1 := hid h1; clear h1) | (go_at_call 122; refine (iTrimLzS t (Nat.le_trans (rt_leS H1.out) hs) _ (by decide) _).mono ?_; rintro e w2 ⟨⟨u, rfl, h2⟩, rfl⟩; have H2 := hid h2; clear h2))
   all_goals go_wp2
   all_goals go_ret
   all_goals exact ⟨⟨u, rfl, trim_sameS H1.out H2.out⟩, _, rfl⟩
end Go.Proofs.YtkcjigelenofhaaGreatDoor
