import Derived.Test.YtjeahllaajpddaaPlAns
import Derived.Test.YtjeahllaajpddaaStrK
namespace Go.Proofs.Ytjeahllaajpddaa
open Go.RowKit
/-! How much has to move. -/
def nwc (xs ys : List Int) : Nat := (ys.filter fun v => !decide (v ∈ xs)).length
theorem nwc_le (xs ys : List Int) : nwc xs ys ≤ ys.length := List.length_filter_le _ _
theorem nwc_take (xs ys : List Int) (k : Nat) (hk : k < ys.length) : nwc xs (ys.take (k + 1)) = nwc xs (ys.take k) + (if ys.getD k 0 ∈ xs then 0 else 1) := by
  unfold nwc
  have e : ys[k] = ys.getD k 0 := by simp [hk]
  rw [List.take_succ_eq_append_getElem hk, List.filter_append, List.length_append, e]
  congr 1
  by_cases h : ys.getD k 0 ∈ xs
  · rw [if_pos h]; simp only [List.filter_cons, List.filter_nil, h, decide_true, Bool.not_true]; rfl
  · rw [if_neg h]; simp only [List.filter_cons, List.filter_nil, h, decide_false, Bool.not_false]; rfl
def mvK (key : ByteArray) (n : Nat) (x y : Nat → Int) (n' : Nat) (x' y' : Nat → Int) (m : Int) : Int :=
  if plC key n x y m = 0 ∧ plC key n' x' y' m = 0 then (nwc (plL key n x y m) (plL key n' x' y' m) : Int) else 0
def mvS (ts : Nat → ByteArray) (n : Nat) (x y : Nat → Int) (n' : Nat) (x' y' : Nat → Int) (m : Int) : Nat → Int
  | 0 => 0
  | k + 1 => mvS ts n x y n' x' y' m k + mvK (ts k) n x y n' x' y' m
def mvV (ts : Nat → ByteArray) (len : Nat) (n : Nat) (x y : Nat → Int) (n' : Nat) (x' y' : Nat → Int) (m : Int) : Int :=
  if NdOk n x y ∧ NdOk n' x' y' ∧ len ≤ 100 then mvS ts n x y n' x' y' m len else -1
theorem mvK_bd (key : ByteArray) (n : Nat) (x y : Nat → Int) (n' : Nat) (x' y' : Nat → Int) (m : Int) : 0 ≤ mvK key n x y n' x' y' m ∧ mvK key n x y n' x' y' m ≤ 64 := by
  unfold mvK
  split
  · have h1 := nwc_le (plL key n x y m) (plL key n' x' y' m)
    have h2 := plL_len key n' x' y' m
    omega
  · omega
theorem mvS_bd (ts : Nat → ByteArray) (n : Nat) (x y : Nat → Int) (n' : Nat) (x' y' : Nat → Int) (m : Int) : ∀ k, 0 ≤ mvS ts n x y n' x' y' m k ∧ mvS ts n x y n' x' y' m k ≤ 64 * k
  | 0 => by simp [mvS]
  | k + 1 => by
    have := mvS_bd ts n x y n' x' y' m k
    have := mvK_bd (ts k) n x y n' x' y' m
    unfold mvS; omega
set_option maxRecDepth 20000 in
theorem sInI (a : Option Addr) (n cap : Nat) (xs : List Int) (v : Int) (hl : n ≤ 1048576) (w : World) (h : Ints .i64 w a n cap xs) :
    Calls Try.prog 40 #[.slice a n cap, .int .i64 v] w fun e w' => e = .returned (.bool (decide (v ∈ xs))) ∧ w' = w := by
  have hx := h.1
  have HH := hid h.2.2
  clear h
  go_enter Try.func40, Try.ntmps40
  go_wp2_with fail
  go_loopw [5] (fun r wr => ∃ k : Nat, k ≤ n ∧ r = .int .i64 (k : Int) ∧ (∀ i, i < k → xs.getD i 0 ≠ v) ∧ wr = w) (fun r _ => n - (intOf r).toNat)
  case atStart => exact ⟨0, Nat.zero_le _, rfl, fun i hi => absurd hi (by omega), rfl⟩
  case round =>
    obtain ⟨k, hk, rfl, hno, rfl⟩ := hrel
    have HN := hid hno
    clear hno
    by_cases hlt : k < n
    · have hlt' : (k : Int) < (n : Int) := by omega
      have k0 : (0 : Int) ≤ (k : Int) := by omega
      rcases HH.out with q0 | ⟨b, off, rfl, hbl, hc⟩
      · omega
      have c0 := hc k hlt
      clear hc
      obtain ⟨t, ht⟩ : ∃ t, t = xs.getD k 0 := ⟨_, rfl⟩
      rw [← ht] at c0
      have HT := hid ht
      clear ht
      by_cases e : t = v
      · have d : (t == v) = true := by simp [e]
        have E : Hid (decide (v ∈ xs) = true) := by
          show _ = _
          rw [← e, HT.out]; simp [show k < xs.length by omega]
        go_wp2
        go_ret
        exact ⟨by rw [E.out]; rfl, rfl⟩
      · have d : (t == v) = false := by simp [e]
        have N1 : Hid (∀ i, i < k + 1 → xs.getD i 0 ≠ v) := fun i hi => by
          by_cases q : i = k
          · rw [q, ← HT.out]; exact e
          · exact HN.out i (by omega)
        go_wp2
        go_roundw
        case rel => exact ⟨k + 1, hlt, by go_num, N1.out, trivial⟩
        case measure => simp [intOf]; omega
    · have hlt' : ¬ (k : Int) < (n : Int) := by omega
      have E : Hid (decide (v ∈ xs) = false) := by
        show _ = _
        simp only [decide_eq_false_iff_not]
        intro q
        obtain ⟨i, hi, e⟩ := List.getElem_of_mem q
        exact HN.out i (by omega) (by simp [hi, e])
      go_wp2
      go_ret
      exact ⟨by rw [E.out]; rfl, rfl⟩
set_option maxRecDepth 20000 in
theorem iIndex (a : Option Addr) (n cap : Nat) (xs : List Int) (v : Int) (hl : n ≤ 1048576) (w : World) (h : Ints .i64 w a n cap xs) :
    Calls Try.prog 60 #[.slice a n cap, .int .i64 v] w fun e w' => ∃ z : Int, e = .returned (.int .i64 z) ∧ (0 ≤ z ↔ v ∈ xs) ∧ w' = w := by
  have hx := h.1
  have HH := hid h.2.2
  clear h
  go_enter Try.func60, Try.ntmps60
  go_wp2_with fail
  go_loopw [8] (fun r wr => ∃ k : Nat, k ≤ n ∧ r = .int .i64 (k : Int) ∧ (∀ i, i < k → xs.getD i 0 ≠ v) ∧ wr = w) (fun r _ => n - (intOf r).toNat)
  case atStart => exact ⟨0, Nat.zero_le _, rfl, fun i hi => absurd hi (by omega), rfl⟩
  case round =>
    obtain ⟨k, hk, rfl, hno, rfl⟩ := hrel
    have HN := hid hno
    clear hno
    by_cases hlt : k < n
    · have hlt' : (k : Int) < (n : Int) := by omega
      have k0 : (0 : Int) ≤ (k : Int) := by omega
      rcases HH.out with q0 | ⟨b, off, rfl, hbl, hc⟩
      · omega
      have c0 := hc k hlt
      clear hc
      obtain ⟨t, ht⟩ : ∃ t, t = xs.getD k 0 := ⟨_, rfl⟩
      rw [← ht] at c0
      have HT := hid ht
      clear ht
      by_cases e : v = t
      · have d : (v == t) = true := by simp [e]
        have E : Hid (v ∈ xs) := by
          show _ ∈ _
          rw [e, HT.out]; simp [show k < xs.length by omega]
        go_wp2
        go_ret
        exact ⟨k, rfl, ⟨fun _ => E.out, fun _ => k0⟩, rfl⟩
      · have d : (v == t) = false := by simp [e]
        have N1 : Hid (∀ i, i < k + 1 → xs.getD i 0 ≠ v) := fun i hi => by
          by_cases q : i = k
          · rw [q, ← HT.out]; exact fun r => e r.symm
          · exact HN.out i (by omega)
        go_wp2
        go_roundw
        case rel => exact ⟨k + 1, hlt, by go_num, N1.out, trivial⟩
        case measure => simp [intOf]; omega
    · have hlt' : ¬ (k : Int) < (n : Int) := by omega
      have E : Hid (v ∉ xs) := fun q => by
        obtain ⟨i, hi, e⟩ := List.getElem_of_mem q
        exact HN.out i (by omega) (by simp [hi, e])
      go_wp2
      go_ret
      exact ⟨-1, rfl, ⟨fun q => absurd q (by decide), fun q => absurd q E.out⟩, rfl⟩
theorem iContains (a : Option Addr) (n cap : Nat) (xs : List Int) (v : Int) (hl : n ≤ 1048576) (w : World) (h : Ints .i64 w a n cap xs) :
    Calls Try.prog 55 #[.slice a n cap, .int .i64 v] w fun e w' => e = .returned (.bool (decide (v ∈ xs))) ∧ w' = w := by
  have K := hid (iIndex a n cap xs v hl w h)
  clear h
  go_enter Try.func55, Try.ntmps55
  go_wp2_with fail
  refine K.out.mono ?_
  rintro e w1 ⟨z, rfl, hz, rfl⟩
  have E : Hid (decide (v ∈ xs) = decide (0 ≤ z)) := by
    show _ = _
    by_cases q : 0 ≤ z
    · simp only [q, hz.1 q]
    · have q2 : ¬ v ∈ xs := fun r => q (hz.2 r)
      simp only [q, q2]
  clear hz
  go_wp2
  go_ret
  exact ⟨by rw [E.out]; rfl, rfl⟩
set_option maxRecDepth 20000 in
set_option maxHeartbeats 1000000 in
theorem iNewc (C : Int) (a : Option Addr) (c : Nat) (xs : List Int) (C' : Int) (a' : Option Addr) (c' : Nat) (ys : List Int) (hl : xs.length ≤ 64) (hl' : ys.length ≤ 64) (w : World) (h : Ints .i64 w a xs.length c xs) (h' : Ints .i64 w a' ys.length c' ys) :
    Calls Try.prog 43 #[plv C a xs.length c, plv C' a' ys.length c'] w fun e w' => e = .returned (.int .i64 (if C = 0 ∧ C' = 0 then (nwc xs ys : Int) else 0)) ∧ Below w.heap.size w w' := by
  have B2 : Hid (∀ o o', Below w.heap.size w ((w.alloc o).alloc o')) := fun o o' => ((Below.refl _ w).alloc (Nat.le_refl _) _).alloc (by simp) _
  unfold plv
  by_cases e0 : C = 0
  case neg =>
    rw [if_neg (fun q => e0 q.1)]
    have d0 : (C != 0) = true := by simp [e0]
    go_enter Try.func43, Try.ntmps43
    go_wp2
    go_ret
    exact ⟨rfl, B2.out _ _⟩
  by_cases e1 : C' = 0
  case neg =>
    rw [if_neg (fun q => e1 q.2)]
    have d0 : (C != 0) = false := by simp [e0]
    have d1 : (C' != 0) = true := by simp [e1]
    go_enter Try.func43, Try.ntmps43
    go_wp2
    go_ret
    exact ⟨rfl, B2.out _ _⟩
  subst e0 e1
  rw [if_pos ⟨rfl, rfl⟩]
  obtain ⟨W, hW⟩ : ∃ W, W = (w.alloc (.cells #[.int .i64 0, .slice a xs.length c] 34)).alloc (.cells #[.int .i64 0, .slice a' ys.length c'] 34) := ⟨_, rfl⟩
  have R1 := (RowAt.new w 34 #[.int .i64 0, .slice a xs.length c]).alloc (.cells #[.int .i64 0, .slice a' ys.length c'] 34)
  have R2 := RowAt.new (w.alloc (.cells #[.int .i64 0, .slice a xs.length c] 34)) 34 #[.int .i64 0, .slice a' ys.length c']
  rw [World.size_alloc] at R2
  have BW := B2.out (.cells #[.int .i64 0, .slice a xs.length c] 34) (.cells #[.int .i64 0, .slice a' ys.length c'] 34)
  have I1 := (h.alloc (.cells #[.int .i64 0, .slice a xs.length c] 34)).alloc (.cells #[.int .i64 0, .slice a' ys.length c'] 34)
  have I2 := (h'.alloc (.cells #[.int .i64 0, .slice a xs.length c] 34)).alloc (.cells #[.int .i64 0, .slice a' ys.length c'] 34)
  rw [← hW] at R1 R2 BW I1 I2
  have x0 := R1.cell 0
  have x1 := R1.cell 1
  have y0 := R2.cell 0
  have y1 := R2.cell 1
  have HBW := hid BW
  have HI1 := hid I1
  have HI2 := hid I2.2.2
  clear R1 R2 BW I1 I2 h h' B2
  go_enter Try.func43, Try.ntmps43
  go_wp2_with (rw [← hW])
  try rw [← hW]
  clear hW
  go_loopw [5, 19] (fun q r wr => ∃ k : Nat, k ≤ ys.length ∧ q = .int .i64 (nwc xs (ys.take k) : Int) ∧ r = .int .i64 (k : Int) ∧ wr = W) (fun _ r _ => ys.length - (intOf r).toNat)
  case atStart => exact ⟨0, Nat.zero_le _, rfl, rfl, rfl⟩
  case round =>
    obtain ⟨k, hk, rfl, rfl, rfl⟩ := hrel
    by_cases hlt : k < ys.length
    · have hlt' : (k : Int) < ((ys.length : Nat) : Int) := by omega
      have k0 : (0 : Int) ≤ (k : Int) := by omega
      rcases HI2.out with q0 | ⟨b, off, rfl, hbl, hc⟩
      · omega
      have c0 := hc k hlt
      clear hc
      have NT := nwc_take xs ys k hlt
      have NB := nwc_le xs (ys.take k)
      rw [List.length_take] at NB
      obtain ⟨t, ht⟩ : ∃ t, t = ys.getD k 0 := ⟨_, rfl⟩
      rw [← ht] at c0 NT
      clear ht
      have K := hid (iContains a xs.length c xs t (by omega) wr HI1.out)
      obtain ⟨N, hN⟩ : ∃ N, N = nwc xs (ys.take k) := ⟨_, rfl⟩
      rw [← hN] at NT NB ⊢
      have HNT := hid NT
      clear NT hN
      go_wp2_with fail
      refine K.out.mono ?_
      rintro e w2 ⟨rfl, rfl⟩
      by_cases q : t ∈ xs
      · have dq : decide (t ∈ xs) = true := by simp [q]
        have E : Hid (nwc xs (ys.take (k + 1)) = N) := by show _ = _; rw [HNT.out, if_pos q]; rfl
        rw [dq]
        go_wp2
        go_roundw
        case rel => exact ⟨k + 1, hlt, by rw [E.out], by go_num, trivial⟩
        case measure => simp [intOf]; omega
      · have dq : decide (t ∈ xs) = false := by simp [q]
        have E : Hid (nwc xs (ys.take (k + 1)) = N + 1) := by show _ = _; rw [HNT.out, if_neg q]
        rw [dq]
        go_wp2
        go_roundw
        case rel => exact ⟨k + 1, hlt, by rw [E.out]; go_num, by go_num, trivial⟩
        case measure => simp [intOf]; omega
    · have hlt' : ¬ (k : Int) < ((ys.length : Nat) : Int) := by omega
      have E : Hid (nwc xs (ys.take k) = nwc xs ys) := by show _ = _; rw [List.take_of_length_le (by omega)]
      go_wp2
      go_ret
      exact ⟨by rw [← E.out]; rfl, HBW.out⟩
end Go.Proofs.Ytjeahllaajpddaa
