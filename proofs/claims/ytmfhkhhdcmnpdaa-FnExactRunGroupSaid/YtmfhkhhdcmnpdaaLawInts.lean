import Derived.Test.YtmfhkhhdcmnpdaaK1
namespace Go.Proofs.Ytmfhkhhdcmnpdaa
open Go.RowKit
/-! The laws' own ways with slices of int64: their bulk, a copy, a comparison, marks. -/
theorem below_drewN' {n : Nat} {w w' : World} (h : Below n w w') (m : Nat) : Below n w (w'.drewN m) := ⟨h.os, h.tape, h.output, h.size, h.block⟩
set_option maxRecDepth 20000 in
set_option maxHeartbeats 400000 in
theorem sz64 (a : Option Addr) (len cap : Nat) (L : Int) (h0 : 0 ≤ L) (h1 : L ≤ 1048576) (hl : len ≤ 9223372036854775807) (w : World) :
    Calls Try.prog 63 #[.slice a len cap, .int .i64 L] w fun e w' => e = .returned (.int .i64 (if (len : Int) ≤ L then L - len else -1)) ∧ w' = w := by
  by_cases h : (len : Int) ≤ L
  · have d0 : decide (L - (len : Int) < 0) = false := by simp; omega
    rw [if_pos h]
    go_enter Try.func63, Try.ntmps63
    go_wp2
    go_ret
    exact ⟨rfl, rfl⟩
  · have d0 : decide (L - (len : Int) < 0) = true := by simp; omega
    rw [if_neg h]
    go_enter Try.func63, Try.ntmps63
    go_wp2
    go_ret
    exact ⟨rfl, rfl⟩
theorem take_set_eq {xs ys : List Int} {k : Nat} (hx : k < xs.length) (hy : k < ys.length) (h : ys.take k = xs.take k) : (ys.set k (xs.getD k 0)).take (k + 1) = xs.take (k + 1) := by
  apply List.ext_getElem?
  intro i
  rw [List.getElem?_take, List.getElem?_take]
  split
  · by_cases e : i = k
    · subst e; rw [List.getElem?_set_self hy, List.getD_eq_getElem?_getD, List.getElem?_eq_getElem hx]; rfl
    · rw [List.getElem?_set_ne (by omega)]
      have := congrArg (·[i]?) h
      simp only [List.getElem?_take] at this
      rw [if_pos (by omega), if_pos (by omega)] at this; exact this
  · rfl
set_option maxRecDepth 20000 in
set_option maxHeartbeats 1000000 in
theorem to64 (a : Option Addr) (len cap : Nat) (xs : List Int) (w : World) (h : Ints .i64 w a len cap xs) (hl : len ≤ 1048576) :
    Calls Try.prog 64 #[.slice a len cap] w fun e w' => e = .returned (.slice (some ⟨w.heap.size, 0, none⟩) len len) ∧ Wr .i64 w' w.heap.size 0 xs ∧ Below w.heap.size w w' := by
  have hmk := mk64 w len (by omega)
  have hx := h.1
  go_enter Try.func64, Try.ntmps64
  go_wp2
  go_loopw [4] (fun y wr => ∃ (k : Nat) (ys : List Int), k ≤ len ∧ ys.length = len ∧ ys.take k = xs.take k ∧ y = .int .i64 k ∧ Wr .i64 wr w.heap.size 0 ys ∧ Below w.heap.size w wr) (fun y _ => len - (intOf y).toNat)
  case atStart => exact ⟨0, List.replicate len 0, Nat.zero_le _, List.length_replicate, rfl, rfl, Wr.of (RowAt.new w _ _), (Below.refl _ _).alloc (Nat.le_refl _) _⟩
  case round =>
    obtain ⟨k, ys, hk, hyl, hyt, rfl, hw, hb⟩ := hrel
    clear hmk
    have HT := hid hyt
    clear hyt
    by_cases hlt : k < len
    · rcases h.2.2 with h00 | ⟨b, off, rfl, hbl, hc⟩
      · omega
      · have c1 : wr.cell? ⟨b, off + k, none⟩ = some (.int .i64 (xs.getD k 0)) := (hb.cell (p := ⟨b, off + k, none⟩) hbl).trans (hc k hlt)
        have c2 : wr.cell? ⟨w.heap.size, k, none⟩ = some (.int .i64 (ys.getD k 0)) := by have := hw.cell (i := k) (by omega); rwa [Nat.zero_add] at this
        have f2 := hw.free k
        have hlt' : (k : Int) < (len : Int) := by omega
        have HS := hid (take_set_eq (xs := xs) (ys := ys) (k := k) (by omega) (by omega) HT.out)
        have HW : Hid (Wr .i64 (wr.setCell ⟨w.heap.size, k, none⟩ (.int .i64 (xs.getD k 0))) w.heap.size 0 (ys.set k (xs.getD k 0))) := by have := hw.set k (xs.getD k 0) (by omega); rw [Nat.zero_add] at this; exact this
        obtain ⟨x, hx⟩ : ∃ x, x = xs.getD k 0 := ⟨_, rfl⟩
        rw [← hx] at c1 HW HS
        clear hx
        go_wp2
        go_roundw
        case rel => exact ⟨k + 1, ys.set k x, by omega, by rw [List.length_set]; exact hyl, HS.out, by go_num, HW.out, hb.setCell (by simp) _⟩
        case measure => simp [intOf]; omega
    · have hke : k = len := by omega
      subst hke
      have HE : Hid (ys = xs) := by
        have := HT.out
        rw [List.take_of_length_le (by omega), List.take_of_length_le (by omega)] at this; exact this
      go_wp2
      go_ret
      exact ⟨rfl, HE.out ▸ hw, hb⟩
set_option maxRecDepth 20000 in
set_option maxHeartbeats 1000000 in
theorem eq64 (a : Option Addr) (len cap : Nat) (xs : List Int) (a' : Option Addr) (len' cap' : Nat) (ys : List Int) (w : World) (h : Ints .i64 w a len cap xs) (h' : Ints .i64 w a' len' cap' ys) (hl : len ≤ 1048576) (hl' : len' ≤ 1048576) (he : xs = ys) :
    Calls Try.prog 67 #[.slice a len cap, .slice a' len' cap'] w fun e w' => e = .returned (.bool true) ∧ Below w.heap.size w w' := by
  subst he
  have hx := h.1
  have hx' := h'.1
  have e1 : len' = len := by omega
  subst e1
  go_enter Try.func67, Try.ntmps67
  go_wp2
  go_loopw [5] (fun y wr => ∃ (k : Nat), k ≤ len' ∧ y = .int .i64 k ∧ Below w.heap.size w wr) (fun y _ => len' - (intOf y).toNat)
  case atStart => exact ⟨0, Nat.zero_le _, rfl, Below.refl _ _⟩
  case round =>
    obtain ⟨k, hk, rfl, hb⟩ := hrel
    by_cases hlt : k < len'
    · rcases h.2.2 with h00 | ⟨b, off, rfl, hbl, hc⟩
      · omega
      · rcases h'.2.2 with h01 | ⟨b', off', rfl, hbl', hc'⟩
        · omega
        · have c1 : wr.cell? ⟨b, off + k, none⟩ = some (.int .i64 (xs.getD k 0)) := (hb.cell (p := ⟨b, off + k, none⟩) hbl).trans (hc k hlt)
          have c2 : wr.cell? ⟨b', off' + k, none⟩ = some (.int .i64 (xs.getD k 0)) := (hb.cell (p := ⟨b', off' + k, none⟩) hbl').trans (hc' k hlt)
          have hlt' : (k : Int) < (len' : Int) := by omega
          have i0 : (0 : Int) ≤ (k : Int) := by omega
          obtain ⟨x, hx2⟩ : ∃ x, x = xs.getD k 0 := ⟨_, rfl⟩
          rw [← hx2] at c1 c2
          clear hx2
          go_wp2_with fail
          go_quiet (fail)
          go_wp2
          go_roundw
          case rel => exact ⟨k + 1, by omega, by go_num, below_drewN' hb nq⟩
          case measure => simp [intOf]; omega
    · go_wp2
      go_ret
      exact ⟨rfl, hb⟩
/-- the marks from k on -/
def marks (k n : Nat) : List Int := (List.range' k n).map (fun i : Nat => (i : Int))
theorem marks_len (k n : Nat) : (marks k n).length = n := by simp [marks]
theorem marks_at {k n i : Nat} (h : i < n) : (marks k n).getD i 0 = ((k + i : Nat) : Int) := by
  rw [List.getD_eq_getElem?_getD]
  simp [marks, h]
/-- An answer's own numbers: none, or in a block from base on. -/
def Ow (w : World) (base : Nat) (a : Option Addr) (len cap : Nat) (xs : List Int) : Prop :=
  xs.length = len ∧ len ≤ cap ∧ (len = 0 ∨ ∃ b off, a = some ⟨b, off, none⟩ ∧ base ≤ b ∧ Wr .i64 w b off xs)
theorem Ow.ints {w : World} {base : Nat} {a : Option Addr} {len cap : Nat} {xs : List Int} (h : Ow w base a len cap xs) : Ints .i64 w a len cap xs := by
  refine ⟨h.1, h.2.1, ?_⟩
  rcases h.2.2 with h0 | ⟨b, off, rfl, _, hw⟩
  · exact Or.inl h0
  · exact Or.inr ⟨b, off, rfl, hw.lt, fun i hi => hw.cell (by rw [h.1]; exact hi)⟩
theorem Ow.below {w w' : World} {base n : Nat} {a : Option Addr} {len cap : Nat} {xs : List Int} (h : Ow w base a len cap xs) (hb : Below n w w') (hn : w.heap.size ≤ n) : Ow w' base a len cap xs := by
  refine ⟨h.1, h.2.1, ?_⟩
  rcases h.2.2 with h0 | ⟨b, off, rfl, h1, hw⟩
  · exact Or.inl h0
  · exact Or.inr ⟨b, off, rfl, h1, hw.below hb (Nat.lt_of_lt_of_le hw.lt hn)⟩
theorem Ow.alloc {w : World} {base : Nat} {a : Option Addr} {len cap : Nat} {xs : List Int} (h : Ow w base a len cap xs) (o : Obj) : Ow (w.alloc o) base a len cap xs :=
  h.below ((Below.refl _ _).alloc (Nat.le_refl _) o) (Nat.le_refl _)
theorem Ow.mono {w : World} {base base' : Nat} {a : Option Addr} {len cap : Nat} {xs : List Int} (h : Ow w base a len cap xs) (hb : base' ≤ base) : Ow w base' a len cap xs := by
  refine ⟨h.1, h.2.1, ?_⟩
  rcases h.2.2 with h0 | ⟨b, off, rfl, h1, hw⟩
  · exact Or.inl h0
  · exact Or.inr ⟨b, off, rfl, Nat.le_trans hb h1, hw⟩
theorem Wr.ow {w : World} {b off base : Nat} {xs : List Int} (h : Wr .i64 w b off xs) {cap : Nat} (hc : xs.length ≤ cap) (hb : base ≤ b) : Ow w base (some ⟨b, off, none⟩) xs.length cap xs :=
  ⟨rfl, hc, Or.inr ⟨b, off, rfl, hb, h⟩⟩
set_option maxHeartbeats 400000 in
theorem mark64_0 (a : Option Addr) (cap : Nat) (k0 : Nat) (w : World) :
    Calls Try.prog 41 #[.slice a 0 cap, .int .i64 k0] w fun e w' => e = .returned (.int .i64 k0) ∧ w' = w := by
  go_enter Try.func41, Try.ntmps41
  go_wp2
  go_loop [1, 5] (fun z y => z = .int .i64 k0 ∧ y = .int .i64 0) (fun _ _ => 0)
  case atStart => exact ⟨rfl, rfl⟩
  case round =>
    obtain ⟨rfl, rfl⟩ := hrel
    go_wp2
    go_ret
    exact ⟨rfl, rfl⟩
set_option maxRecDepth 20000 in
set_option maxHeartbeats 1000000 in
theorem mark64 (b off cap : Nat) (xs : List Int) (k0 : Nat) (w : World) (h : Wr .i64 w b off xs) (hl : xs.length ≤ 1048576) (hk0 : k0 ≤ 1073741824) :
    Calls Try.prog 41 #[.slice (some ⟨b, off, none⟩) xs.length cap, .int .i64 k0] w fun e w' => e = .returned (.int .i64 (k0 + xs.length : Nat)) ∧ Wr .i64 w' b off (marks k0 xs.length) ∧ w.grownBy w' (some b) := by
  obtain ⟨n, hn⟩ : ∃ n, n = xs.length := ⟨_, rfl⟩
  rw [← hn] at hl ⊢
  go_enter Try.func41, Try.ntmps41
  go_wp2
  go_loopw [1, 5] (fun z y wr => ∃ (k : Nat) (ys : List Int), k ≤ n ∧ ys.length = n ∧ ys.take k = (marks k0 n).take k ∧ z = .int .i64 ((k0 + k : Nat) : Int) ∧ y = .int .i64 k ∧ Wr .i64 wr b off ys ∧ w.grownBy wr (some b)) (fun _ y _ => n - (intOf y).toNat)
  case atStart => exact ⟨0, xs, Nat.zero_le _, hn.symm, rfl, rfl, rfl, h, below_grown (Below.refl _ _) _⟩
  case round =>
    obtain ⟨k, ys, hk, hyl, hyt, rfl, rfl, hw, hg⟩ := hrel
    have HT := hid hyt
    clear hyt hn h
    by_cases hlt : k < n
    · have c2 := hw.cell (i := k) (by omega)
      have f2 := hw.free (off + k)
      have hlt' : (k : Int) < (n : Int) := by omega
      have hm := marks_at (k := k0) hlt
      have HS : Hid ((ys.set k ((k0 + k : Nat) : Int)).take (k + 1) = (marks k0 n).take (k + 1)) := by
        have := take_set_eq (xs := marks k0 n) (ys := ys) (k := k) (by rw [marks_len]; exact hlt) (by omega) HT.out
        rw [hm] at this; exact this
      have HW := hid (hw.set k ((k0 + k : Nat) : Int) (by omega))
      clear hm
      go_wp2
      go_roundw
      case rel => exact ⟨k + 1, ys.set k ((k0 + k : Nat) : Int), by omega, by rw [List.length_set]; exact hyl, HS.out, by go_num, by go_num, by simpa using HW.out, grown_trans hg grown_set⟩
      case measure => simp [intOf]; omega
    · have hke : k = n := by omega
      subst hke
      have HE : Hid (ys = marks k0 k) := by
        have := HT.out
        rw [List.take_of_length_le (by omega), List.take_of_length_le (by rw [marks_len]; exact Nat.le_refl _)] at this; exact this
      go_wp2
      go_ret
      exact ⟨rfl, HE.out ▸ hw, hg⟩
/-- the block of a slice -/
abbrev blkOf (a : Option Addr) : Option Nat := a.map (·.block)
theorem markOw (base : Nat) (a : Option Addr) (len cap : Nat) (xs : List Int) (k0 : Nat) (w : World) (h : Ow w base a len cap xs) (hl : len ≤ 1048576) (hk0 : k0 ≤ 1073741824) :
    Calls Try.prog 41 #[.slice a len cap, .int .i64 k0] w fun e w' => e = .returned (.int .i64 (k0 + len : Nat)) ∧ Ow w' base a len cap (marks k0 len) ∧ w.grownBy w' (blkOf a) := by
  rcases h.2.2 with h0 | ⟨b, off, rfl, h1, hw⟩
  · subst h0
    refine (mark64_0 a cap k0 w).mono ?_
    rintro e w' ⟨rfl, rfl⟩
    exact ⟨rfl, ⟨marks_len _ _, h.2.1, Or.inl rfl⟩, below_grown (Below.refl _ _) _⟩
  · have hx := h.1
    subst hx
    refine (mark64 b off cap xs k0 w hw hl hk0).mono ?_
    rintro e w' ⟨rfl, hw', hg⟩
    exact ⟨rfl, ⟨marks_len _ _, h.2.1, Or.inr ⟨b, off, rfl, h1, hw'⟩⟩, hg⟩
set_option maxHeartbeats 400000 in
theorem held64_0 (a : Option Addr) (cap : Nat) (k0 : Nat) (w : World) :
    Calls Try.prog 70 #[.slice a 0 cap, .int .i64 k0] w fun e w' => e = .returned (.int .i64 k0) ∧ w' = w := by
  go_enter Try.func70, Try.ntmps70
  go_wp2
  go_loop [1, 5] (fun z y => z = .int .i64 k0 ∧ y = .int .i64 0) (fun _ _ => 0)
  case atStart => exact ⟨rfl, rfl⟩
  case round =>
    obtain ⟨rfl, rfl⟩ := hrel
    go_wp2
    go_ret
    exact ⟨rfl, rfl⟩
set_option maxRecDepth 20000 in
set_option maxHeartbeats 1000000 in
theorem held64 (b off cap n : Nat) (k0 : Nat) (w : World) (h : Wr .i64 w b off (marks k0 n)) (hl : n ≤ 1048576) (hk0 : k0 ≤ 1073741824) :
    Calls Try.prog 70 #[.slice (some ⟨b, off, none⟩) n cap, .int .i64 k0] w fun e w' => e = .returned (.int .i64 (k0 + n : Nat)) ∧ w' = w := by
  go_enter Try.func70, Try.ntmps70
  go_wp2
  go_loop [1, 5] (fun z y => ∃ (k : Nat), k ≤ n ∧ z = .int .i64 ((k0 + k : Nat) : Int) ∧ y = .int .i64 k) (fun _ y => n - (intOf y).toNat)
  case atStart => exact ⟨0, Nat.zero_le _, rfl, rfl⟩
  case round =>
    obtain ⟨k, hk, rfl, rfl⟩ := hrel
    by_cases hlt : k < n
    · have c2 := h.cell (i := k) (by rw [marks_len]; exact hlt)
      rw [marks_at hlt] at c2
      have hlt' : (k : Int) < (n : Int) := by omega
      go_wp2
      go_round
      case rel => exact ⟨k + 1, by omega, by go_num, by go_num⟩
      case measure => simp [intOf]; omega
    · have hke : k = n := by omega
      subst hke
      go_wp2
      go_ret
      exact ⟨rfl, rfl⟩
theorem heldOw (base : Nat) (a : Option Addr) (len cap : Nat) (k0 : Nat) (w : World) (h : Ow w base a len cap (marks k0 len)) (hl : len ≤ 1048576) (hk0 : k0 ≤ 1073741824) :
    Calls Try.prog 70 #[.slice a len cap, .int .i64 k0] w fun e w' => e = .returned (.int .i64 (k0 + len : Nat)) ∧ w' = w := by
  rcases h.2.2 with h0 | ⟨b, off, rfl, h1, hw⟩
  · subst h0; exact held64_0 a cap k0 w
  · exact held64 b off cap len k0 w hw hl hk0
end Go.Proofs.Ytmfhkhhdcmnpdaa
