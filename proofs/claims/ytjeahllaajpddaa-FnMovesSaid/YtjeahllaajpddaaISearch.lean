import Derived.Test.YtjeahllaajpddaaICmp
import Derived.Deep.RegionHeld3
namespace Go.Proofs.Ytjeahllaajpddaa
open Go.RowKit
/-- which of two bids comes first: below 0: the first -/
def hfV (d s d' s' : Int) : Int := orI (cmpI s' s) (cmpI d d')
/-- n bids in a block -/
def BidsAt (w : World) (a : Option Addr) (n : Nat) (D M S : Nat → Int) : Prop :=
  n = 0 ∨ ∃ g, a = some ⟨g, 0, none⟩ ∧ g < w.heap.size ∧ ∀ i, i < n → w.cell? ⟨g, i * 3, none⟩ = some (.int .i64 (D i)) ∧ w.cell? ⟨g, i * 3 + 1, none⟩ = some (.int .i64 (M i)) ∧ w.cell? ⟨g, i * 3 + 2, none⟩ = some (.int .i64 (S i))
theorem BidsAt.below {w w' : World} {a : Option Addr} {n : Nat} {D M S : Nat → Int} (h : BidsAt w a n D M S) (hb : Below w.heap.size w w') : BidsAt w' a n D M S := by
  rcases h with h | ⟨g, rfl, hg, hc⟩
  · exact .inl h
  · exact .inr ⟨g, rfl, Nat.lt_of_lt_of_le hg hb.size, fun i hi => ⟨(hb.cell (p := ⟨g, i * 3, none⟩) hg).trans (hc i hi).1, (hb.cell (p := ⟨g, i * 3 + 1, none⟩) hg).trans (hc i hi).2.1, (hb.cell (p := ⟨g, i * 3 + 2, none⟩) hg).trans (hc i hi).2.2⟩⟩
theorem six_below {w w' : World} {g b p : Nat} {a0 a1 a2 b0 b1 b2 : Value} (hg : g < w.heap.size) (hb : b < w.heap.size) (h : Below w.heap.size w w') (x0 : w.cell? ⟨g, p, none⟩ = some a0) (x1 : w.cell? ⟨g, p + 1, none⟩ = some a1) (x2 : w.cell? ⟨g, p + 2, none⟩ = some a2)
    (y0 : w.cell? ⟨b, 0, none⟩ = some b0) (y1 : w.cell? ⟨b, 1, none⟩ = some b1) (y2 : w.cell? ⟨b, 2, none⟩ = some b2) :
    w'.cell? ⟨g, p, none⟩ = some a0 ∧ w'.cell? ⟨g, p + 1, none⟩ = some a1 ∧ w'.cell? ⟨g, p + 2, none⟩ = some a2 ∧ w'.cell? ⟨b, 0, none⟩ = some b0 ∧ w'.cell? ⟨b, 1, none⟩ = some b1 ∧ w'.cell? ⟨b, 2, none⟩ = some b2 :=
  ⟨(h.cell (p := ⟨g, p, none⟩) hg).trans x0, (h.cell (p := ⟨g, p + 1, none⟩) hg).trans x1, (h.cell (p := ⟨g, p + 2, none⟩) hg).trans x2, (h.cell (p := ⟨b, 0, none⟩) hb).trans y0, (h.cell (p := ⟨b, 1, none⟩) hb).trans y1, (h.cell (p := ⟨b, 2, none⟩) hb).trans y2⟩
set_option maxRecDepth 20000 in
set_option maxHeartbeats 2000000 in
theorem iSearch (a : Option Addr) (n cap : Nat) (D M S : Nat → Int) (d m s : Int) (hn : n ≤ 1048576) (w : World) (h : BidsAt w a n D M S) :
    Calls Try.prog 58 #[.slice a n cap, .agg #[.int .i64 d, .int .i64 m, .int .i64 s], .func (.func 53) #[] #[]] w fun e w' =>
      ∃ (i : Nat) (b : Bool), e = .returned (.tuple #[.int .i64 (i : Int), .bool b]) ∧ (i ≤ n ∧ (0 < i → hfV (D (i - 1)) (S (i - 1)) d s < 0) ∧ (i < n → 0 ≤ hfV (D i) (S i) d s)) ∧ Below w.heap.size w w' := by
  have HH := hid h
  clear h
  have B1 : Hid (Below w.heap.size w (w.alloc (.cells #[.int .i64 d, .int .i64 m, .int .i64 s] 78))) := (Below.refl _ w).alloc (Nat.le_refl _) _
  have R1 : Hid (RowAt (w.alloc (.cells #[.int .i64 d, .int .i64 m, .int .i64 s] 78)) w.heap.size 78 #[.int .i64 d, .int .i64 m, .int .i64 s]) := RowAt.new w _ _
  obtain ⟨W1, hW1⟩ : ∃ W, W = w.alloc (.cells #[.int .i64 d, .int .i64 m, .int .i64 s] 78) := ⟨_, rfl⟩
  rw [← hW1] at B1 R1
  go_enter Try.func58, Try.ntmps58
  go_wp2_with fail
  rw [← hW1]
  clear hW1
  go_loopw [9, 10] (fun p q wr => ∃ I J : Nat, I ≤ J ∧ J ≤ n ∧ p = .int .i64 (I : Int) ∧ q = .int .i64 (J : Int) ∧ (0 < I → hfV (D (I - 1)) (S (I - 1)) d s < 0) ∧ (J < n → 0 ≤ hfV (D J) (S J) d s) ∧ Below W1.heap.size W1 wr) (fun p q _ => (intOf q).toNat - (intOf p).toNat)
  case atStart => exact ⟨0, n, Nat.zero_le _, Nat.le_refl _, rfl, rfl, fun h => absurd h (by omega), fun h => absurd h (by omega), Below.refl _ _⟩
  case round =>
    obtain ⟨I, J, hIJ, hJn, rfl, rfl, h1, h2, hB⟩ := hrel
    have H1 := hid h1
    have H2 := hid h2
    have HB := hid hB
    have HW : Hid (Below w.heap.size w wr) := B1.out.trans (hB.mono B1.out.size)
    have T := hid (R1.out.below hB R1.out.lt)
    have HA := hid (HH.out.below HW.out)
    clear h1 h2 hB
    by_cases hlt : I < J
    · obtain ⟨H, hH⟩ : ∃ H, H = (I + J) / 2 := ⟨_, rfl⟩
      have hHn : H < n := by omega
      have hI' : (I : Int) < (J : Int) := by omega
      rcases HA.out with h0 | ⟨g, rfl, hg, hc⟩
      · omega
      obtain ⟨c0, c1, c2⟩ := hc H hHn
      have t0 := T.out.cell 0
      have t1 := T.out.cell 1
      have t2 := T.out.cell 2
      have K := fun w => hid (iHigher (D H) (M H) (S H) d m s w)
      obtain ⟨V, hV⟩ : ∃ V, V = orI (cmpI s (S H)) (cmpI (D H) d) := ⟨_, rfl⟩
      have HV : Hid (hfV (D H) (S H) d s = V) := hV.symm
      rw [← hV] at K
      obtain ⟨x0, e0⟩ : ∃ x, x = D H := ⟨_, rfl⟩
      obtain ⟨x1, e1⟩ : ∃ x, x = M H := ⟨_, rfl⟩
      obtain ⟨x2, e2⟩ : ∃ x, x = S H := ⟨_, rfl⟩
      rw [← e0, ← e1, ← e2] at K
      rw [← e0] at c0
      rw [← e1] at c1
      rw [← e2] at c2
      clear e0 e1 e2 hc hV
      have q1 : (((I : Int) + (J : Int)) / 2) = (H : Int) := by omega
      have q2 : (0 : Int) ≤ (H : Int) := by omega
      have q3 : (H : Int) < (n : Int) := by omega
      clear hH
      go_wp2_with fail
      go_region_held3 (fun wx => wx.cell? ⟨g, H * 3, none⟩ = some (.int .i64 x0) ∧ wx.cell? ⟨g, H * 3 + 1, none⟩ = some (.int .i64 x1) ∧ wx.cell? ⟨g, H * 3 + 2, none⟩ = some (.int .i64 x2) ∧ wx.cell? ⟨w.heap.size, 0, none⟩ = some (.int .i64 d) ∧ wx.cell? ⟨w.heap.size, 1, none⟩ = some (.int .i64 m) ∧ wx.cell? ⟨w.heap.size, 2, none⟩ = some (.int .i64 s)) ((first | (go_keep; done) | exact k9)) ((go_at_call 53; refine (K _).out.mono ?_; rintro e w9 ⟨rfl, hb9⟩; have k9 := six_below (w := wr.drew) hg T.out.lt hb9 c0 c1 c2 t0 t1 t2))
      have HB9 : Hid (Below W1.heap.size W1 w9) := HB.out.drew.trans (hb9.mono HB.out.drew.size)
      clear hb9 k9
      by_cases hv : V < 0
      · have dv : decide (V < 0) = true := by simp; omega
        go_wp2
        go_roundw
        case rel => exact ⟨H + 1, J, by omega, hJn, by go_num, rfl, fun _ => by rw [show H + 1 - 1 = H by omega, HV.out]; exact hv, H2.out, HB9.out⟩
        case measure => simp [intOf]; omega
      · have dv : decide (V < 0) = false := by simp; omega
        go_wp2
        go_roundw
        case rel => exact ⟨I, H, by omega, by omega, rfl, rfl, H1.out, fun _ => by rw [HV.out]; omega, HB9.out⟩
        case measure => simp [intOf]; omega
    · obtain rfl : I = J := by omega
      have dI : ¬ (I : Int) < (I : Int) := by omega
      by_cases hlt2 : I < n
      · rcases HA.out with h0 | ⟨g, rfl, hg, hc⟩
        · omega
        obtain ⟨c0, c1, c2⟩ := hc I hlt2
        have t0 := T.out.cell 0
        have t1 := T.out.cell 1
        have t2 := T.out.cell 2
        have K := fun w => hid (iHigher (D I) (M I) (S I) d m s w)
        obtain ⟨V, hV⟩ : ∃ V, V = orI (cmpI s (S I)) (cmpI (D I) d) := ⟨_, rfl⟩
        rw [← hV] at K
        obtain ⟨x0, e0⟩ : ∃ x, x = D I := ⟨_, rfl⟩
        obtain ⟨x1, e1⟩ : ∃ x, x = M I := ⟨_, rfl⟩
        obtain ⟨x2, e2⟩ : ∃ x, x = S I := ⟨_, rfl⟩
        rw [← e0, ← e1, ← e2] at K
        rw [← e0] at c0
        rw [← e1] at c1
        rw [← e2] at c2
        clear e0 e1 e2 hc hV
        have q2 : (0 : Int) ≤ (I : Int) := by omega
        have q3 : (I : Int) < (n : Int) := by omega
        go_wp2_with fail
        go_region_held3 (fun wx => wx.cell? ⟨g, I * 3, none⟩ = some (.int .i64 x0) ∧ wx.cell? ⟨g, I * 3 + 1, none⟩ = some (.int .i64 x1) ∧ wx.cell? ⟨g, I * 3 + 2, none⟩ = some (.int .i64 x2) ∧ wx.cell? ⟨w.heap.size, 0, none⟩ = some (.int .i64 d) ∧ wx.cell? ⟨w.heap.size, 1, none⟩ = some (.int .i64 m) ∧ wx.cell? ⟨w.heap.size, 2, none⟩ = some (.int .i64 s)) ((first | (go_keep; done) | exact k9)) ((go_at_call 53; refine (K _).out.mono ?_; rintro e w9 ⟨rfl, hb9⟩; have k9 := six_below (w := wr.drew) hg T.out.lt hb9 c0 c1 c2 t0 t1 t2))
        have HB9 : Hid (Below w.heap.size w w9) := HW.out.drew.trans (hb9.mono HW.out.drew.size)
        clear hb9 k9
        go_wp2
        go_ret2
        exact ⟨I, _, rfl, ⟨hJn, H1.out, H2.out⟩, HB9.out⟩
      · obtain rfl : I = n := by omega
        go_wp2_with fail
        go_region
        go_wp2
        go_ret2
        exact ⟨I, _, rfl, ⟨hJn, H1.out, H2.out⟩, HW.out.drew⟩
end Go.Proofs.Ytjeahllaajpddaa
