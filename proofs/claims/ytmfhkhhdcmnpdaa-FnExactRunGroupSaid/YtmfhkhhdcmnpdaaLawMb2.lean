import Derived.Test.YtmfhkhhdcmnpdaaLawMb
namespace Go.Proofs.Ytmfhkhhdcmnpdaa
open Go.RowKit
set_option linter.unusedVariables false
/-! Members and runs held against each other (by genlawmb2.py). -/
def Mbs (w : World) (a : Option Addr) (n N cap : Nat) (s : Gst) (la : Nat → Option Addr) (lc mb : Nat → Nat) : Prop :=
  n ≤ cap ∧ (n = 0 ∨ ∃ b, a = some ⟨b, 0, none⟩ ∧ b < w.heap.size ∧ ∀ k, k < n → (∀ r, r < 6 → w.cell? ⟨b, k * 6 + r, none⟩ = some (mbF la lc mb N s (k * 6 + r))) ∧ Ges w (la k) (s k).lg.length (lc k) (geAt (s k).lg) ∧ Ints .i64 w (some ⟨mb k, 0, none⟩) N N (s k).mt)
theorem Mbs.below {w w' : World} {a : Option Addr} {n N cap : Nat} {s : Gst} {la : Nat → Option Addr} {lc mb : Nat → Nat} (h : Mbs w a n N cap s la lc mb) (hb : Below w.heap.size w w') : Mbs w' a n N cap s la lc mb := by
  refine ⟨h.1, ?_⟩
  rcases h.2 with h0 | ⟨b, rfl, h1, h2⟩
  · exact .inl h0
  · refine .inr ⟨b, rfl, Nat.lt_of_lt_of_le h1 hb.size, fun k hk => ?_⟩
    obtain ⟨q1, q2, q3⟩ := h2 k hk
    exact ⟨fun r hr => (hb.cell (p := ⟨b, _, none⟩) h1).trans (q1 r hr), q2.below hb, q3.below hb⟩
theorem SpL.mbs {w : World} {B b N : Nat} {s : Gst} {la : Nat → Option Addr} {lc mb : Nat → Nat} (h : SpL w B b N s la lc mb) : Mbs w (some ⟨b, 0, none⟩) N N N s la lc mb := by
  refine ⟨Nat.le_refl _, .inr ⟨b, rfl, h.row.lt, fun k hk => ⟨fun r hr => h.row.cell (by omega), (h.log k hk).ges, ?_⟩⟩⟩
  have z := h.mat k hk
  have q := (Wr.of z.1).ints (cap := N) (by rw [z.2.2]; exact Nat.le_refl _)
  rw [z.2.2] at q
  exact q
theorem MmL.mbs {w : World} {B g c N : Nat} {s : Gst} {la : Nat → Option Addr} {lc mb : Nat → Nat} (h : MmL w B g c N s la lc mb) : Mbs w (some ⟨g, 0, none⟩) N N c s la lc mb := by
  obtain ⟨f, hf, he⟩ := h.row
  have hcap := h.cap
  refine ⟨h.cap, .inr ⟨g, rfl, hf.lt, fun k hk => ⟨fun r hr => ?_, ?_, ?_⟩⟩⟩
  · rw [hf.cell (by omega), he _ (by omega)]
  · obtain ⟨a, c2, e, hl⟩ := OwnGe.logR (h.log k hk)
    cases e
    exact hl.ges
  · have z := h.mat k hk
    have q := (Wr.of z.1).ints (cap := N) (by rw [z.2.2]; exact Nat.le_refl _)
    rw [z.2.2] at q
    exact q
set_option maxRecDepth 20000 in
set_option maxHeartbeats 4000000 in
theorem eqMb1 (tm vt : Int) (ld : Bool) (cm : Nat) (L : List Ge) (M : List Int) (N : Nat) (hN : N ≤ 9) (la la' : Option Addr) (lc lc' : Nat) (ma ma' : Option Addr) (hL : L.length ≤ 1048576) (w : World) (h1 : Ges w la L.length lc (geAt L)) (h2 : Ges w la' L.length lc' (geAt L)) (h3 : Ints .i64 w ma N N M) (h4 : Ints .i64 w ma' N N M) :
    Calls Try.prog 66 #[.agg #[.int .i64 tm, .int .i64 vt, .bool ld, .int .i64 (cm : Int), .slice la L.length lc, .slice ma N N], .agg #[.int .i64 tm, .int .i64 vt, .bool ld, .int .i64 (cm : Int), .slice la' L.length lc', .slice ma' N N]] w fun e w' => e = .returned (.bool true) ∧ Below w.heap.size w w' := by
  obtain ⟨X, hX⟩ : ∃ X, X = w.heap.size := ⟨_, rfl⟩
  obtain ⟨W1, hW1⟩ : ∃ W, W = (w.alloc (.cells #[.int .i64 tm, .int .i64 vt, .bool ld, .int .i64 (cm : Int), .slice la L.length lc, .slice ma N N] 36)).alloc (.cells #[.int .i64 tm, .int .i64 vt, .bool ld, .int .i64 (cm : Int), .slice la' L.length lc', .slice ma' N N] 36) := ⟨_, rfl⟩
  have P1 : Hid (RowAt W1 X 36 #[.int .i64 tm, .int .i64 vt, .bool ld, .int .i64 (cm : Int), .slice la L.length lc, .slice ma N N]) := by rw [hW1, hX]; exact (RowAt.new _ _ _).alloc _
  have R1 : Hid (RowAt W1 (X + 1) 36 #[.int .i64 tm, .int .i64 vt, .bool ld, .int .i64 (cm : Int), .slice la' L.length lc', .slice ma' N N]) := by rw [hW1, hX]; exact RowAt.next _ _ _ (by simp only [size_al])
  have B1 : Hid (Below w.heap.size w W1) := by rw [hW1]; exact balGe (balGe (Below.refl _ _) _) _
  have K1 := hid (eqGes la L.length lc la' lc' (geAt L) hL W1 (h1.below B1.out) (h2.below B1.out))
  have H3 := hid h3
  have H4 := hid h4
  have d0 : (tm != tm) = false := by simp
  have d1 : (vt != vt) = false := by simp
  have d2 : (ld != ld) = false := by simp
  have d3 : ((cm : Int) != (cm : Int)) = false := by simp
  have a0 := P1.out.cell 0
  have a1 := P1.out.cell 1
  have a2 := P1.out.cell 2
  have a3 := P1.out.cell 3
  have a4 := P1.out.cell 4
  have r0 := R1.out.cell 0
  have r1 := R1.out.cell 1
  have r2 := R1.out.cell 2
  have r3 := R1.out.cell 3
  have r4 := R1.out.cell 4
  have HX := hid hX
  have HW1 := hid hW1
  clear hX hW1 h1 h2 h3 h4
  go_enter Try.func66, Try.ntmps66
  go_upto_region 1 with fail
  rw [← HW1.out, ← HX.out]
  clear HW1
  go_wp2_with fail
  refine K1.out.mono ?_
  rintro e w2 ⟨rfl, hb2⟩
  have a5 := (P1.out.below hb2 P1.out.lt).cell 5
  have r5 := (R1.out.below hb2 R1.out.lt).cell 5
  have B2 := hid (B1.out.trans (hb2.mono B1.out.size))
  have K2 := hid (eq64 ma N N M ma' N N M w2 (H3.out.below B2.out) (H4.out.below B2.out) (by omega) (by omega) rfl)
  clear hb2 K1 a0 a1 a2 a3 a4 r0 r1 r2 r3 r4 P1 R1 B1
  go_wp2_with fail
  refine K2.out.mono ?_
  rintro e w3 ⟨rfl, hb3⟩
  have B3 := hid (B2.out.trans (hb3.mono B2.out.size))
  clear hb3 K2
  go_wp2
  go_ret
  exact ⟨rfl, B3.out⟩
set_option maxRecDepth 20000 in
set_option maxHeartbeats 4000000 in
theorem eqMbs (a a' : Option Addr) (n N cap cap' : Nat) (hN : N ≤ 9) (hn : n ≤ N) (s : Gst) (la la' : Nat → Option Addr) (lc lc' mb mb' : Nat → Nat) (hs : ∀ k, k < n → (s k).lg.length ≤ 1048576) (w : World) (h : Mbs w a n N cap s la lc mb) (h' : Mbs w a' n N cap' s la' lc' mb') :
    Calls Try.prog 39 #[.slice a n cap, .slice a' n cap'] w fun e w' => e = .returned (.bool true) ∧ Below w.heap.size w w' := by
  have HH := hid h
  have HH' := hid h'
  have HS := hid hs
  have dn : ((n : Int) != (n : Int)) = false := by simp
  clear h h' hs
  go_enter Try.func39, Try.ntmps39
  go_wp2_with fail
  go_loopw [5] (fun y wr => ∃ (i : Nat), i ≤ n ∧ y = .int .i64 (i : Int) ∧ Below w.heap.size w wr) (fun y _ => n - (intOf y).toNat)
  case atStart => exact ⟨0, Nat.zero_le _, rfl, Below.refl _ _⟩
  case round =>
    obtain ⟨i, hi, rfl, hB⟩ := hrel
    have BB := hid hB
    clear hB
    by_cases hlt : i < n
    · have hlt' : (i : Int) < (n : Int) := by omega
      have i0 : (0 : Int) ≤ (i : Int) := by omega
      rcases (HH.out.below BB.out).2 with h00 | ⟨b, hA, hbl, hc⟩
      · omega
      subst hA
      rcases (HH'.out.below BB.out).2 with h00 | ⟨b', hA', hbl', hc'⟩
      · omega
      subst hA'
      obtain ⟨q1, q2, q3⟩ := hc i hlt
      obtain ⟨z1, z2, z3⟩ := hc' i hlt
      have c0 : wr.cell? ⟨b, i * 6, none⟩ = some (.int .i64 (s i).tm) := (q1 0 (by omega)).trans (by rw [Nat.add_zero, mbF0])
      have c1 : wr.cell? ⟨b, i * 6 + 1, none⟩ = some (.int .i64 (s i).vt) := (q1 1 (by omega)).trans (by rw [mbF1])
      have c2 : wr.cell? ⟨b, i * 6 + 2, none⟩ = some (.bool (s i).ld) := (q1 2 (by omega)).trans (by rw [mbF2])
      have c3 : wr.cell? ⟨b, i * 6 + 3, none⟩ = some (.int .i64 ((s i).cm : Int)) := (q1 3 (by omega)).trans (by rw [mbF3])
      have c4 : wr.cell? ⟨b, i * 6 + 4, none⟩ = some (.slice (la i) (s i).lg.length (lc i)) := (q1 4 (by omega)).trans (by rw [mbF4])
      have c5 : wr.cell? ⟨b, i * 6 + 5, none⟩ = some (.slice (some ⟨mb i, 0, none⟩) N N) := (q1 5 (by omega)).trans (by rw [mbF5])
      have e0 : wr.cell? ⟨b', i * 6, none⟩ = some (.int .i64 (s i).tm) := (z1 0 (by omega)).trans (by rw [Nat.add_zero, mbF0])
      have e1 : wr.cell? ⟨b', i * 6 + 1, none⟩ = some (.int .i64 (s i).vt) := (z1 1 (by omega)).trans (by rw [mbF1])
      have e2 : wr.cell? ⟨b', i * 6 + 2, none⟩ = some (.bool (s i).ld) := (z1 2 (by omega)).trans (by rw [mbF2])
      have e3 : wr.cell? ⟨b', i * 6 + 3, none⟩ = some (.int .i64 ((s i).cm : Int)) := (z1 3 (by omega)).trans (by rw [mbF3])
      have e4 : wr.cell? ⟨b', i * 6 + 4, none⟩ = some (.slice (la' i) (s i).lg.length (lc' i)) := (z1 4 (by omega)).trans (by rw [mbF4])
      have e5 : wr.cell? ⟨b', i * 6 + 5, none⟩ = some (.slice (some ⟨mb' i, 0, none⟩) N N) := (z1 5 (by omega)).trans (by rw [mbF5])
      have hL := HS.out i hlt
      obtain ⟨S, hS⟩ : ∃ x, x = s i := ⟨_, rfl⟩
      rw [← hS] at c0 c1 c2 c3 c4 e0 e1 e2 e3 e4 hL q2 q3 z2 z3
      obtain ⟨tm, vt, ld, cm, L, M⟩ := S
      dsimp only at c0 c1 c2 c3 c4 e0 e1 e2 e3 e4 hL q2 q3 z2 z3
      obtain ⟨LA, hLA⟩ : ∃ x, x = la i := ⟨_, rfl⟩
      obtain ⟨LC, hLC⟩ : ∃ x, x = lc i := ⟨_, rfl⟩
      obtain ⟨MA, hMA⟩ : ∃ x, x = mb i := ⟨_, rfl⟩
      obtain ⟨LA', hLA'⟩ : ∃ x, x = la' i := ⟨_, rfl⟩
      obtain ⟨LC', hLC'⟩ : ∃ x, x = lc' i := ⟨_, rfl⟩
      obtain ⟨MA', hMA'⟩ : ∃ x, x = mb' i := ⟨_, rfl⟩
      rw [← hLA, ← hLC] at c4 q2
      rw [← hLA', ← hLC'] at e4 z2
      rw [← hMA] at c5 q3
      rw [← hMA'] at e5 z3
      have Q2 := hid q2
      have Q3 := hid q3
      have Z2' := hid z2
      have Z3' := hid z3
      clear q1 q2 q3 z1 z2 z3 hc hc' hS hLA hLC hMA hLA' hLC' hMA'
      have K : Hid (∀ wx, Below wr.heap.size wr wx → Calls Try.prog 66 #[.agg #[.int .i64 tm, .int .i64 vt, .bool ld, .int .i64 (cm : Int), .slice LA L.length LC, .slice (some ⟨MA, 0, none⟩) N N], .agg #[.int .i64 tm, .int .i64 vt, .bool ld, .int .i64 (cm : Int), .slice LA' L.length LC', .slice (some ⟨MA', 0, none⟩) N N]] wx fun e w' => e = .returned (.bool true) ∧ Below wx.heap.size wx w') := fun wx hx => eqMb1 tm vt ld cm L M N hN LA LA' LC LC' (some ⟨MA, 0, none⟩) (some ⟨MA', 0, none⟩) hL wx (Q2.out.below hx) (Z2'.out.below hx) (Q3.out.below hx) (Z3'.out.below hx)
      go_wp2_with fail
      go_region_law (go_simp; go_at_call 66; refine (K.out _ (by first | exact (Below.refl _ _).drew | exact Below.refl _ _)).mono ?_; rintro e w2 ⟨rfl, hb2⟩; have N2 : Hid (Below w.heap.size w w2) := (by first | exact BB.out.drew.trans (hb2.mono BB.out.size) | exact BB.out.trans (hb2.mono BB.out.size)); clear hb2; dsimp only)
      all_goals go_wp2
      all_goals go_roundw
      all_goals first | exact ⟨i + 1, by omega, by go_num, N2.out⟩ | (simp [intOf]; omega)
    · have hlt' : ¬ (i : Int) < (n : Int) := by omega
      go_wp2
      go_ret
      exact ⟨rfl, BB.out⟩
set_option maxRecDepth 20000 in
set_option maxHeartbeats 4000000 in
theorem eqRunG (a a' : Option Addr) (n c c' : Nat) (o : Nat → Gou) (hn : n ≤ 1048576) (b b' : Option Addr) (m N cap cap' : Nat) (hN : N ≤ 9) (hm : m ≤ N) (s : Gst) (la la' : Nat → Option Addr) (lc lc' mb mb' : Nat → Nat) (hs : ∀ k, k < m → (s k).lg.length ≤ 1048576) (w : World) (h1 : Gous w a n c o) (h2 : Gous w a' n c' o) (h : Mbs w b m N cap s la lc mb) (h' : Mbs w b' m N cap' s la' lc' mb') :
    Calls Try.prog 16 #[.agg #[.slice a n c, .slice b m cap], .agg #[.slice a' n c', .slice b' m cap']] w fun e w' => e = .returned (.bool true) ∧ Below w.heap.size w w' := by
  obtain ⟨X, hX⟩ : ∃ X, X = w.heap.size := ⟨_, rfl⟩
  obtain ⟨W1, hW1⟩ : ∃ W, W = (w.alloc (.cells #[.slice a n c, .slice b m cap] 31)).alloc (.cells #[.slice a' n c', .slice b' m cap'] 31) := ⟨_, rfl⟩
  have P1 : Hid (RowAt W1 X 31 #[.slice a n c, .slice b m cap]) := by rw [hW1, hX]; exact (RowAt.new _ _ _).alloc _
  have R1 : Hid (RowAt W1 (X + 1) 31 #[.slice a' n c', .slice b' m cap']) := by rw [hW1, hX]; exact RowAt.next _ _ _ (by simp only [size_al])
  have B1 : Hid (Below w.heap.size w W1) := by rw [hW1]; exact balGe (balGe (Below.refl _ _) _) _
  have K1 := hid (eqGous a n c a' c' o hn W1 (h1.below B1.out) (h2.below B1.out))
  have H := hid h
  have H' := hid h'
  have a0 := P1.out.cell 0
  have r0 := R1.out.cell 0
  have HX := hid hX
  have HW1 := hid hW1
  clear hX hW1 h1 h2 h h'
  go_enter Try.func16, Try.ntmps16
  go_upto_region 1 with fail
  rw [← HW1.out, ← HX.out]
  clear HW1
  go_wp2_with fail
  refine K1.out.mono ?_
  rintro e w2 ⟨rfl, hb2⟩
  have a1 := (P1.out.below hb2 P1.out.lt).cell 1
  have r1 := (R1.out.below hb2 R1.out.lt).cell 1
  have B2 := hid (B1.out.trans (hb2.mono B1.out.size))
  have K2 := hid (eqMbs b b' m N cap cap' hN hm s la la' lc lc' mb mb' hs w2 (H.out.below B2.out) (H'.out.below B2.out))
  clear hb2 K1 a0 r0 P1 R1 B1
  go_wp2_with fail
  refine K2.out.mono ?_
  rintro e w3 ⟨rfl, hb3⟩
  have B3 := hid (B2.out.trans (hb3.mono B2.out.size))
  clear hb3 K2
  go_wp2
  go_ret
  exact ⟨rfl, B3.out⟩
end Go.Proofs.Ytmfhkhhdcmnpdaa
