import Derived.Test.YteimhnklebppkaaDraw
import Derived.OpenShut
namespace Go.Proofs.Yteimhnklebppkaa
open Go.RowKit
theorem CodeOk.below {w w1 : World} {a : Option Addr} {len : Nat} (h : CodeOk w a len) (hb : Below w.heap.size w w1) : CodeOk w1 a len := by
  refine ⟨h.1, ?_⟩
  rcases h.2 with h0 | ⟨b, off, rfl, hbl, hc⟩
  · exact Or.inl h0
  · refine Or.inr ⟨b, off, rfl, Nat.lt_of_lt_of_le hbl hb.size, fun i hi => ?_⟩
    obtain ⟨z, hz, hcell⟩ := hc i hi
    exact ⟨z, hz, (hb.cell (p := ⟨b, off + i, none⟩) hbl).trans hcell⟩
theorem below_trans' {w w1 w2 : World} (h1 : Below w.heap.size w w1) (h2 : Below w1.heap.size w1 w2) : Below w.heap.size w w2 := h1.trans (h2.mono h1.size)

theorem codeOk_of (w : World) (a : Option Addr) (len cap : Nat) (zs : List Int) (h : IsRow .u8 w a len cap zs) (hl : len ≤ 1048576) : CodeOk w a len := by
  refine ⟨hl, ?_⟩
  by_cases h0 : len = 0
  · exact Or.inl h0
  · rcases h with ⟨_, h1, _⟩ | ⟨x, rfl, h1, h2, h3, hcell, hwf⟩
    · exact absurd h1 h0
    · right
      obtain ⟨b, off, spot⟩ := x
      have hc := hcell 0 (by omega)
      have hspot : spot = none := by simpa [Addr.add] using World.cell?_spot hc
      subst hspot
      have hadd : ∀ i, (⟨b, off, none⟩ : Addr).add i = ⟨b, off + i, none⟩ := by intro i; unfold Addr.add; split <;> simp_all
      refine ⟨b, off, rfl, ?_, ?_⟩
      · have := World.block_lt_of_cell? w _ hc; rw [hadd] at this; exact this
      · intro i hi
        have hci := hcell i (by omega)
        rw [hadd] at hci
        have hm : zs.getD i 0 ∈ zs := by rw [List.getD_eq_getElem?_getD, List.getElem?_eq_getElem (by omega)]; simp
        have hb := bounds_u8 (hwf _ hm)
        obtain ⟨z, hz⟩ := Int.eq_ofNat_of_zero_le hb.1
        rw [hz] at hci hb
        exact ⟨z, by omega, hci⟩

set_option maxRecDepth 20000 in
set_option maxHeartbeats 1000000 in
theorem long_all (W0 w : World) (c : Nat) (a : Option Addr) (len cap p : Nat) (h : Src W0 w c a len cap p) (hp : p ≤ 800000000) :
    Calls Try.prog 20 #[.pointer (some ⟨c, 0, none⟩)] w fun e w' => (∃ t : ByteArray, e = .returned (.string t) ∧ t.size ≤ 300) ∧ (∃ p', Src W0 w' c a len cap p' ∧ p' ≤ p + 1000) ∧ w.grownBy w' (some c) := by
  obtain ⟨z, hS, hz0, hz1⟩ := h.1
  have h2 := hS.cell 2 _ rfl
  clear hS
  have HH := hid h
  go_enter Try.func20, Try.ntmps20
  go_wp2_with fail
  refine (n_all W0 _ c a len cap p _ HH.out (by omega) (by omega) (by omega)).mono ?_
  rintro e w1 ⟨⟨r, rfl, hr0, hr1⟩, hs1, hg1⟩
  obtain ⟨n, rfl⟩ := Int.eq_ofNat_of_zero_le hr0
  go_wp2_with fail
  refine (one_all W0 _ c a len cap (p + 1) 8 hs1 (by omega) (by omega) (by omega)).mono ?_
  rintro e w2 ⟨⟨b, rfl⟩, hs2, hg2⟩
  have HG2 := hid (grown_trans hg1 hg2)
  clear hg1 hg2 hs1
  cases b with
  | true =>
    go_wp2_with fail
    refine (n_all W0 _ c a len cap (p + 2) 30 hs2 (by omega) (by omega) (by omega)).mono ?_
    rintro e w3 ⟨⟨r, rfl, hr2, hr3⟩, hs3, hg3⟩
    obtain ⟨m, rfl⟩ := Int.eq_ofNat_of_zero_le hr2
    go_wp2_with fail
    have := bytes_all W0 w3 c a len cap (p + 3) (55 + m) hs3 (by omega) (by omega)
    rw [show ((55 + m : Nat) : Int) = 55 + (m : Int) by omega] at this
    refine this.mono ?_
    rintro e w4 ⟨⟨t, rfl, ht⟩, ⟨p', hs4, hp4⟩, hg4⟩
    go_wp2
    go_ret
    exact ⟨⟨t, rfl, by omega⟩, ⟨p', hs4, by omega⟩, grown_trans (grown_trans HG2.out hg3) hg4⟩
  | false =>
    go_wp2_with fail
    refine (bytes_all W0 w2 c a len cap (p + 2) n hs2 (by omega) (by omega)).mono ?_
    rintro e w4 ⟨⟨t, rfl, ht⟩, ⟨p', hs4, hp4⟩, hg4⟩
    go_wp2
    go_ret
    exact ⟨⟨t, rfl, by omega⟩, ⟨p', hs4, by omega⟩, grown_trans HG2.out hg4⟩

set_option maxRecDepth 20000 in
set_option maxHeartbeats 1000000 in
theorem source_all (w : World) (a : Option Addr) (len cap : Nat) (hc : CodeOk w a len) (hlc : len ≤ cap) :
    Calls Try.prog 18 #[.slice a len cap] w fun e w' => e = .returned (.pointer (some ⟨w.heap.size, 0, none⟩)) ∧ Src w w' w.heap.size a len cap 0 ∧ Below w.heap.size w w' := by
  have hl := hc.1
  by_cases h12 : 12 < len / 16
  · have d0 : decide ((12 : Int) < (len : Int) / 16) = true := by simp; omega
    go_enter Try.func18, Try.ntmps18
    go_wp2
    go_ret
    exact ⟨rfl, ⟨⟨12, Blk.made w _ _, by omega, by omega⟩, hc, hlc, (Below.refl _ _).alloc (Nat.le_refl _) _, Nat.le_refl _⟩, (Below.refl _ _).alloc (Nat.le_refl _) _⟩
  · have d0 : decide ((12 : Int) < (len : Int) / 16) = false := by simp; omega
    go_enter Try.func18, Try.ntmps18
    go_wp2
    go_ret
    exact ⟨rfl, ⟨⟨(len : Int) / 16, Blk.made w _ _, by omega, by omega⟩, hc, hlc, (Below.refl _ _).alloc (Nat.le_refl _) _, Nat.le_refl _⟩, (Below.refl _ _).alloc (Nat.le_refl _) _⟩
theorem below_src {w w1 w2 : World} (hb : Below w.heap.size w w1) (hg : w1.grownBy w2 (some w.heap.size)) : Below w.heap.size w w2 := hb.grown hg hb.size (by intro k hk; cases hk; exact Nat.le_refl _)

set_option maxHeartbeats 1000000 in
theorem drawPutText_all (w : World) (a : Option Addr) (len cap : Nat) (hc : CodeOk w a len) (hlc : len ≤ cap) :
    Calls Try.prog 6 #[.slice a len cap] w fun e w' => (∃ t : ByteArray, e = .returned (.string t) ∧ t.size ≤ 300) ∧ Below w.heap.size w w' := by
  go_enter Try.func6, Try.ntmps6
  go_wp2_with fail
  refine (source_all w a len cap hc hlc).mono ?_
  rintro e w1 ⟨rfl, hs, hb⟩
  go_wp2_with fail
  refine (long_all w _ w.heap.size a len cap 0 hs (by omega)).mono ?_
  rintro e w2 ⟨⟨t, rfl, ht⟩, _, hg⟩
  go_wp2
  go_ret
  exact ⟨⟨t, rfl, ht⟩, below_src hb hg⟩

set_option maxRecDepth 20000 in
set_option maxHeartbeats 2000000 in
theorem drawPutNum_all (w : World) (a : Option Addr) (len cap : Nat) (hc : CodeOk w a len) (hlc : len ≤ cap) :
    Calls Try.prog 5 #[.slice a len cap] w fun e w' => (∃ n : Int, e = .returned (.int .i64 n) ∧ -1 ≤ n ∧ n ≤ 9223372036854775807) ∧ Below w.heap.size w w' := by
  go_enter Try.func5, Try.ntmps5
  go_wp2_with fail
  refine (source_all w a len cap hc hlc).mono ?_
  rintro e w1 ⟨rfl, hs, hb⟩
  go_wp2_with fail
  refine (n_all w _ w.heap.size a len cap 0 200 hs (by omega) (by omega) (by omega)).mono ?_
  rintro e w2 ⟨⟨r1, rfl, hr1, hr1'⟩, hs2, hg2⟩
  have hb2 := below_src hb hg2
  clear hs hg2 hb
  go_wp2_with fail
  refine (n_all w _ w.heap.size a len cap 1 40000 hs2 (by omega) (by omega) (by omega)).mono ?_
  rintro e w3 ⟨⟨r2, rfl, hr2, hr2'⟩, hs3, hg3⟩
  have hb3 := below_src hb2 hg3
  clear hs2 hg3 hb2
  go_wp2_with fail
  refine (n_all w _ w.heap.size a len cap 2 1099511627776 hs3 (by omega) (by omega) (by omega)).mono ?_
  rintro e w4 ⟨⟨r3, rfl, hr3, hr3'⟩, hs4, hg4⟩
  have hb4 := below_src hb3 hg4
  have hsz : w.heap.size < w4.heap.size := hs4.lt
  clear hs3 hg4 hb3
  go_wp2_with fail
  have hB := Blk.made w4 #[.int .i64 r1, .int .i64 r2, .int .i64 (-1), .int .i64 127, .int .i64 128, .int .i64 16383, .int .i64 16384, .int .i64 4611686018427387904, .int .i64 9223372036854775807, .int .i64 r3] 2
  have hs5 := hs4.far (World.grownBy_alloc w4 (.cells #[.int .i64 r1, .int .i64 r2, .int .i64 (-1), .int .i64 127, .int .i64 128, .int .i64 16383, .int .i64 16384, .int .i64 4611686018427387904, .int .i64 9223372036854775807, .int .i64 r3] 2) none) (by simp) (by intro g hg; cases hg)
  refine (n_all w _ w.heap.size a len cap 3 10 hs5 (by omega) (by omega) (by omega)).mono ?_
  rintro e w5 ⟨⟨r4, rfl, hr4, hr4'⟩, hs6, hg6⟩
  have hB6 := hB.far hg6 (by simp) (by simp; omega)
  have hb6 := below_src (hb4.alloc hb4.size _) hg6
  obtain ⟨k, rfl⟩ := Int.eq_ofNat_of_zero_le hr4
  obtain ⟨x, hx, hx0, hx1⟩ : ∃ x : Int, w5.cell? ⟨w4.heap.size, k, none⟩ = some (.int .i64 x) ∧ -1 ≤ x ∧ x ≤ 9223372036854775807 := by
    rcases (by omega : k = 0 ∨ k = 1 ∨ k = 2 ∨ k = 3 ∨ k = 4 ∨ k = 5 ∨ k = 6 ∨ k = 7 ∨ k = 8 ∨ k = 9) with rfl | rfl | rfl | rfl | rfl | rfl | rfl | rfl | rfl | rfl
    · exact ⟨_, hB6.cell 0 _ rfl, by omega, by omega⟩
    · exact ⟨_, hB6.cell 1 _ rfl, by omega, by omega⟩
    · exact ⟨_, hB6.cell 2 _ rfl, by omega, by omega⟩
    · exact ⟨_, hB6.cell 3 _ rfl, by omega, by omega⟩
    · exact ⟨_, hB6.cell 4 _ rfl, by omega, by omega⟩
    · exact ⟨_, hB6.cell 5 _ rfl, by omega, by omega⟩
    · exact ⟨_, hB6.cell 6 _ rfl, by omega, by omega⟩
    · exact ⟨_, hB6.cell 7 _ rfl, by omega, by omega⟩
    · exact ⟨_, hB6.cell 8 _ rfl, by omega, by omega⟩
    · exact ⟨_, hB6.cell 9 _ rfl, by omega, by omega⟩
  clear hB hB6 hs4 hs5 hg6 hb4
  go_wp2
  go_ret
  exact ⟨⟨x, rfl, hx0, hx1⟩, hb6⟩
end Go.Proofs.Yteimhnklebppkaa
