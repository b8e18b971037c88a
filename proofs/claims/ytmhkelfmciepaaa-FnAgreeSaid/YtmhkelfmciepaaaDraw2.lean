import Derived.Test.YtmhkelfmciepaaaDraw
import Derived.OpenShut
namespace Go.Proofs.Ytmhkelfmciepaaa
open Go.RowKit
set_option maxRecDepth 20000 in
set_option maxHeartbeats 1000000 in
theorem long_all (W0 w : World) (c : Nat) (a : Option Addr) (len cap p : Nat) (h : Src W0 w c a len cap p) (hp : p ≤ 800000000) :
    Calls Try.prog 21 #[.pointer (some ⟨c, 0, none⟩)] w fun e w' => (∃ t : ByteArray, e = .returned (.string t) ∧ t.size ≤ 300) ∧ (∃ p', Src W0 w' c a len cap p' ∧ p' ≤ p + 1000) ∧ w.grownBy w' (some c) := by
  obtain ⟨z, hS, hz0, hz1⟩ := h.1
  have h2 := hS.cell 2 _ rfl
  clear hS
  have HH := hid h
  go_enter Try.func21, Try.ntmps21
  go_wp2_with fail
  refine (n_all W0 _ c a len cap p _ HH.out (by omega) (by omega) (by omega)).mono ?_
  rintro e w1 ⟨⟨r, rfl, hr0, hr1⟩, hs1, hg1⟩
  obtain ⟨n, rfl⟩ := Int.eq_ofNat_of_zero_le hr0
  go_wp2_with fail
  refine (one_all W0 _ c a len cap (p + 1) 8 hs1 (by omega) (by omega) (by omega)).mono ?_
  rintro e w2 ⟨⟨b, rfl⟩, hs2, hg2⟩
  have HG2 := hid (grown_trans hg1 hg2)
  clear hg1 hg2 hs1
  cases b with
  | true =>
    go_wp2_with fail
    refine (n_all W0 _ c a len cap (p + 2) 30 hs2 (by omega) (by omega) (by omega)).mono ?_
    rintro e w3 ⟨⟨r, rfl, hr2, hr3⟩, hs3, hg3⟩
    obtain ⟨m, rfl⟩ := Int.eq_ofNat_of_zero_le hr2
    go_wp2_with fail
    have := bytes_all W0 w3 c a len cap (p + 3) (55 + m) hs3 (by omega) (by omega)
    rw [show ((55 + m : Nat) : Int) = 55 + (m : Int) by omega] at this
    refine this.mono ?_
    rintro e w4 ⟨⟨t, rfl, ht⟩, ⟨p', hs4, hp4⟩, hg4⟩
    go_wp2
    go_ret
    exact ⟨⟨t, rfl, by omega⟩, ⟨p', hs4, by omega⟩, grown_trans (grown_trans HG2.out hg3) hg4⟩
  | false =>
    go_wp2_with fail
    refine (bytes_all W0 w2 c a len cap (p + 2) n hs2 (by omega) (by omega)).mono ?_
    rintro e w4 ⟨⟨t, rfl, ht⟩, ⟨p', hs4, hp4⟩, hg4⟩
    go_wp2
    go_ret
    exact ⟨⟨t, rfl, by omega⟩, ⟨p', hs4, by omega⟩, grown_trans HG2.out hg4⟩

set_option maxRecDepth 20000 in
set_option maxHeartbeats 1000000 in
theorem source_all (w : World) (a : Option Addr) (len cap : Nat) (hc : CodeOk w a len) (hlc : len ≤ cap) :
    Calls Try.prog 12 #[.slice a len cap] w fun e w' => e = .returned (.pointer (some ⟨w.heap.size, 0, none⟩)) ∧ Src w w' w.heap.size a len cap 0 ∧ Below w.heap.size w w' := by
  have hl := hc.1
  by_cases h12 : 12 < len / 16
  · have d0 : decide ((12 : Int) < (len : Int) / 16) = true := by simp; omega
    go_enter Try.func12, Try.ntmps12
    go_wp2
    go_ret
    exact ⟨rfl, ⟨⟨12, Blk.made w _ _, by omega, by omega⟩, hc, hlc, (Below.refl _ _).alloc (Nat.le_refl _) _, Nat.le_refl _⟩, (Below.refl _ _).alloc (Nat.le_refl _) _⟩
  · have d0 : decide ((12 : Int) < (len : Int) / 16) = false := by simp; omega
    go_enter Try.func12, Try.ntmps12
    go_wp2
    go_ret
    exact ⟨rfl, ⟨⟨(len : Int) / 16, Blk.made w _ _, by omega, by omega⟩, hc, hlc, (Below.refl _ _).alloc (Nat.le_refl _) _, Nat.le_refl _⟩, (Below.refl _ _).alloc (Nat.le_refl _) _⟩
theorem below_src {w w1 w2 : World} (hb : Below w.heap.size w w1) (hg : w1.grownBy w2 (some w.heap.size)) : Below w.heap.size w w2 := hb.grown hg hb.size (by intro k hk; cases hk; exact Nat.le_refl _)

set_option maxHeartbeats 1000000 in
theorem drawPutText_all (w : World) (a : Option Addr) (len cap : Nat) (hc : CodeOk w a len) (hlc : len ≤ cap) :
    Calls Try.prog 11 #[.slice a len cap] w fun e w' => (∃ t : ByteArray, e = .returned (.string t) ∧ t.size ≤ 300) ∧ Below w.heap.size w w' := by
  go_enter Try.func11, Try.ntmps11
  go_wp2_with fail
  refine (source_all w a len cap hc hlc).mono ?_
  rintro e w1 ⟨rfl, hs, hb⟩
  go_wp2_with fail
  refine (long_all w _ w.heap.size a len cap 0 hs (by omega)).mono ?_
  rintro e w2 ⟨⟨t, rfl, ht⟩, _, hg⟩
  go_wp2
  go_ret
  exact ⟨⟨t, rfl, ht⟩, below_src hb hg⟩

end Go.Proofs.Ytmhkelfmciepaaa
