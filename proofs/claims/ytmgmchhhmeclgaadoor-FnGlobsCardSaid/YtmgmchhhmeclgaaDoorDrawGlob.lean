import Derived.Test.YtmgmchhhmeclgaaDoorDrawSpo
import Derived.Test.YtmgmchhhmeclgaaDoorIGlob
import Derived.Test.YtmgmchhhmeclgaaDoorDraw2
namespace Go.Proofs.YtmgmchhhmeclgaaDoor
open Go.RowKit
/-! The draw of a pattern and a text. -/
/-- how far the draw has come: i bytes of N, at_ numbers drawn, the last m rounds (from a0 on) did not go on -/
structure Gd (cd : Nat → Nat) (len base N i at_ : Nat) : Prop where
  ex : ∃ a0 m, at_ = a0 + 2 * m ∧ (∀ j, j < m → Stk cd len (a0 + 2 * j)) ∧ a0 ≤ base + (2 * len + 6) * i
  i_le : i ≤ N + 3
theorem Gd.start (cd : Nat → Nat) (len base N : Nat) : Gd cd len base N 0 base := ⟨⟨base, 0, by omega, fun j hj => absurd hj (Nat.not_lt_zero _), by omega⟩, by omega⟩
theorem Gd.le {cd : Nat → Nat} {len base N i at_ : Nat} (h : Gd cd len base N i at_) : at_ ≤ base + (2 * len + 6) * i + 2 * (len + 1) := by
  obtain ⟨⟨a0, m, h1, h2, h3⟩, _⟩ := h
  have := stk_bound cd len a0 m h2
  omega
theorem Gd.stay {cd : Nat → Nat} {len base N i at_ : Nat} (h : Gd cd len base N i at_) (hs : Stk cd len at_) : Gd cd len base N i (at_ + 2) := by
  obtain ⟨⟨a0, m, h1, h2, h3⟩, h4⟩ := h
  refine ⟨⟨a0, m + 1, by omega, fun j hj => ?_, h3⟩, h4⟩
  by_cases e : j = m
  · subst e; rw [← h1]; exact hs
  · exact h2 j (by omega)
theorem Gd.go {cd : Nat → Nat} {len base N i at_ r d : Nat} (h : Gd cd len base N i at_) (hi : i < N) (hr : 1 ≤ r) (hr3 : r ≤ 3) (hd : d ≤ 2) : Gd cd len base N (i + r) (at_ + d) := by
  have hle := h.le
  refine ⟨⟨at_ + d, 0, by omega, fun j hj => absurd hj (Nat.not_lt_zero _), ?_⟩, by omega⟩
  have h1 : (2 * len + 6) * (i + 1) ≤ (2 * len + 6) * (i + r) := Nat.mul_le_mul_left _ (by omega)
  rw [Nat.mul_add, Nat.mul_one] at h1
  omega
theorem Gd.bound {cd : Nat → Nat} {len base N i at_ : Nat} (h : Gd cd len base N i at_) (hN : N ≤ 9) (hl : len ≤ 1048576) (hb : base ≤ 100) : at_ ≤ 40000000 := by
  have h1 := h.le
  have h2 : (2 * len + 6) * i ≤ (2 * len + 6) * 12 := Nat.mul_le_mul_left _ (by have := h.i_le; omega)
  omega
set_option maxRecDepth 20000 in
set_option maxHeartbeats 4000000 in
theorem drawGlob_all (w : World) (a : Option Addr) (len cap : Nat) (hc : CodeOk w a len) (hlc : len ≤ cap) :
    Calls Tryd.prog 5 #[.slice a len cap] w fun e w' => (∃ p t : ByteArray, e = .returned (.tuple #[.string p, .string t]) ∧ p.size ≤ 1000000000 ∧ t.size ≤ 9) ∧ Below w.heap.size w w' := by
  obtain ⟨cd, hcd⟩ := cd_of hc
  have hlen := hc.1
  have HCD := hid hcd
  clear hcd
  go_enter Tryd.func5, Tryd.ntmps5
  go_wp2_with fail
  refine (source_all w a len cap hc hlc).mono ?_
  rintro e w1 ⟨rfl, hs1, hb1⟩
  have HB1 := hid hb1
  clear hb1
  obtain ⟨c, hcw⟩ : ∃ c, w.heap.size = c := ⟨_, rfl⟩
  rw [hcw] at hs1
  have HC := hid hcw
  simp only [hcw]
  clear hcw
  go_wp2_with fail
  refine (n_all w _ c a len cap 0 10 hs1 (by omega) (by omega) (by omega)).mono ?_
  rintro e w2 ⟨⟨r, rfl, hr0, hr1⟩, hs2, hg2⟩
  obtain ⟨N, rfl⟩ := Int.eq_ofNat_of_zero_le hr0
  have HG2 := hid hg2
  clear hg2 hs1
  go_wp2_with fail
  refine (bytes_all w _ c a len cap (0 + 1) N hs2 (by omega) (by omega)).mono ?_
  rintro e w3 ⟨⟨t, rfl, ht⟩, ⟨base, hs3, hbase⟩, hg3⟩
  have HG3 := hid (grown_trans HG2.out hg3)
  clear hg3 hs2 HG2
  have ht9 : t.size ≤ 9 := by omega
  have HS3 := hid hs3
  clear hs3
  go_wp2_with fail
  go_loopw [6, 7] (fun v i wr => ∃ (p : ByteArray) (k q : Nat), v = .string p ∧ i = .int .i64 (k : Int) ∧ p.size ≤ q ∧ Gd cd len base t.size k q ∧ Src w wr c a len cap q ∧ w1.grownBy wr (some c)) (fun _ _ wr => 40000001 - atOf wr c)
  case atStart => exact ⟨⟨#[]⟩, 0, base, rfl, rfl, Nat.zero_le _, Gd.start cd len base t.size, HS3.out, HG3.out⟩
  case round =>
    obtain ⟨p, k, q, rfl, rfl, hpq, hd, hs, hg⟩ := hrel
    have hqb := hd.bound ht9 hlen (by omega)
    have hki := hd.i_le
    have HD := hid hd
    have HS := hid hs
    have HG := hid hg
    have HA := hid hs.atOf
    clear hd hs hg HS3 HG3
    by_cases hlt : k < t.size
    · have d1 : (k : Int) < (t.size : Int) := by omega
      go_wp2_with fail
      refine (nEx w _ c a len cap q 5 cd HS.out HCD.out (by omega) (by omega) (by omega)).mono ?_
      rintro e w4 ⟨rfl, hs4, hg4⟩
      have HS4 := hid hs4
      have HG4 := hid (grown_trans HG.out hg4)
      clear hs4 hg4
      have v5 := nV_lt cd len q 5 (by omega)
      generalize hv : nV cd len q 5 = v at v5
      have HV := hid hv
      clear hv
      by_cases v0 : v = 0
      · subst v0
        go_wp2_with fail
        refine (nEx w _ c a len cap (q + 1) 4 cd HS4.out HCD.out (by omega) (by omega) (by omega)).mono ?_
        rintro e w5 ⟨rfl, hs5, hg5⟩
        have HS5 := hid hs5
        have HG5 := hid (grown_trans HG4.out hg5)
        clear hs5 hg5
        have v4 := nV_lt cd len (q + 1) 4 (by omega)
        generalize hv : nV cd len (q + 1) 4 = r at v4
        have HV2 := hid hv
        clear hv
        go_wp2
        refine ⟨⟨_, k + r, q + 2, rfl, vi _ _ (by omega), by rw [sizeApp]; show p.size + 1 ≤ q + 2; omega, ?_, HS5.out, HG5.out⟩, ?_⟩
        · by_cases r0 : r = 0
          · subst r0; exact HD.out.stay ⟨HV.out, HV2.out⟩
          · exact HD.out.go hlt (by omega) (by omega) (Nat.le_refl _)
        · rw [HA.out, HS5.out.atOf]; omega
      · by_cases v1 : v = 1
        · subst v1
          go_wp2
          refine ⟨⟨_, k + 1, q + 1, rfl, vi _ _ (by omega), by rw [sizeApp]; show p.size + 1 ≤ q + 1; omega, HD.out.go hlt (by omega) (by omega) (by omega), HS4.out, HG4.out⟩, ?_⟩
          rw [HA.out, HS4.out.atOf]; omega
        · have d2 : ¬ (v : Int) = 0 := by omega
          have d3 : ¬ (v : Int) = 1 := by omega
          go_wp2
          refine ⟨⟨_, k + 1, q + 1, rfl, vi _ _ (by omega), by rw [sizeApp, ByteArray.size_extract]; omega, HD.out.go hlt (by omega) (by omega) (by omega), HS4.out, HG4.out⟩, ?_⟩
          rw [HA.out, HS4.out.atOf]; omega
    · have d1 : ¬ (k : Int) < (t.size : Int) := by omega
      go_wp2_with fail
      refine (one_all w _ c a len cap q 4 HS.out (by omega) (by omega) (by omega)).mono ?_
      rintro e w4 ⟨⟨b, rfl⟩, hs4, hg4⟩
      have HS4 := hid hs4
      have HG4 := hid (grown_trans HG.out hg4)
      clear hs4 hg4
      cases b with
      | true =>
        go_wp2_with fail
        refine (spoil_all w _ c a len cap (q + 1) p HS4.out (by omega) (by omega)).mono ?_
        rintro e w5 ⟨⟨u, rfl, hu⟩, ⟨p', hs5, hp'⟩, hg5⟩
        have HG5 := hid (grown_trans HG4.out hg5)
        clear hs5 hg5
        go_wp2
        go_ret2
        refine ⟨⟨u, t, rfl, by omega, ht9⟩, ?_⟩
        have := HG5.out
        rw [← HC.out] at this
        exact below_src HB1.out this
      | false =>
        go_wp2
        go_ret2
        refine ⟨⟨p, t, rfl, by omega, ht9⟩, ?_⟩
        have := HG4.out
        rw [← HC.out] at this
        exact below_src HB1.out this
end Go.Proofs.YtmgmchhhmeclgaaDoor
