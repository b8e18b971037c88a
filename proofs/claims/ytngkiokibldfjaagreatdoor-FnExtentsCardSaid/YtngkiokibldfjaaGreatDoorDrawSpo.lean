import Derived.Test.YtngkiokibldfjaaGreatDoorPA
import Derived.Test.YtngkiokibldfjaaGreatDoorDrawEx
import Derived.Deep.RegionWith
import Derived.Deep.RegionHeld3
import Derived.Deep.DrawnRows
namespace Go.Proofs.YtngkiokibldfjaaGreatDoor
open Go.RowKit
/-! A text turned in one place. -/
theorem src_drew {W0 w : World} {c : Nat} {a : Option Addr} {len cap p : Nat} (h : Src W0 w c a len cap p) : Src W0 w.drew c a len cap p := h.drewN 1
set_option maxRecDepth 20000 in
set_option maxHeartbeats 4000000 in
theorem spoil_all (W0 w : World) (c : Nat) (a : Option Addr) (len cap p : Nat) (t : ByteArray) (h : Src W0 w c a len cap p) (hp : p ≤ 800000000) (ht : t.size ≤ 1000000000) :
    Calls Tryz.prog 57 #[.pointer (some ⟨c, 0, none⟩), .string t] w fun e w' => (∃ u : ByteArray, e = .returned (.string u) ∧ u.size ≤ t.size + 3) ∧ (∃ p', Src W0 w' c a len cap p' ∧ p' ≤ p + 20) ∧ w.grownBy w' (some c) := by
  by_cases h0 : t.size = 0
  · have d0 : ((t.size : Int) == 0) = true := by simp [h0]
    have d1 : (t.size : Int) = 0 := by omega
    go_enter Tryz.func57, Tryz.ntmps57
    go_wp2_with fail
    refine (n_all W0 _ c a len cap p 3 h (by omega) (by omega) (by omega)).mono ?_
    rintro e w1 ⟨⟨r, rfl, hr0, hr1⟩, hs, hg⟩
    obtain ⟨r', rfl⟩ := Int.eq_ofNat_of_zero_le hr0
    obtain ⟨R, hR⟩ : ∃ R : Nat, R = 1 + r' := ⟨_, rfl⟩
    have e2 : 1 + (r' : Int) = (R : Int) := by omega
    have hR3 : R ≤ 3 := by omega
    clear hR
    have HG := hid hg
    clear hg
    go_wp2_with fail
    refine (bytes_all W0 _ c a len cap (p + 1) R hs (by omega) (by omega)).mono ?_
    rintro e w2 ⟨⟨u, rfl, hu⟩, ⟨p', hs2, hp'⟩, hg2⟩
    have HG2 := hid hg2
    clear hg2
    go_wp2
    go_ret
    exact ⟨⟨u, rfl, by omega⟩, ⟨p', hs2, by omega⟩, grown_trans HG.out HG2.out⟩
  · have d0 : ((t.size : Int) == 0) = false := beq_eq_false_iff_ne.2 (by omega)
    have d1 : ¬ (t.size : Int) = 0 := by omega
    go_enter Tryz.func57, Tryz.ntmps57
    go_wp2_with fail
    refine (n_all W0 _ c a len cap p (t.size : Int) h (by omega) (by omega) (by omega)).mono ?_
    rintro e w1 ⟨⟨r, rfl, hr0, hr1⟩, hs, hg⟩
    obtain ⟨k, rfl⟩ := Int.eq_ofNat_of_zero_le hr0
    have HG := hid hg
    clear hg
    go_wp2_with fail
    refine (n_all W0 _ c a len cap (p + 1) 4 hs (by omega) (by omega) (by omega)).mono ?_
    rintro e w2 ⟨⟨r, rfl, hr2, hr3⟩, hs2, hg2⟩
    obtain ⟨m, rfl⟩ := Int.eq_ofNat_of_zero_le hr2
    have HG2 := hid (grown_trans HG.out hg2)
    clear hg2 HG hs
    have HS := hid hs2
    clear hs2
    obtain ⟨E, hE⟩ : ∃ E : Nat, E = k + m := ⟨_, rfl⟩
    have e1 : (k : Int) + (m : Int) = (E : Int) := by omega
    have HE := hid hE
    have kt : k ≤ t.size := by omega
    by_cases hb : t.size < E
    · have d2 : (t.size : Int) < (E : Int) := by omega
      clear hE
      go_wp2_with fail
      go_region_with (first | (go_at_call 31; refine (n_all W0 _ c a len cap (p + 2) 3 (by first | exact HS.out | exact src_drew HS.out) (by omega) (by omega) (by omega)).mono ?_; rintro e w3 ⟨⟨r, rfl, hr4, hr5⟩, hs3, hg3⟩; obtain ⟨q, rfl⟩ := Int.eq_ofNat_of_zero_le hr4; have HS3 := hid hs3; have HG3 := hid hg3; clear hs3 hg3) | (go_at_call 59; refine (bytes_all W0 _ c a len cap (p + 2 + 1) q (by first | exact HS3.out | exact src_drew HS3.out) (by omega) (by omega)).mono ?_; rintro e w4 ⟨⟨u, rfl, hu⟩, ⟨p', hs4, hp'⟩, hg4⟩; have HS4 := hid hs4; have HG4 := hid hg4; clear hs4 hg4))
      all_goals go_wp2
      all_goals go_ret
      all_goals refine ⟨⟨_, rfl, ?_⟩, ⟨p', HS4.out, by omega⟩, ?_⟩
      all_goals first | exact grown_trans HG2.out (grown_trans HG3.out HG4.out) | exact grown_trans HG2.out (grown_trans (grown_trans (grown_drewN _ 1 _) HG3.out) HG4.out) | skip
      all_goals simp only [sizeApp, ByteArray.size_extract]
      all_goals omega
    · have d2 : ¬ (t.size : Int) < (E : Int) := by omega
      clear hE
      go_wp2_with fail
      go_region_with (first | (go_at_call 31; refine (n_all W0 _ c a len cap (p + 2) 3 (by first | exact HS.out | exact src_drew HS.out) (by omega) (by omega) (by omega)).mono ?_; rintro e w3 ⟨⟨r, rfl, hr4, hr5⟩, hs3, hg3⟩; obtain ⟨q, rfl⟩ := Int.eq_ofNat_of_zero_le hr4; have HS3 := hid hs3; have HG3 := hid hg3; clear hs3 hg3) | (go_at_call 59; refine (bytes_all W0 _ c a len cap (p + 2 + 1) q (by first | exact HS3.out | exact src_drew HS3.out) (by omega) (by omega)).mono ?_; rintro e w4 ⟨⟨u, rfl, hu⟩, ⟨p', hs4, hp'⟩, hg4⟩; have HS4 := hid hs4; have HG4 := hid hg4; clear hs4 hg4))
      all_goals go_wp2
      all_goals go_ret
      all_goals refine ⟨⟨_, rfl, ?_⟩, ⟨p', HS4.out, by omega⟩, ?_⟩
      all_goals first | exact grown_trans HG2.out (grown_trans HG3.out HG4.out) | exact grown_trans HG2.out (grown_trans (grown_trans (grown_drewN _ 1 _) HG3.out) HG4.out) | skip
      all_goals simp only [sizeApp, ByteArray.size_extract]
      all_goals omega
end Go.Proofs.YtngkiokibldfjaaGreatDoor
