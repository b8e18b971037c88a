import Derived.Test.YtmjolkagkeonfaaGreatDoorG14
import Derived.Deep.RegionWith
import Derived.Deep.RegionHeld3
import Derived.Deep.DrawnRows
import Derived.Test.YtmjolkagkeonfaaGreatDoorDraw2
import Derived.Test.YtmjolkagkeonfaaGreatDoorG4
import Derived.Deep.Cut
namespace Go.Proofs.YtmjolkagkeonfaaGreatDoor
open Go.RowKit
/-! A text turned in one place. -/
theorem src_drew {W0 w : World} {c : Nat} {a : Option Addr} {len cap p : Nat} (h : Src W0 w c a len cap p) : Src W0 w.drew c a len cap p := h.drewN 1
set_option maxRecDepth 20000 in
set_option maxHeartbeats 4000000 in
theorem spoil_all (W0 w : World) (c : Nat) (a : Option Addr) (len cap p : Nat) (t : ByteArray) (h : Src W0 w c a len cap p) (hp : p ≤ 800000000) (ht : t.size ≤ 1000000000) :
    Calls Tryz.prog 40 #[.pointer (some ⟨c, 0, none⟩), .string t] w fun e w' => (∃ u : ByteArray, e = .returned (.string u) ∧ u.size ≤ t.size + 3) ∧ (∃ p', Src W0 w' c a len cap p' ∧ p' ≤ p + 20) ∧ w.grownBy w' (some c) := by
  by_cases h0 : t.size = 0
  · have d0 : ((t.size : Int) == 0) = true := by simp [h0]
    have d1 : (t.size : Int) = 0 := by omega
    go_enter Tryz.func40, Tryz.ntmps40
    go_wp2_with fail
    refine (n_all W0 _ c a len cap p 3 h (by omega) (by omega) (by omega)).mono ?_
    rintro e w1 ⟨⟨r, rfl, hr0, hr1⟩, hs, hg⟩
    obtain ⟨r', rfl⟩ := Int.eq_ofNat_of_zero_le hr0
    obtain ⟨R, hR⟩ : ∃ R : Nat, R = 1 + r' := ⟨_, rfl⟩
    have e2 : 1 + (r' : Int) = (R : Int) := by omega
    have hR3 : R ≤ 3 := by omega
    clear hR
    have HG := hid hg
    clear hg
    go_wp2_with fail
    refine (bytes_all W0 _ c a len cap (p + 1) R hs (by omega) (by omega)).mono ?_
    rintro e w2 ⟨⟨u, rfl, hu⟩, ⟨p', hs2, hp'⟩, hg2⟩
    have HG2 := hid hg2
    clear hg2
    go_wp2
    go_ret
    exact ⟨⟨u, rfl, by omega⟩, ⟨p', hs2, by omega⟩, grown_trans HG.out HG2.out⟩
  · have d0 : ((t.size : Int) == 0) = false := beq_eq_false_iff_ne.2 (by omega)
    have d1 : ¬ (t.size : Int) = 0 := by omega
    go_enter Tryz.func40, Tryz.ntmps40
    go_wp2_with fail
    refine (n_all W0 _ c a len cap p (t.size : Int) h (by omega) (by omega) (by omega)).mono ?_
    rintro e w1 ⟨⟨r, rfl, hr0, hr1⟩, hs, hg⟩
    obtain ⟨k, rfl⟩ := Int.eq_ofNat_of_zero_le hr0
    have HG := hid hg
    clear hg
    go_wp2_with fail
    refine (n_all W0 _ c a len cap (p + 1) 4 hs (by omega) (by omega) (by omega)).mono ?_
    rintro e w2 ⟨⟨r, rfl, hr2, hr3⟩, hs2, hg2⟩
    obtain ⟨m, rfl⟩ := Int.eq_ofNat_of_zero_le hr2
    have HG2 := hid (grown_trans HG.out hg2)
    clear hg2 HG hs
    have HS := hid hs2
    clear hs2
    obtain ⟨E, hE⟩ : ∃ E : Nat, E = k + m := ⟨_, rfl⟩
    have e1 : (k : Int) + (m : Int) = (E : Int) := by omega
    have HE := hid hE
    have kt : k ≤ t.size := by omega
    by_cases hb : t.size < E
    · have d2 : (t.size : Int) < (E : Int) := by omega
      clear hE
      go_wp2_with fail
      go_region_with (first | (go_at_call 41; refine (n_all W0 _ c a len cap (p + 2) 3 (by first | exact HS.out | exact src_drew HS.out) (by omega) (by omega) (by omega)).mono ?_; rintro e w3 ⟨⟨r, rfl, hr4, hr5⟩, hs3, hg3⟩; obtain ⟨q, rfl⟩ := Int.eq_ofNat_of_zero_le hr4; have HS3 := hid hs3; have HG3 := hid hg3; clear hs3 hg3) | (go_at_call 76; refine (bytes_all W0 _ c a len cap (p + 2 + 1) q (by first | exact HS3.out | exact src_drew HS3.out) (by omega) (by omega)).mono ?_; rintro e w4 ⟨⟨u, rfl, hu⟩, ⟨p', hs4, hp'⟩, hg4⟩; have HS4 := hid hs4; have HG4 := hid hg4; clear hs4 hg4))
      all_goals go_wp2
      all_goals go_ret
      all_goals refine ⟨⟨_, rfl, ?_⟩, ⟨p', HS4.out, by omega⟩, ?_⟩
      all_goals first | exact grown_trans HG2.out (grown_trans HG3.out HG4.out) | exact grown_trans HG2.out (grown_trans (grown_trans (grown_drewN _ 1 _) HG3.out) HG4.out) | skip
      all_goals simp only [sizeApp, ByteArray.size_extract]
      all_goals omega
    · have d2 : ¬ (t.size : Int) < (E : Int) := by omega
      clear hE
      go_wp2_with fail
      go_region_with (first | (go_at_call 41; refine (n_all W0 _ c a len cap (p + 2) 3 (by first | exact HS.out | exact src_drew HS.out) (by omega) (by omega) (by omega)).mono ?_; rintro e w3 ⟨⟨r, rfl, hr4, hr5⟩, hs3, hg3⟩; obtain ⟨q, rfl⟩ := Int.eq_ofNat_of_zero_le hr4; have HS3 := hid hs3; have HG3 := hid hg3; clear hs3 hg3) | (go_at_call 76; refine (bytes_all W0 _ c a len cap (p + 2 + 1) q (by first | exact HS3.out | exact src_drew HS3.out) (by omega) (by omega)).mono ?_; rintro e w4 ⟨⟨u, rfl, hu⟩, ⟨p', hs4, hp'⟩, hg4⟩; have HS4 := hid hs4; have HG4 := hid hg4; clear hs4 hg4))
      all_goals go_wp2
      all_goals go_ret
      all_goals refine ⟨⟨_, rfl, ?_⟩, ⟨p', HS4.out, by omega⟩, ?_⟩
      all_goals first | exact grown_trans HG2.out (grown_trans HG3.out HG4.out) | exact grown_trans HG2.out (grown_trans (grown_trans (grown_drewN _ 1 _) HG3.out) HG4.out) | skip
      all_goals simp only [sizeApp, ByteArray.size_extract]
      all_goals omega
end Go.Proofs.YtmjolkagkeonfaaGreatDoor
namespace Go.Proofs.YtmjolkagkeonfaaGreatDoor
open Go.RowKit
set_option linter.unusedVariables false
/-! The draw of patterns: of the text only a bound of its length is said. -/
/-- the twelve words -/
def patW : Array Value := #[.string ⟨#[42]⟩, .string ⟨#[97, 110, 110]⟩, .string ⟨#[98, 111, 98]⟩, .string ⟨#[97, 42]⟩, .string ⟨#[103, 101, 116]⟩, .string ⟨#[112, 117, 116]⟩, .string ⟨#[108, 105, 115, 116]⟩, .string ⟨#[100, 101, 108, 42]⟩, .string ⟨#[98, 47, 42]⟩, .string ⟨#[98, 47, 120]⟩, .string ⟨#[99, 47, 63]⟩, .string ⟨#[98, 47, 97, 42]⟩]
theorem patW_at {w : World} {g : Nat} (h : RowAt w g 9 patW) (k : Nat) (hk : k < 12) : ∃ s : ByteArray, w.cell? ⟨g, k, none⟩ = some (.string s) ∧ s.size ≤ 4 := by
  match k, hk with
  | 0, _ => exact ⟨_, h.cell 0, by decide⟩
  | 1, _ => exact ⟨_, h.cell 1, by decide⟩
  | 2, _ => exact ⟨_, h.cell 2, by decide⟩
  | 3, _ => exact ⟨_, h.cell 3, by decide⟩
  | 4, _ => exact ⟨_, h.cell 4, by decide⟩
  | 5, _ => exact ⟨_, h.cell 5, by decide⟩
  | 6, _ => exact ⟨_, h.cell 6, by decide⟩
  | 7, _ => exact ⟨_, h.cell 7, by decide⟩
  | 8, _ => exact ⟨_, h.cell 8, by decide⟩
  | 9, _ => exact ⟨_, h.cell 9, by decide⟩
  | 10, _ => exact ⟨_, h.cell 10, by decide⟩
  | 11, _ => exact ⟨_, h.cell 11, by decide⟩
set_option maxRecDepth 20000 in
set_option maxHeartbeats 4000000 in
theorem patterns_all (W0 w : World) (c : Nat) (a : Option Addr) (len cap p kd : Nat) (hkd : kd ≤ 2) (h : Src W0 w c a len cap p) (hp : p ≤ 800000000) :
    Calls Tryz.prog 75 #[.pointer (some ⟨c, 0, none⟩), .int .i64 kd] w fun e w' => (∃ u : ByteArray, e = .returned (.string u) ∧ u.size ≤ 20) ∧ (∃ p', Src W0 w' c a len cap p' ∧ p' ≤ p + 10) ∧ w.grownBy w' (some c) := by
  obtain ⟨W1, hW1⟩ : ∃ W, W = w.alloc (.cells patW 9) := ⟨_, rfl⟩
  have G1 : Hid (w.grownBy W1 (some c)) := by rw [hW1]; exact World.grownBy_alloc _ _ _
  have S1 : Hid (Src W0 W1 c a len cap p) := by rw [hW1]; exact h.far (World.grownBy_alloc w _ none) (by simp) (by intro g hg; cases hg)
  have T1 : Hid (RowAt W1 w.heap.size 9 patW) := by rw [hW1]; exact RowAt.new _ _ _
  have hc := h.lt
  clear h
  go_enter Tryz.func75, Tryz.ntmps75
  go_upto_region 2 with fail
  rw [show (#[.string ⟨#[42]⟩, .string ⟨#[97, 110, 110]⟩, .string ⟨#[98, 111, 98]⟩, .string ⟨#[97, 42]⟩, .string ⟨#[103, 101, 116]⟩, .string ⟨#[112, 117, 116]⟩, .string ⟨#[108, 105, 115, 116]⟩, .string ⟨#[100, 101, 108, 42]⟩, .string ⟨#[98, 47, 42]⟩, .string ⟨#[98, 47, 120]⟩, .string ⟨#[99, 47, 63]⟩, .string ⟨#[98, 47, 97, 42]⟩] : Array Value) = patW from rfl, ← hW1]
  clear hW1
  obtain ⟨g, hg⟩ : ∃ g, g = w.heap.size := ⟨_, rfl⟩
  rw [← hg] at T1 ⊢
  have gc : g ≠ c := by omega
  have HKP : Hid (∀ wx, W1.grownBy wx (some c) → RowAt wx g 9 patW) := fun wx hx => (hx.block g T1.out.lt (fun e => gc (Option.some.inj e))).trans T1.out
  clear hg
  go_wp2_with fail
  refine (n_all W0 _ c a len cap p 4 S1.out (by omega) (by omega) (by omega)).mono ?_
  rintro e w2 ⟨⟨r, rfl, hr0, hr1⟩, hs2, hg2⟩
  obtain ⟨r', rfl⟩ := Int.eq_ofNat_of_zero_le hr0
  have S2 := hid hs2
  have G2 := hid hg2
  clear hs2 hg2 S1
  obtain ⟨x, hx, hx4⟩ := patW_at (HKP.out w2 G2.out) ((r' + 4 * kd) % 12) (Nat.mod_lt _ (by omega))
  go_wp2_with fail
  refine (n_all W0 _ c a len cap (p + 1) 3 S2.out (by omega) (by omega) (by omega)).mono ?_
  rintro e w3 ⟨⟨m, rfl, hm0, hm1⟩, hs3, hg3⟩
  obtain ⟨m', rfl⟩ := Int.eq_ofNat_of_zero_le hm0
  have S3 := hid hs3
  have G3 := hid (grown_trans G2.out hg3)
  have X4 := hid hx4
  have hm3 : m' < 3 := by omega
  clear hs3 hg3 S2 G2 hx hx4 hr0 hr1 hm0 hm1
  go_wp2_with fail
  go_loopw [6, 7] (fun v i wr => ∃ (u : ByteArray) (n q : Nat), v = .string u ∧ i = .int .i64 (n : Int) ∧ n < 3 ∧ u.size + 5 * n ≤ 14 ∧ q + n ≤ p + 4 ∧ Src W0 wr c a len cap q ∧ W1.grownBy wr (some c)) (fun _ i _ => (intOf i).toNat)
  case atStart => exact ⟨x, m', p + 1 + 1, rfl, rfl, hm3, by have := X4.out; omega, by omega, S3.out, G3.out⟩
  case round =>
    obtain ⟨u, n, q, rfl, rfl, hn3, hu, hq, hs, hg⟩ := hrel
    have S4 := hid hs
    have G4 := hid hg
    have HU := hid hu
    have hu14 : u.size ≤ 14 := by omega
    clear hs hg hu
    by_cases h0 : n = 0
    · subst h0
      go_wp2_with fail
      refine (one_all W0 _ c a len cap q 6 S4.out (by omega) (by omega) (by omega)).mono ?_
      rintro e w5 ⟨⟨b, rfl⟩, hs5, hg5⟩
      have S5 := hid hs5
      have G5 := hid (grown_trans G4.out hg5)
      clear hs5 hg5
      cases b
      · go_wp2
        go_ret
        exact ⟨⟨_, rfl, by have := HU.out; omega⟩, ⟨q + 1, S5.out, by omega⟩, grown_trans G1.out G5.out⟩
      · go_wp2
        go_ret
        exact ⟨⟨_, rfl, by decide⟩, ⟨q + 1, S5.out, by omega⟩, grown_trans G1.out G5.out⟩
    · have d0 : (0 : Int) < (n : Int) := by omega
      go_wp2_with fail
      refine (n_all W0 _ c a len cap q 4 S4.out (by omega) (by omega) (by omega)).mono ?_
      rintro e w5 ⟨⟨r, rfl, hr0, hr1⟩, hs5, hg5⟩
      obtain ⟨r5, rfl⟩ := Int.eq_ofNat_of_zero_le hr0
      have S5 := hid hs5
      have G5 := hid (grown_trans G4.out hg5)
      clear hs5 hg5 S4
      obtain ⟨y, hy, hy4⟩ := patW_at (HKP.out w5 G5.out) ((r5 + 4 * kd) % 12) (Nat.mod_lt _ (by omega))
      have Y4 := hid hy4
      go_wp2
      go_roundw
      case rel => exact ⟨_, n - 1, q + 1, rfl, by go_num, by omega, by have := HU.out; have := Y4.out; simp only [sizeApp]; have e1 : (⟨#[44]⟩ : ByteArray).size = 1 := rfl; omega, by omega, S5.out, G5.out⟩
      case measure => simp [intOf]; omega
end Go.Proofs.YtmjolkagkeonfaaGreatDoor
