import Derived.Test.YtcbmgpdpjagaoaaGreatDraw
import Derived.OpenShut
import Derived.Test.YtcbmgpdpjagaoaaGreatG1
import Derived.Deep.RegionWith
import Derived.Deep.RegionHeld3
import Derived.Deep.DrawnRows
import Derived.Lib.ConvBytes
namespace Go.Proofs.YtcbmgpdpjagaoaaGreat
open Go.RowKit
set_option maxRecDepth 20000 in
set_option maxHeartbeats 1000000 in
theorem source_all (w : World) (a : Option Addr) (len cap : Nat) (hc : CodeOk w a len) (hlc : len ≤ cap) :
 Calls Tryz.prog 16 #[.slice a len cap] w fun e w' => e = .returned (.pointer (some ⟨w.heap.size, 0, none⟩)) ∧ Src w w' w.heap.size a len cap 0 ∧ Below w.heap.size w w' := by
 have hl := hc.1
 by_cases h12 : 12 < len / 16
 · have d0 : decide ((12 : Int) < (len : Int) / 16) = true := by simp; omega
   go_enter Tryz.func16, Tryz.ntmps16
   go_wp2
   go_ret
   exact ⟨rfl, ⟨⟨12, Blk.made w _ _, by omega, by omega⟩, hc, hlc, (Below.refl _ _).alloc (Nat.le_refl _) _, Nat.le_refl _⟩, (Below.refl _ _).alloc (Nat.le_refl _) _⟩
 · have d0 : decide ((12 : Int) < (len : Int) / 16) = false := by simp; omega
   go_enter Tryz.func16, Tryz.ntmps16
   go_wp2
   go_ret
   exact ⟨rfl, ⟨⟨(len : Int) / 16, Blk.made w _ _, by omega, by omega⟩, hc, hlc, (Below.refl _ _).alloc (Nat.le_refl _) _, Nat.le_refl _⟩, (Below.refl _ _).alloc (Nat.le_refl _) _⟩
end Go.Proofs.YtcbmgpdpjagaoaaGreat
namespace Go.Proofs.YtcbmgpdpjagaoaaGreat
open Go.RowKit
attribute [local go_sem ↓] Go.wp_at_zero Go.wp_at_succ
theorem grown_drewS (w : World) (r : Option Nat) : w.grownBy w.drew r := ⟨rfl, rfl, rfl, Nat.le_refl _, fun _ _ _ => rfl⟩
theorem Src.drew {W0 w : World} {c : Nat} {a : Option Addr} {len cap p : Nat} (h : Src W0 w c a len cap p) : Src W0 w.drew c a len cap p :=
 h.far (grown_drewS w none) (by simp) (by intro g hg; cases hg)
theorem Src.alloc {W0 w : World} {c : Nat} {a : Option Addr} {len cap p : Nat} (h : Src W0 w c a len cap p) (o : Obj) : Src W0 (w.alloc o) c a len cap p :=
 h.far (World.grownBy_alloc w o none) (by simp) (by intro g hg; cases hg)
theorem Tryz.infoU8 : (Tryz.prog.info? 5).map (fun i => (i.zero, i.size, i.bytes)) = some (some (.int .u8 0), 1, 1) := by kernel_rfl
set_option maxRecDepth 20000 in
set_option maxHeartbeats 1000000 in
theorem word_all (W0 w : World) (c : Nat) (a : Option Addr) (len cap p : Nat) (h : Src W0 w c a len cap p) (hp : p ≤ 1000000) :
 Calls Tryz.prog 40 #[.pointer (some ⟨c, 0, none⟩)] w fun e w' => (∃ t : ByteArray, e = .returned (.string t) ∧ t.size ≤ 6) ∧ (∃ p', Src W0 w' c a len cap p' ∧ p' ≤ p + 7) ∧ w.grownBy w' (some c) := by
 have hcl := h.lt; have h0c := h.2.2.2.2; have S0 : Hid (Src W0 (w.alloc (.cells #[] 5)) c a len cap p) := h.alloc _; have O0 : Hid (OwnNums (w.alloc (.cells #[] 5)) w.heap.size 5 .u8 (.slice (some ⟨w.heap.size, 0, none⟩) 0 0) []) := OwnNums.empty w _ _; have G0 : Hid (w.grownBy (w.alloc (.cells #[] 5)) (some c)) := World.grownBy_alloc w _ _; clear h
 go_enter Tryz.func40, Tryz.ntmps40
 go_wp2_with fail
 refine (n_all W0 _ c a len cap p 6 S0.out (by omega) (by omega) (by omega)).mono ?_
 rintro e w1 ⟨⟨r, rfl, hr0, hr1⟩, hs1, hg1⟩
 obtain ⟨R, rfl⟩ := Int.eq_ofNat_of_zero_le hr0; have S1 := hid hs1; have O1 := hid (O0.out.kept hg1 hcl); have G1 := hid (grown_trans G0.out hg1); clear hs1 hg1 S0 O0 G0
 go_wp2_with fail
 go_loopw [3, 4] (fun v q wr => ∃ (k pp : Nat) (xs : List Int), k ≤ R + 1 ∧ q = .int .i64 (k : Int) ∧ xs.length + k = R + 1 ∧ pp + k = p + 1 + (R + 1) ∧ OwnNums wr w.heap.size 5 .u8 v xs ∧ Src W0 wr c a len cap pp ∧ w.grownBy wr (some c)) (fun _ q _ => (intOf q).toNat)
 case atStart => exact ⟨R + 1, p + 1, [], Nat.le_refl _, by go_num, by simp, by omega, O1.out, S1.out, G1.out⟩
 case round =>
  obtain ⟨k, pp, xs, hk, rfl, hxk, hpk, hO, hS, hG⟩ := hrel; have HO := hid hO; have HS := hid hS; have HG := hid hG; clear hO hS hG; have hR6 : R < 6 := by omega
  by_cases hlt : 0 < k
  · have d0 : (0 : Int) < (k : Int) := by omega
    go_wp2_with fail
    refine (n_all W0 _ c a len cap pp 26 HS.out (by omega) (by omega) (by omega)).mono ?_
    rintro e w2 ⟨⟨r2, rfl, hr20, hr21⟩, hs2, hg2⟩
    obtain ⟨T, rfl⟩ := Int.eq_ofNat_of_zero_le hr20; have hT : T < 26 := by omega
    have S2 := hid hs2; have O2 := hid (HO.out.kept hg2 hcl); have G2 := hid (grown_trans HG.out hg2); have Z2 := hid (G2.out.size); clear hs2 hg2
    go_wp2_with (at_builtin; refine append_num2 w.heap.size w2 rfl (.tmp 13) (.tmp 17) 22 rfl 5 .u8 1 Tryz.underlying22 Tryz.infoU8 (by decide) _ xs _ rfl O2.out Z2.out rfl (by omega) ?_; intro v' w3 ho3 hg3)
    have S3 : Hid (Src W0 w3 c a len cap (pp + 1)) := S2.out.far hg3 (fun e => by have := (World.ownsRow.lt O2.out _ e.symm).1; omega) (fun g hg => by have := (World.ownsRow.lt O2.out _ hg).1; omega); have G3 : Hid (w.grownBy w3 (some c)) := grown_own G2.out hg3 (fun g hg => (World.ownsRow.lt O2.out _ hg).1) (Nat.le_refl _); have O3 := hid ho3; clear ho3 hg3
    go_wp2
    go_roundw
    case rel => exact ⟨k - 1, pp + 1, _, by omega, by go_num, by rw [List.length_append]; simp; omega, by omega, O3.out, S3.out, G3.out⟩
    case measure => simp [intOf]; omega
  · have d0 : ¬ (0 : Int) < (k : Int) := by omega
    have hcv := conv_owned wr 22 5 9 Tryz.underlying22 Tryz.underlying5 Tryz.underlying9 HO.out
    go_wp2
    go_ret
    exact ⟨⟨_, rfl, by rw [strOfNums_size]; omega⟩, ⟨pp, HS.out, by omega⟩, HG.out⟩
end Go.Proofs.YtcbmgpdpjagaoaaGreat
