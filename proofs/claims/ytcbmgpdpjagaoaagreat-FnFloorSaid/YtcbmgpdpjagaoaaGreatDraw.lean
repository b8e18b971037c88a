import Derived.Test.YtcbmgpdpjagaoaaGreatProg
import Derived.Test.YtcbmgpdpjagaoaaGreatBase
import Derived.WalkLawsBesides
import Derived.WalkSpells
import Derived.OpenShut
import Derived.Laws.BitsAllLaws
import Derived.Test.YtcbmgpdpjagaoaaGreatCode
import Derived.BigQuiet
import Derived.Deep.QuietTactic
namespace Go.Proofs.YtcbmgpdpjagaoaaGreat
open Go.RowKit
def SrcAt (w : World) (c : Nat) (a : Option Addr) (len cap : Nat) (p z : Int) : Prop := Blk w c #[.slice a len cap, .int .i64 p, .int .i64 z] 57
theorem SrcAt.step {w : World} {c : Nat} {a : Option Addr} {len cap : Nat} {p z : Int} (h : SrcAt w c a len cap p z) (q : Int) : SrcAt (w.setCell ⟨c, 1, none⟩ (.int .i64 q)) c a len cap q z := Blk.set h 1 (.int .i64 q)
def Drawn (w : World) (c : Nat) (a : Option Addr) (len cap p : Nat) (z most : Int) (e : Ending) (w' : World) : Prop :=
 (∃ r : Int, e = .returned (.int .i64 r) ∧ 0 ≤ r ∧ r < most) ∧ SrcAt w' c a len cap ((p + 1 : Nat) : Int) z ∧ w.grownBy w' (some c)
set_option maxRecDepth 20000 in
set_option maxHeartbeats 2000000 in
theorem n_zero (w : World) (c : Nat) (a : Option Addr) (cap : Nat) (p : Nat) (z most : Int) (hS : SrcAt w c a 0 cap p z) (hp : p ≤ 1000000000) (hm : 1 ≤ most) (hm2 : most ≤ 9223372036854775807) :
 Calls Tryz.prog 21 #[.pointer (some ⟨c, 0, none⟩), .int .i64 most] w (Drawn w c a 0 cap p z most) := by
 have h0 := hS.cell 0 _ rfl; have h1 := hS.cell 1 _ rfl; have f1 := hS.free 1; have d0 : decide (most < 1) = false := by simp; omega
 go_enter Tryz.func21, Tryz.ntmps21
 go_wp2
 go_ret
 exact ⟨⟨(p : Int) * 7 % most, rfl, Int.emod_nonneg _ (by omega), Int.emod_lt_of_pos _ (by omega)⟩, by simpa using hS.step (p + 1), grown_set⟩
set_option maxRecDepth 20000 in
set_option maxHeartbeats 2000000 in
theorem n_some (W0 w : World) (c b off len cap : Nat) (p : Nat) (z most : Int) (hS : SrcAt w c (some ⟨b, off, none⟩) len cap p z) (hp : p ≤ 1000000000) (hm : 1 ≤ most) (hm2 : most ≤ 9223372036854775807)
 (hlen : len ≤ 1048576) (hl0 : 0 < len) (hb : b < W0.heap.size) (hcode : ∀ i, i < len → ∃ z : Nat, z < 256 ∧ W0.cell? ⟨b, off + i, none⟩ = some (.int .u8 z)) (hbel : Below W0.heap.size W0 w) (hc : W0.heap.size ≤ c) :
 Calls Tryz.prog 21 #[.pointer (some ⟨c, 0, none⟩), .int .i64 most] w (Drawn w c (some ⟨b, off, none⟩) len cap p z most) := by
 have h0 := hS.cell 0 _ rfl; have h1 := hS.cell 1 _ rfl; have f1 := hS.free 1; have d0 : decide (most < 1) = false := by simp; omega
 have d1 : ((len : Int) == 0) = false := by simp; omega
 have hne : b ≠ c := by omega
 obtain ⟨z1, hz1, e1⟩ := hcode (p % len) (Nat.mod_lt _ hl0); obtain ⟨z2, hz2, e2⟩ := hcode ((p + 1) % len) (Nat.mod_lt _ hl0); have g1 : w.cell? ⟨b, off + p % len, none⟩ = some (.int .u8 z1) := (hbel.cell (p := ⟨b, off + p % len, none⟩) hb).trans e1; have g2 : w.cell? ⟨b, off + (p + 1) % len, none⟩ = some (.int .u8 z2) := (hbel.cell (p := ⟨b, off + (p + 1) % len, none⟩) hb).trans e2; have m1 : p % len < len := Nat.mod_lt _ hl0; have m2 : (p + 1) % len < len := Nat.mod_lt _ hl0; have i1 : ((p : Int) % (len : Int)) < (len : Int) := by omega
 have q1 : (0 : Int) ≤ (p : Int) / (len : Int) := Int.ediv_nonneg (by omega) (by omega)
 have q2 : (p : Int) / (len : Int) ≤ 1000000000 := by
  have : p / len ≤ p := Nat.div_le_self _ _; have e : ((p / len : Nat) : Int) = (p : Int) / (len : Int) := by simp
  omega
 have i2 : (((p : Int) + 1) % (len : Int)) < (len : Int) := Int.emod_lt_of_pos _ (by omega); have i3 : (0 : Int) ≤ ((p : Int) + 1) % (len : Int) := Int.emod_nonneg _ (by omega); have i4 : (0 : Int) ≤ (p : Int) % (len : Int) := Int.emod_nonneg _ (by omega); have hwr : IntKind.i64.wrap ((p : Int) + 1) = (p : Int) + 1 := by simp [IntKind.wrap, IntKind.bits, IntKind.signed]; omega
 clear e1 e2 hcode
 by_cases hbig : most ≤ 200
 · have d2 : decide ((200 : Int) < most) = false := by simp; omega
   go_enter Tryz.func21, Tryz.ntmps21
   go_wp2
   go_quiet (fail)
   go_wp2
   go_ret
   refine ⟨⟨((z1 : Int) + (p : Int) / (len : Int) * 37) % most, rfl, Int.emod_nonneg _ (by omega), Int.emod_lt_of_pos _ (by omega)⟩, ?_, ?_⟩
   · exact (by simpa using hS.step (p + 1) : SrcAt (w.setCell ⟨c, 1, none⟩ (.int .i64 ((p : Int) + 1))) c (some ⟨b, off, none⟩) len cap ((p + 1 : Nat) : Int) z)
   · exact grown_trans grown_set (grown_drewN _ _ _)
 · have d2 : decide ((200 : Int) < most) = true := by simp; omega
   go_enter Tryz.func21, Tryz.ntmps21
   go_wp2
   go_quiet (fail)
   go_wp2
   go_quiet (fail)
   go_wp2
   go_ret
   refine ⟨⟨_, rfl, ?_, ?_⟩, ?_, ?_⟩
   · exact Int.emod_nonneg _ (by omega)
   · exact Int.emod_lt_of_pos _ (by omega)
   · exact (by simpa using hS.step (p + 1) : SrcAt (w.setCell ⟨c, 1, none⟩ (.int .i64 ((p : Int) + 1))) c (some ⟨b, off, none⟩) len cap ((p + 1 : Nat) : Int) z)
   · exact grown_trans grown_set (grown_drewN _ _ _)
def Src (W0 w : World) (c : Nat) (a : Option Addr) (len cap p : Nat) : Prop :=
 (∃ z : Int, SrcAt w c a len cap p z ∧ 0 ≤ z ∧ z ≤ 12) ∧ CodeOk W0 a len ∧ len ≤ cap ∧ Below W0.heap.size W0 w ∧ W0.heap.size ≤ c
theorem Src.lt {W0 w : World} {c : Nat} {a : Option Addr} {len cap p : Nat} (h : Src W0 w c a len cap p) : c < w.heap.size := by
 obtain ⟨⟨z, hS, _⟩, _⟩ := h; exact Blk.lt hS
theorem Src.far {W0 w w' : World} {c : Nat} {a : Option Addr} {len cap p : Nat} {r : Option Nat} (h : Src W0 w c a len cap p) (hg : w.grownBy w' r) (hne : some c ≠ r) (hr : ∀ g, r = some g → W0.heap.size ≤ g) : Src W0 w' c a len cap p := by
 have hl := h.lt; obtain ⟨⟨z, hS, hz⟩, hc, hlc, hb, h0⟩ := h; exact ⟨⟨z, Blk.far hS hg hl hne, hz⟩, hc, hlc, hb.grown hg hb.size hr, h0⟩
theorem Src.drewN {W0 w : World} {c : Nat} {a : Option Addr} {len cap p : Nat} (h : Src W0 w c a len cap p) (n : Nat) : Src W0 (w.drewN n) c a len cap p :=
 h.far (grown_drewN w n none) (by simp) (by intro g hg; cases hg)
theorem n_all (W0 w : World) (c : Nat) (a : Option Addr) (len cap p : Nat) (most : Int) (h : Src W0 w c a len cap p) (hp : p ≤ 1000000000) (hm : 1 ≤ most) (hm2 : most ≤ 9223372036854775807) :
 Calls Tryz.prog 21 #[.pointer (some ⟨c, 0, none⟩), .int .i64 most] w fun e w' => (∃ r : Int, e = .returned (.int .i64 r) ∧ 0 ≤ r ∧ r < most) ∧ Src W0 w' c a len cap (p + 1) ∧ w.grownBy w' (some c) := by
 obtain ⟨⟨z, hS, hz⟩, ⟨hlen, hcode⟩, hlc, hb, h0⟩ := h
 have fin : ∀ (e : Ending) (w' : World), Drawn w c a len cap p z most e w' → (∃ r : Int, e = .returned (.int .i64 r) ∧ 0 ≤ r ∧ r < most) ∧ Src W0 w' c a len cap (p + 1) ∧ w.grownBy w' (some c) := by
  intro e w' hd; exact ⟨hd.1, ⟨⟨z, hd.2.1, hz⟩, ⟨hlen, hcode⟩, hlc, hb.grown hd.2.2 hb.size (by intro g hg; cases hg; exact h0), h0⟩, hd.2.2⟩
 by_cases hl : len = 0
 · subst hl
   exact (n_zero w c a cap p z most hS hp hm hm2).mono fun e w' hd => fin e w' hd
 · rcases hcode with h1 | ⟨b, off, rfl, hbl, hcells⟩
   · exact absurd h1 hl
   · exact (n_some W0 w c b off len cap p z most hS hp hm hm2 hlen (by omega) hbl hcells hb h0).mono fun e w' hd => fin e w' hd
set_option maxHeartbeats 400000 in
theorem one_all (W0 w : World) (c : Nat) (a : Option Addr) (len cap p : Nat) (most : Int) (h : Src W0 w c a len cap p) (hp : p ≤ 1000000000) (hm : 1 ≤ most) (hm2 : most ≤ 9223372036854775807) :
 Calls Tryz.prog 18 #[.pointer (some ⟨c, 0, none⟩), .int .i64 most] w fun e w' => (∃ b : Bool, e = .returned (.bool b)) ∧ Src W0 w' c a len cap (p + 1) ∧ w.grownBy w' (some c) := by
 go_enter Tryz.func18, Tryz.ntmps18
 go_wp2_with fail
 refine (n_all W0 w c a len cap p most h hp hm hm2).mono ?_
 rintro e w1 ⟨⟨r, rfl, hr0, hr1⟩, hs, hg⟩
 go_wp2
 go_ret
 exact ⟨⟨_, rfl⟩, hs, hg⟩
end Go.Proofs.YtcbmgpdpjagaoaaGreat
