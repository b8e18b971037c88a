import Derived.Test.YtepdodifgkejjaaGreatDoorProg
import Derived.Test.YtepdodifgkejjaaGreatDoorBase
import Derived.WalkLawsBesides
import Derived.WalkSpells
import Derived.OpenShut
import Derived.Laws.BitsAllLaws
import Derived.BigQuiet
import Derived.Deep.QuietTactic
import Derived.Test.YtepdodifgkejjaaGreatDoorG1
import Derived.Deep.RegionWith
import Derived.Deep.RegionHeld3
import Derived.Deep.DrawnRows
import Derived.Lib.ConvBytes
import Derived.Test.YtepdodifgkejjaaGreatDoorG8
namespace Go.Proofs.YtepdodifgkejjaaGreatDoor
open Go.RowKit
/-- The code lies in the old memory. -/
def CodeOk (W0 : World) (a : Option Addr) (len : Nat) : Prop :=
  len ≤ 1048576 ∧ (len = 0 ∨ ∃ b off, a = some ⟨b, off, none⟩ ∧ b < W0.heap.size ∧ ∀ i, i < len → ∃ z : Nat, z < 256 ∧ W0.cell? ⟨b, off + i, none⟩ = some (.int .u8 z))

theorem CodeOk.below {w w1 : World} {a : Option Addr} {len : Nat} (h : CodeOk w a len) (hb : Below w.heap.size w w1) : CodeOk w1 a len := by
  refine ⟨h.1, ?_⟩
  rcases h.2 with h0 | ⟨b, off, rfl, hbl, hc⟩
  · exact Or.inl h0
  · refine Or.inr ⟨b, off, rfl, Nat.lt_of_lt_of_le hbl hb.size, fun i hi => ?_⟩
    obtain ⟨z, hz, hcell⟩ := hc i hi
    exact ⟨z, hz, (hb.cell (p := ⟨b, off + i, none⟩) hbl).trans hcell⟩
theorem codeOk_of (w : World) (a : Option Addr) (len cap : Nat) (zs : List Int) (h : IsRow .u8 w a len cap zs) (hl : len ≤ 1048576) : CodeOk w a len := by
  refine ⟨hl, ?_⟩
  by_cases h0 : len = 0
  · exact Or.inl h0
  · rcases h with ⟨_, h1, _⟩ | ⟨x, rfl, h1, h2, h3, hcell, hwf⟩
    · exact absurd h1 h0
    · right
      obtain ⟨b, off, spot⟩ := x
      have hc := hcell 0 (by omega)
      have hspot : spot = none := by simpa [Addr.add] using World.cell?_spot hc
      subst hspot
      have hadd : ∀ i, (⟨b, off, none⟩ : Addr).add i = ⟨b, off + i, none⟩ := by intro i; unfold Addr.add; split <;> simp_all
      refine ⟨b, off, rfl, ?_, ?_⟩
      · have := World.block_lt_of_cell? w _ hc; rw [hadd] at this; exact this
      · intro i hi
        have hci := hcell i (by omega)
        rw [hadd] at hci
        have hm : zs.getD i 0 ∈ zs := by rw [List.getD_eq_getElem?_getD, List.getElem?_eq_getElem (by omega)]; simp
        have hb := bounds_u8 (hwf _ hm)
        obtain ⟨z, hz⟩ := Int.eq_ofNat_of_zero_le hb.1
        rw [hz] at hci hb
        exact ⟨z, by omega, hci⟩

end Go.Proofs.YtepdodifgkejjaaGreatDoor
namespace Go.Proofs.YtepdodifgkejjaaGreatDoor
open Go.RowKit
theorem Tryz.info5 : (Tryz.prog.info? 5).map (fun i => (i.zero, i.size, i.bytes)) = some (some (.int .u8 0), 1, 1) := by kernel_rfl
/-! The source of draws: a block of three cells: the code, the place, the size. -/
def SrcAt (w : World) (c : Nat) (a : Option Addr) (len cap : Nat) (p z : Int) : Prop := Blk w c #[.slice a len cap, .int .i64 p, .int .i64 z] 99
theorem SrcAt.step {w : World} {c : Nat} {a : Option Addr} {len cap : Nat} {p z : Int} (h : SrcAt w c a len cap p z) (q : Int) : SrcAt (w.setCell ⟨c, 1, none⟩ (.int .i64 q)) c a len cap q z := Blk.set h 1 (.int .i64 q)

/-- What a draw leaves: a number below 'most'; the place one on; nothing else has turned. -/
def Drawn (w : World) (c : Nat) (a : Option Addr) (len cap p : Nat) (z most : Int) (e : Ending) (w' : World) : Prop :=
  (∃ r : Int, e = .returned (.int .i64 r) ∧ 0 ≤ r ∧ r < most) ∧ SrcAt w' c a len cap ((p + 1 : Nat) : Int) z ∧ w.grownBy w' (some c)

set_option maxRecDepth 20000 in
set_option maxHeartbeats 2000000 in
theorem n_zero (w : World) (c : Nat) (a : Option Addr) (cap : Nat) (p : Nat) (z most : Int) (hS : SrcAt w c a 0 cap p z) (hp : p ≤ 1000000000) (hm : 1 ≤ most) (hm2 : most ≤ 9223372036854775807) :
    Calls Tryz.prog 36 #[.pointer (some ⟨c, 0, none⟩), .int .i64 most] w (Drawn w c a 0 cap p z most) := by
  have h0 := hS.cell 0 _ rfl
  have h1 := hS.cell 1 _ rfl
  have f1 := hS.free 1
  have d0 : decide (most < 1) = false := by simp; omega
  go_enter Tryz.func36, Tryz.ntmps36
  go_wp2
  go_ret
  exact ⟨⟨(p : Int) * 7 % most, rfl, Int.emod_nonneg _ (by omega), Int.emod_lt_of_pos _ (by omega)⟩, by simpa using hS.step (p + 1), grown_set⟩

set_option maxRecDepth 20000 in
set_option maxHeartbeats 2000000 in
theorem n_some (W0 w : World) (c b off len cap : Nat) (p : Nat) (z most : Int) (hS : SrcAt w c (some ⟨b, off, none⟩) len cap p z) (hp : p ≤ 1000000000) (hm : 1 ≤ most) (hm2 : most ≤ 9223372036854775807)
    (hlen : len ≤ 1048576) (hl0 : 0 < len) (hb : b < W0.heap.size) (hcode : ∀ i, i < len → ∃ z : Nat, z < 256 ∧ W0.cell? ⟨b, off + i, none⟩ = some (.int .u8 z)) (hbel : Below W0.heap.size W0 w) (hc : W0.heap.size ≤ c) :
    Calls Tryz.prog 36 #[.pointer (some ⟨c, 0, none⟩), .int .i64 most] w (Drawn w c (some ⟨b, off, none⟩) len cap p z most) := by
  have h0 := hS.cell 0 _ rfl
  have h1 := hS.cell 1 _ rfl
  have f1 := hS.free 1
  have d0 : decide (most < 1) = false := by simp; omega
  have d1 : ((len : Int) == 0) = false := by simp; omega
  have hne : b ≠ c := by omega
  obtain ⟨z1, hz1, e1⟩ := hcode (p % len) (Nat.mod_lt _ hl0)
  obtain ⟨z2, hz2, e2⟩ := hcode ((p + 1) % len) (Nat.mod_lt _ hl0)
  have g1 : w.cell? ⟨b, off + p % len, none⟩ = some (.int .u8 z1) := (hbel.cell (p := ⟨b, off + p % len, none⟩) hb).trans e1
  have g2 : w.cell? ⟨b, off + (p + 1) % len, none⟩ = some (.int .u8 z2) := (hbel.cell (p := ⟨b, off + (p + 1) % len, none⟩) hb).trans e2
  have m1 : p % len < len := Nat.mod_lt _ hl0
  have m2 : (p + 1) % len < len := Nat.mod_lt _ hl0
  have i1 : ((p : Int) % (len : Int)) < (len : Int) := by omega
  have q1 : (0 : Int) ≤ (p : Int) / (len : Int) := Int.ediv_nonneg (by omega) (by omega)
  have q2 : (p : Int) / (len : Int) ≤ 1000000000 := by
    have : p / len ≤ p := Nat.div_le_self _ _
    have e : ((p / len : Nat) : Int) = (p : Int) / (len : Int) := by simp
    omega
  have i2 : (((p : Int) + 1) % (len : Int)) < (len : Int) := Int.emod_lt_of_pos _ (by omega)
  have i3 : (0 : Int) ≤ ((p : Int) + 1) % (len : Int) := Int.emod_nonneg _ (by omega)
  have i4 : (0 : Int) ≤ (p : Int) % (len : Int) := Int.emod_nonneg _ (by omega)
  have hwr : IntKind.i64.wrap ((p : Int) + 1) = (p : Int) + 1 := by simp [IntKind.wrap, IntKind.bits, IntKind.signed]; omega
  clear e1 e2 hcode
  by_cases hbig : most ≤ 200
  · have d2 : decide ((200 : Int) < most) = false := by simp; omega
    go_enter Tryz.func36, Tryz.ntmps36
    go_wp2
    go_quiet (fail)
    go_wp2
    go_ret
    refine ⟨⟨((z1 : Int) + (p : Int) / (len : Int) * 37) % most, rfl, Int.emod_nonneg _ (by omega), Int.emod_lt_of_pos _ (by omega)⟩, ?_, ?_⟩
    · exact (by simpa using hS.step (p + 1) : SrcAt (w.setCell ⟨c, 1, none⟩ (.int .i64 ((p : Int) + 1))) c (some ⟨b, off, none⟩) len cap ((p + 1 : Nat) : Int) z)
    · exact grown_trans grown_set (grown_drewN _ _ _)
  · have d2 : decide ((200 : Int) < most) = true := by simp; omega
    go_enter Tryz.func36, Tryz.ntmps36
    go_wp2
    go_quiet (fail)
    go_wp2
    go_quiet (fail)
    go_wp2
    go_ret
    refine ⟨⟨_, rfl, ?_, ?_⟩, ?_, ?_⟩
    · exact Int.emod_nonneg _ (by omega)
    · exact Int.emod_lt_of_pos _ (by omega)
    · exact (by simpa using hS.step (p + 1) : SrcAt (w.setCell ⟨c, 1, none⟩ (.int .i64 ((p : Int) + 1))) c (some ⟨b, off, none⟩) len cap ((p + 1 : Nat) : Int) z)
    · exact grown_trans grown_set (grown_drewN _ _ _)

/-- A source of draws over a code in the old memory W0; p draws were made. -/
def Src (W0 w : World) (c : Nat) (a : Option Addr) (len cap p : Nat) : Prop :=
  (∃ z : Int, SrcAt w c a len cap p z ∧ 0 ≤ z ∧ z ≤ 12) ∧ CodeOk W0 a len ∧ len ≤ cap ∧ Below W0.heap.size W0 w ∧ W0.heap.size ≤ c
theorem Src.lt {W0 w : World} {c : Nat} {a : Option Addr} {len cap p : Nat} (h : Src W0 w c a len cap p) : c < w.heap.size := by
  obtain ⟨⟨z, hS, _⟩, _⟩ := h; exact Blk.lt hS
/-- The source stands where others turn. -/
theorem Src.far {W0 w w' : World} {c : Nat} {a : Option Addr} {len cap p : Nat} {r : Option Nat} (h : Src W0 w c a len cap p) (hg : w.grownBy w' r) (hne : some c ≠ r) (hr : ∀ g, r = some g → W0.heap.size ≤ g) : Src W0 w' c a len cap p := by
  have hl := h.lt
  obtain ⟨⟨z, hS, hz⟩, hc, hlc, hb, h0⟩ := h
  exact ⟨⟨z, Blk.far hS hg hl hne, hz⟩, hc, hlc, hb.grown hg hb.size hr, h0⟩
theorem Src.drewN {W0 w : World} {c : Nat} {a : Option Addr} {len cap p : Nat} (h : Src W0 w c a len cap p) (n : Nat) : Src W0 (w.drewN n) c a len cap p :=
  h.far (grown_drewN w n none) (by simp) (by intro g hg; cases hg)

theorem n_all (W0 w : World) (c : Nat) (a : Option Addr) (len cap p : Nat) (most : Int) (h : Src W0 w c a len cap p) (hp : p ≤ 1000000000) (hm : 1 ≤ most) (hm2 : most ≤ 9223372036854775807) :
    Calls Tryz.prog 36 #[.pointer (some ⟨c, 0, none⟩), .int .i64 most] w fun e w' => (∃ r : Int, e = .returned (.int .i64 r) ∧ 0 ≤ r ∧ r < most) ∧ Src W0 w' c a len cap (p + 1) ∧ w.grownBy w' (some c) := by
  obtain ⟨⟨z, hS, hz⟩, ⟨hlen, hcode⟩, hlc, hb, h0⟩ := h
  have fin : ∀ (e : Ending) (w' : World), Drawn w c a len cap p z most e w' → (∃ r : Int, e = .returned (.int .i64 r) ∧ 0 ≤ r ∧ r < most) ∧ Src W0 w' c a len cap (p + 1) ∧ w.grownBy w' (some c) := by
    intro e w' hd
    exact ⟨hd.1, ⟨⟨z, hd.2.1, hz⟩, ⟨hlen, hcode⟩, hlc, hb.grown hd.2.2 hb.size (by intro g hg; cases hg; exact h0), h0⟩, hd.2.2⟩
  by_cases hl : len = 0
  · subst hl
    exact (n_zero w c a cap p z most hS hp hm hm2).mono fun e w' hd => fin e w' hd
  · rcases hcode with h1 | ⟨b, off, rfl, hbl, hcells⟩
    · exact absurd h1 hl
    · exact (n_some W0 w c b off len cap p z most hS hp hm hm2 hlen (by omega) hbl hcells hb h0).mono fun e w' hd => fin e w' hd

set_option maxHeartbeats 400000 in
theorem one_all (W0 w : World) (c : Nat) (a : Option Addr) (len cap p : Nat) (most : Int) (h : Src W0 w c a len cap p) (hp : p ≤ 1000000000) (hm : 1 ≤ most) (hm2 : most ≤ 9223372036854775807) :
    Calls Tryz.prog 33 #[.pointer (some ⟨c, 0, none⟩), .int .i64 most] w fun e w' => (∃ b : Bool, e = .returned (.bool b)) ∧ Src W0 w' c a len cap (p + 1) ∧ w.grownBy w' (some c) := by
  go_enter Tryz.func33, Tryz.ntmps33
  go_wp2_with fail
  refine (n_all W0 w c a len cap p most h hp hm hm2).mono ?_
  rintro e w1 ⟨⟨r, rfl, hr0, hr1⟩, hs, hg⟩
  go_wp2
  go_ret
  exact ⟨⟨_, rfl⟩, hs, hg⟩

/-- Behind an append to a row of the call's own. -/
theorem src_append {W0 w w2 w3 : World} {c : Nat} {a : Option Addr} {len cap q : Nat} {e : TypeId} {k : IntKind} {v : Value} {xs : List Int} (hg : w.grownBy w2 (some c)) (hs : Src W0 w2 c a len cap q) (hown : OwnNums w2 w.heap.size e k v xs)
    (hc : c < w.heap.size) (h0 : W0.heap.size ≤ w.heap.size) (hg4 : w2.grownBy w3 v.ownBlock) : Src W0 w3 c a len cap q ∧ w.grownBy w3 (some c) :=
  ⟨hs.far hg4 (hown.ne hc) (fun g hv => Nat.le_trans h0 (World.ownsRow.lt hown g hv).1), grown_own hg hg4 (fun g hv => (World.ownsRow.lt hown g hv).1) (Nat.le_refl _)⟩
/-- A row of bytes, cut. -/
theorem conv_cut {P : Program} (w : World) (src e dst : TypeId) (hs : P.underlying src = some (.slice e)) (he : P.underlying e = some (.int .u8)) (hd : P.underlying dst = some .string)
    {base g n cap l : Nat} {xs : List Int} (hown : OwnNums w base e .u8 (.slice (some ⟨g, 0, none⟩) n cap) xs) (hl : l ≤ xs.length) :
    (convert src dst (.slice (some ⟨g, 0, none⟩) l cap)).run P w = .ok (.string (strOfNums (xs.take l))) w := by
  refine run_convert_bytes_arg w src e hs he g 0 l cap (xs.take l) (by simp; omega) ?_ dst hd
  intro i hi
  have hc := World.ownsRow.cells hown (g := g) rfl i (.int .u8 (xs.getD i 0)) (by
    rw [List.getElem?_map, List.getElem?_eq_getElem (by omega)]; simp [show i < xs.length by omega])
  have hp : (⟨g, 0, none⟩ : Addr).add i = ⟨g, 0 + i, none⟩ := by unfold Addr.add; split <;> simp_all
  rw [hp] at hc
  rw [hc]; simp [List.getElem?_take_of_lt hi]

set_option maxRecDepth 20000 in
set_option maxHeartbeats 4000000 in
theorem bytes_all (W0 w : World) (c : Nat) (a : Option Addr) (len cap p n : Nat) (h : Src W0 w c a len cap p) (hp : p ≤ 900000000) (hn : n ≤ 1000000) :
    Calls Tryz.prog 69 #[.pointer (some ⟨c, 0, none⟩), .int .i64 n] w fun e w' => (∃ t : ByteArray, e = .returned (.string t) ∧ t.size ≤ n) ∧ (∃ p', Src W0 w' c a len cap p' ∧ p' ≤ p + 1 + 2 * n) ∧ w.grownBy w' (some c) := by
  have hcl := h.lt
  have h0 := h.2.2.2.2
  have hw0 := h.2.2.2.1.size
  go_enter Tryz.func69, Tryz.ntmps69
  go_wp2_with fail
  have hs1 := h.far (World.grownBy_alloc w (.cells #[] 5) none) (by simp) (by intro g hg; cases hg)
  refine (n_all W0 _ c a len cap p 6 hs1 (by omega) (by omega) (by omega)).mono ?_
  rintro e w1 ⟨⟨kd, rfl, hk0, hk1⟩, hs2, hg2⟩
  have hown1 := (OwnNums.empty w 5 .u8).kept hg2 hcl
  have hgw : w.grownBy w1 (some c) := grown_trans (World.grownBy_alloc w _ _) hg2
  clear hs1 hg2
  go_wp2_with fail
  go_loopw [5, 7] (fun v i wr => ∃ (k q : Nat) (xs : List Int), k ≤ n ∧ i = .int .i64 k ∧ xs.length ≤ 3 * k ∧ q ≤ p + 1 + 2 * k ∧ OwnNums wr w.heap.size 5 .u8 v xs ∧ Src W0 wr c a len cap q ∧ w.grownBy wr (some c))
    (fun _ i _ => n - (intOf i).toNat)
  case atStart => exact ⟨0, p + 1, [], by omega, rfl, by simp, by omega, hown1, hs2, hgw⟩
  case round =>
    obtain ⟨k, q, xs, hk, rfl, hxl, hq, hown, hs, hg⟩ := hrel
    have HG := hid hg
    have hgs := hg.size
    clear hg hown1 hs2 hgw h
    by_cases hlt : k < n
    · rcases (by omega : kd = 0 ∨ kd = 1 ∨ kd = 2 ∨ 2 < kd) with rfl | rfl | rfl | hk2
      · go_wp2_with fail
        refine (n_all W0 _ c a len cap q 256 hs (by omega) (by omega) (by omega)).mono ?_
        rintro e w2 ⟨⟨r, rfl, hr0, hr1⟩, hs3, hg3⟩
        have hown3 := hown.kept hg3 hcl
        have HG3 := hid (grown_trans HG.out hg3)
        have HZ3 : Hid (w.heap.size ≤ w2.heap.size) := HG3.out.size
        clear hown hs hg3
        go_wp2_with (first | (at_builtin; refine append_num2 w.heap.size _ rfl (.tmp 25) (.tmp 29) 22 rfl 5 .u8 1 Tryz.underlying22 Tryz.info5 (by decide) _ xs _ rfl hown3 HZ3.out rfl ?_ ?_; omega))
        intro v' w3 hown4 hg4
        have hfin := src_append HG3.out hs3 hown3 hcl (Nat.le_trans h0 (by omega)) hg4
        clear hown3 hs3 hg4
        go_wp2
        go_roundw
        case rel => exact ⟨k + 1, q + 1, _, by omega, by go_num, by simp; omega, by omega, hown4, hfin.1, hfin.2⟩
        case measure => simp [intOf]; omega
      · go_wp2_with fail
        refine (n_all W0 _ c a len cap q 9 hs (by omega) (by omega) (by omega)).mono ?_
        rintro e w2 ⟨⟨r, rfl, hr0, hr1⟩, hs3, hg3⟩
        have hown3 := hown.kept hg3 hcl
        have HG3 := hid (grown_trans HG.out hg3)
        have HZ3 : Hid (w.heap.size ≤ w2.heap.size) := HG3.out.size
        clear hown hs hg3
        go_wp2_with (first | (at_builtin; refine append_num2 w.heap.size _ rfl (.tmp 33) (.tmp 37) 22 rfl 5 .u8 1 Tryz.underlying22 Tryz.info5 (by decide) _ xs _ rfl hown3 HZ3.out rfl ?_ ?_; omega))
        intro v' w3 hown4 hg4
        have hfin := src_append HG3.out hs3 hown3 hcl (Nat.le_trans h0 (by omega)) hg4
        clear hown3 hs3 hg4
        go_wp2
        go_roundw
        case rel => exact ⟨k + 1, q + 1, _, by omega, by go_num, by simp; omega, by omega, hown4, hfin.1, hfin.2⟩
        case measure => simp [intOf]; omega
      · go_wp2_with fail
        refine (one_all W0 _ c a len cap q 12 hs (by omega) (by omega) (by omega)).mono ?_
        rintro e w2 ⟨⟨b, rfl⟩, hs3, hg3⟩
        have hown3 := hown.kept hg3 hcl
        have HG3 := hid (grown_trans HG.out hg3)
        have HZ3 : Hid (w.heap.size ≤ w2.heap.size) := HG3.out.size
        clear hown hs hg3 HG
        cases b with
        | true =>
          go_wp2_with (first | (at_builtin; refine append_nums2 w.heap.size _ rfl (.tmp 43) (.tmp 44) 22 rfl 5 .u8 1 Tryz.underlying22 Tryz.info5 (by decide) _ xs [13, 10] 2 _ rfl rfl rfl hown3 HZ3.out rfl ?_ ?_; omega))
          intro v' w3 hown4 hg4
          have hfin := src_append HG3.out hs3 hown3 hcl (Nat.le_trans h0 (by omega)) hg4
          clear hown3 hs3 hg4
          go_wp2_with fail
          refine (n_all W0 _ c a len cap (q + 1) 95 hfin.1 (by omega) (by omega) (by omega)).mono ?_
          rintro e w4 ⟨⟨r, rfl, hr0, hr1⟩, hs5, hg5⟩
          have hown5 := hown4.kept hg5 hcl
          have HG5 := hid (grown_trans hfin.2 hg5)
          have HZ5 : Hid (w.heap.size ≤ w4.heap.size) := HG5.out.size
          clear hg5 hown4
          go_wp2_with (first | (at_builtin; refine append_num2 w.heap.size _ rfl (.tmp 46) (.tmp 51) 22 rfl 5 .u8 1 Tryz.underlying22 Tryz.info5 (by decide) _ (xs ++ [13, 10]) _ rfl hown5 HZ5.out rfl ?_ ?_; (simp; omega)))
          intro v'' w5 hown6 hg6
          have hfin2 := src_append HG5.out hs5 hown5 hcl (Nat.le_trans h0 (by omega)) hg6
          clear hown5 hs5 hg6
          go_wp2
          go_roundw
          case rel => exact ⟨k + 1, q + 2, _, by omega, by go_num, by simp; omega, by omega, hown6, hfin2.1, hfin2.2⟩
          case measure => simp [intOf]; omega
        | false =>
          go_wp2_with fail
          refine (n_all W0 _ c a len cap (q + 1) 95 hs3 (by omega) (by omega) (by omega)).mono ?_
          rintro e w4 ⟨⟨r, rfl, hr0, hr1⟩, hs5, hg5⟩
          have hown5 := hown3.kept hg5 hcl
          have HG5 := hid (grown_trans HG3.out hg5)
          have HZ5 : Hid (w.heap.size ≤ w4.heap.size) := HG5.out.size
          clear hg5 hown3
          go_wp2_with (first | (at_builtin; refine append_num2 w.heap.size _ rfl (.tmp 46) (.tmp 51) 22 rfl 5 .u8 1 Tryz.underlying22 Tryz.info5 (by decide) _ xs _ rfl hown5 HZ5.out rfl ?_ ?_; omega))
          intro v'' w5 hown6 hg6
          have hfin2 := src_append HG5.out hs5 hown5 hcl (Nat.le_trans h0 (by omega)) hg6
          clear hown5 hs5 hg6
          go_wp2
          go_roundw
          case rel => exact ⟨k + 1, q + 2, _, by omega, by go_num, by simp; omega, by omega, hown6, hfin2.1, hfin2.2⟩
          case measure => simp [intOf]; omega
      · have t0 : (kd == 0) = false := by simp; omega
        have t1 : (kd == 1) = false := by simp; omega
        have t2 : (kd == 2) = false := by simp; omega
        go_wp2_with fail
        refine (n_all W0 _ c a len cap q 23 hs (by omega) (by omega) (by omega)).mono ?_
        rintro e w2 ⟨⟨r, rfl, hr0, hr1⟩, hs3, hg3⟩
        have hown3 := hown.kept hg3 hcl
        have HG3 := hid (grown_trans HG.out hg3)
        have HZ3 : Hid (w.heap.size ≤ w2.heap.size) := HG3.out.size
        clear hown hs hg3
        go_wp2_with (first | (at_builtin; refine append_num2 w.heap.size _ rfl (.tmp 17) (.tmp 21) 22 rfl 5 .u8 1 Tryz.underlying22 Tryz.info5 (by decide) _ xs _ rfl hown3 HZ3.out rfl ?_ ?_; omega))
        intro v' w3 hown4 hg4
        have hfin := src_append HG3.out hs3 hown3 hcl (Nat.le_trans h0 (by omega)) hg4
        clear hown3 hs3 hg4
        go_wp2
        go_roundw
        case rel => exact ⟨k + 1, q + 1, _, by omega, by go_num, by simp; omega, by omega, hown4, hfin.1, hfin.2⟩
        case measure => simp [intOf]; omega
    · have hkn : k = n := by omega
      rcases hown.2 with ⟨rfl, hx0⟩ | ⟨g, cp, cur, rfl, _⟩
      · have hcv := conv_owned wr 22 5 9 Tryz.underlying22 Tryz.underlying5 Tryz.underlying9 hown
        have d1 : decide ((n : Int) < 0) = false := by simp
        go_wp2
        go_ret
        exact ⟨⟨_, rfl, by rw [strOfNums_size]; omega⟩, ⟨q, hs, by omega⟩, HG.out⟩
      · by_cases hcut : n < xs.length
        · have d1 : decide ((n : Int) < (xs.length : Int)) = true := by simp; omega
          have d2 : decide ((0 : Int) ≤ (n : Int)) = true := by simp
          have hcv := conv_cut wr 22 5 9 Tryz.underlying22 Tryz.underlying5 Tryz.underlying9 hown (l := n) (by omega)
          go_wp2
          go_ret
          exact ⟨⟨_, rfl, by rw [strOfNums_size]; simp; omega⟩, ⟨q, hs, by omega⟩, HG.out⟩
        · have d1 : decide ((n : Int) < (xs.length : Int)) = false := by simp; omega
          have hcv := conv_owned wr 22 5 9 Tryz.underlying22 Tryz.underlying5 Tryz.underlying9 hown
          go_wp2
          go_ret
          exact ⟨⟨_, rfl, by rw [strOfNums_size]; omega⟩, ⟨q, hs, by omega⟩, HG.out⟩
end Go.Proofs.YtepdodifgkejjaaGreatDoor
namespace Go.Proofs.YtepdodifgkejjaaGreatDoor
open Go.RowKit
set_option maxRecDepth 20000 in
set_option maxHeartbeats 1000000 in
theorem source_all (w : World) (a : Option Addr) (len cap : Nat) (hc : CodeOk w a len) (hlc : len ≤ cap) :
    Calls Tryz.prog 31 #[.slice a len cap] w fun e w' => e = .returned (.pointer (some ⟨w.heap.size, 0, none⟩)) ∧ Src w w' w.heap.size a len cap 0 ∧ Below w.heap.size w w' := by
  have hl := hc.1
  by_cases h12 : 12 < len / 16
  · have d0 : decide ((12 : Int) < (len : Int) / 16) = true := by simp; omega
    go_enter Tryz.func31, Tryz.ntmps31
    go_wp2
    go_ret
    exact ⟨rfl, ⟨⟨12, Blk.made w _ _, by omega, by omega⟩, hc, hlc, (Below.refl _ _).alloc (Nat.le_refl _) _, Nat.le_refl _⟩, (Below.refl _ _).alloc (Nat.le_refl _) _⟩
  · have d0 : decide ((12 : Int) < (len : Int) / 16) = false := by simp; omega
    go_enter Tryz.func31, Tryz.ntmps31
    go_wp2
    go_ret
    exact ⟨rfl, ⟨⟨(len : Int) / 16, Blk.made w _ _, by omega, by omega⟩, hc, hlc, (Below.refl _ _).alloc (Nat.le_refl _) _, Nat.le_refl _⟩, (Below.refl _ _).alloc (Nat.le_refl _) _⟩
end Go.Proofs.YtepdodifgkejjaaGreatDoor
namespace Go.Proofs.YtepdodifgkejjaaGreatDoor
open Go.RowKit
attribute [local go_sem ↓] Go.wp_at_zero Go.wp_at_succ
theorem grown_drewS (w : World) (r : Option Nat) : w.grownBy w.drew r := ⟨rfl, rfl, rfl, Nat.le_refl _, fun _ _ _ => rfl⟩
theorem Src.drew {W0 w : World} {c : Nat} {a : Option Addr} {len cap p : Nat} (h : Src W0 w c a len cap p) : Src W0 w.drew c a len cap p :=
  h.far (grown_drewS w none) (by simp) (by intro g hg; cases hg)
theorem Src.alloc {W0 w : World} {c : Nat} {a : Option Addr} {len cap p : Nat} (h : Src W0 w c a len cap p) (o : Obj) : Src W0 (w.alloc o) c a len cap p :=
  h.far (World.grownBy_alloc w o none) (by simp) (by intro g hg; cases hg)
/-- a byte that stands alone, as a text -/
theorem convG (w : World) (b : Nat) (d : Int) (h : w.cell? ⟨b, 0, none⟩ = some (.int .u8 d)) : (convert 22 9 (.slice (some ⟨b, 0, none⟩) 1 1)).run Tryz.prog w = .ok (.string (strOfNums [d])) w :=
  run_convert_bytes_arg (P := Tryz.prog) _ 22 5 Tryz.underlying22 Tryz.underlying5 b 0 1 1 [d] rfl (fun i hi => by
    have e : i = 0 := by omega
    subst e
    exact h) 9 Tryz.underlying9
theorem str1_size (d : Int) : (strOfNums [d]).size = 1 := by rw [strOfNums_size]; rfl
set_option maxRecDepth 20000 in
set_option maxHeartbeats 1000000 in
theorem dec1 (n : Nat) (hn : n < 10) (w : World) :
    Calls Tryz.prog 50 #[.int .i64 (n : Int)] w fun e w' => (∃ t : ByteArray, e = .returned (.string t) ∧ t.size = 1) ∧ Below w.heap.size w w' := by
  have d0 : ¬ (n : Int) < 0 := by omega
  have d1 : (n : Int) < 10 := by omega
  have B1 : Hid (∀ o, Below w.heap.size w (w.alloc o)) := fun o => (Below.refl _ w).alloc (Nat.le_refl _) _
  have cv := fun d => convG (w.alloc (.cells #[.int .u8 d] 5)) w.heap.size d ((RowAt.new w _ _).cell 0)
  go_enter Tryz.func50, Tryz.ntmps50
  go_wp2
  go_ret
  exact ⟨⟨_, rfl, str1_size _⟩, B1.out _⟩
theorem dec1z (z : Int) (n : Nat) (hz : z = (n : Int)) (hn : n < 10) (w : World) :
    Calls Tryz.prog 50 #[.int .i64 z] w fun e w' => (∃ t : ByteArray, e = .returned (.string t) ∧ t.size = 1) ∧ Below w.heap.size w w' := by subst hz; exact dec1 n hn w
set_option maxRecDepth 20000 in
set_option maxHeartbeats 400000 in
theorem dec_all (n : Nat) (hn : n < 100) (w : World) :
    Calls Tryz.prog 50 #[.int .i64 (n : Int)] w fun e w' => (∃ t : ByteArray, e = .returned (.string t) ∧ t.size ≤ 2) ∧ Below w.heap.size w w' := by
  by_cases h10 : n < 10
  · exact (dec1 n h10 w).mono fun e w' q => ⟨⟨q.1.choose, q.1.choose_spec.1, by have := q.1.choose_spec.2; omega⟩, q.2⟩
  have d0 : ¬ (n : Int) < 0 := by omega
  have d1 : ¬ (n : Int) < 10 := by omega
  obtain ⟨q, hq⟩ : ∃ q, q = n / 10 := ⟨_, rfl⟩
  have hq10 : q < 10 := by omega
  have e1 : (n : Int).tdiv 10 = (q : Int) := by rw [Int.tdiv_eq_ediv_of_nonneg (by omega)]; omega
  have e1' : (n : Int) / 10 = (q : Int) := by omega
  obtain ⟨r, hr⟩ : ∃ r, r = n % 10 := ⟨_, rfl⟩
  have hr10 : r < 10 := by omega
  have e2 : (n : Int).tmod 10 = (r : Int) := by rw [Int.tmod_eq_emod_of_nonneg (by omega)]; omega
  have e2' : (n : Int) % 10 = (r : Int) := by omega
  clear hq hr
  have B1 : Hid (∀ o, Below w.heap.size w (w.alloc o)) := fun o => (Below.refl _ w).alloc (Nat.le_refl _) _
  go_enter Tryz.func50, Tryz.ntmps50
  go_wp2_with fail
  have cvA : ∀ (W : World) d, (convert 22 9 (.slice (some ⟨W.heap.size, 0, none⟩) 1 1)).run Tryz.prog (W.alloc (.cells #[.int .u8 d] 5)) = .ok (.string (strOfNums [d])) (W.alloc (.cells #[.int .u8 d] 5)) := fun W d => convG _ W.heap.size d ((RowAt.new W _ _).cell 0)
  have cvB : ∀ (W : World) d, (convert 22 9 (.slice (some ⟨W.heap.size, 0, none⟩) 1 1)).run Tryz.prog (W.alloc (.cells #[.int .u8 d] 5)).drew = .ok (.string (strOfNums [d])) (W.alloc (.cells #[.int .u8 d] 5)).drew := fun W d => convG _ W.heap.size d ((RowAt.new W _ _).cell 0)
  go_region_with ((go_at_call 50; refine (dec1z _ q (by first | rfl | exact e1 | (rw [e1]; rfl) | (rw [e1, IntKind.wrap_i64]; omega) | (rw [IntKind.wrap_i64]; omega)) hq10 _).mono ?_; rintro e w2 ⟨⟨t, rfl, ht⟩, hb2⟩; have z1 : ∀ d, ¬ 9223372036854775807 < t.size + (strOfNums [d]).size := (fun d => by rw [str1_size]; omega); (first | have cvC := convG w2 w.heap.size _ ((hb2.cell (p := ⟨w.heap.size, 0, none⟩) (by simp)).trans ((RowAt.new w 5 #[_]).cell 0)) | skip)))
  all_goals go_wp2
  all_goals go_ret
  all_goals refine ⟨⟨_, rfl, by rw [ByteArray.size_append, str1_size]; omega⟩, ?_⟩
  all_goals first
    | exact ((Below.refl _ w).drew.trans hb2).alloc (((Below.refl _ w).drew.trans hb2).size) _
    | exact ((B1.out _).drew.trans (hb2.mono (B1.out _).drew.size))
    | exact ((B1.out _).trans (hb2.mono (B1.out _).size))
theorem Tryz.infoU8 : (Tryz.prog.info? 5).map (fun i => (i.zero, i.size, i.bytes)) = some (some (.int .u8 0), 1, 1) := by kernel_rfl
set_option maxRecDepth 20000 in
set_option maxHeartbeats 1000000 in
theorem word_all (W0 w : World) (c : Nat) (a : Option Addr) (len cap p : Nat) (h : Src W0 w c a len cap p) (hp : p ≤ 1000000) :
    Calls Tryz.prog 68 #[.pointer (some ⟨c, 0, none⟩)] w fun e w' => (∃ t : ByteArray, e = .returned (.string t) ∧ t.size ≤ 6) ∧ (∃ p', Src W0 w' c a len cap p' ∧ p' ≤ p + 7) ∧ w.grownBy w' (some c) := by
  have hcl := h.lt
  have h0c := h.2.2.2.2
  have S0 : Hid (Src W0 (w.alloc (.cells #[] 5)) c a len cap p) := h.alloc _
  have O0 : Hid (OwnNums (w.alloc (.cells #[] 5)) w.heap.size 5 .u8 (.slice (some ⟨w.heap.size, 0, none⟩) 0 0) []) := OwnNums.empty w _ _
  have G0 : Hid (w.grownBy (w.alloc (.cells #[] 5)) (some c)) := World.grownBy_alloc w _ _
  clear h
  go_enter Tryz.func68, Tryz.ntmps68
  go_wp2_with fail
  refine (n_all W0 _ c a len cap p 6 S0.out (by omega) (by omega) (by omega)).mono ?_
  rintro e w1 ⟨⟨r, rfl, hr0, hr1⟩, hs1, hg1⟩
  obtain ⟨R, rfl⟩ := Int.eq_ofNat_of_zero_le hr0
  have S1 := hid hs1
  have O1 := hid (O0.out.kept hg1 hcl)
  have G1 := hid (grown_trans G0.out hg1)
  clear hs1 hg1 S0 O0 G0
  go_wp2_with fail
  go_loopw [3, 4] (fun v q wr => ∃ (k pp : Nat) (xs : List Int), k ≤ R + 1 ∧ q = .int .i64 (k : Int) ∧ xs.length + k = R + 1 ∧ pp + k = p + 1 + (R + 1) ∧ OwnNums wr w.heap.size 5 .u8 v xs ∧ Src W0 wr c a len cap pp ∧ w.grownBy wr (some c)) (fun _ q _ => (intOf q).toNat)
  case atStart => exact ⟨R + 1, p + 1, [], Nat.le_refl _, by go_num, by simp, by omega, O1.out, S1.out, G1.out⟩
  case round =>
    obtain ⟨k, pp, xs, hk, rfl, hxk, hpk, hO, hS, hG⟩ := hrel
    have HO := hid hO
    have HS := hid hS
    have HG := hid hG
    clear hO hS hG
    have hR6 : R < 6 := by omega
    by_cases hlt : 0 < k
    · have d0 : (0 : Int) < (k : Int) := by omega
      go_wp2_with fail
      refine (n_all W0 _ c a len cap pp 26 HS.out (by omega) (by omega) (by omega)).mono ?_
      rintro e w2 ⟨⟨r2, rfl, hr20, hr21⟩, hs2, hg2⟩
      obtain ⟨T, rfl⟩ := Int.eq_ofNat_of_zero_le hr20
      have hT : T < 26 := by omega
      have S2 := hid hs2
      have O2 := hid (HO.out.kept hg2 hcl)
      have G2 := hid (grown_trans HG.out hg2)
      have Z2 : Hid (w.heap.size ≤ w2.heap.size) := G2.out.size
      clear hs2 hg2
      go_wp2_with (at_builtin; refine append_num2 w.heap.size w2 rfl (.tmp 13) (.tmp 17) 22 rfl 5 .u8 1 Tryz.underlying22 Tryz.infoU8 (by decide) _ xs _ rfl O2.out Z2.out rfl (by omega) ?_; intro v' w3 ho3 hg3)
      have S3 : Hid (Src W0 w3 c a len cap (pp + 1)) := S2.out.far hg3 (fun e => by have := (World.ownsRow.lt O2.out _ e.symm).1; omega) (fun g hg => by have := (World.ownsRow.lt O2.out _ hg).1; omega)
      have G3 : Hid (w.grownBy w3 (some c)) := grown_own G2.out hg3 (fun g hg => (World.ownsRow.lt O2.out _ hg).1) (Nat.le_refl _)
      have O3 := hid ho3
      clear ho3 hg3
      go_wp2
      go_roundw
      case rel => exact ⟨k - 1, pp + 1, _, by omega, by go_num, by rw [List.length_append]; simp; omega, by omega, O3.out, S3.out, G3.out⟩
      case measure => simp [intOf]; omega
    · have d0 : ¬ (0 : Int) < (k : Int) := by omega
      have hcv := conv_owned wr 22 5 9 Tryz.underlying22 Tryz.underlying5 Tryz.underlying9 HO.out
      go_wp2
      go_ret
      exact ⟨⟨_, rfl, by rw [strOfNums_size]; omega⟩, ⟨pp, HS.out, by omega⟩, HG.out⟩
end Go.Proofs.YtepdodifgkejjaaGreatDoor
namespace Go.Proofs.YtepdodifgkejjaaGreatDoor
open Go.RowKit
/-! What the draws want: slots that may have come up, rows that stay. -/
def sel (b : Bool) (v o : Value) : Value := cond b v o
theorem rowF {w w' : World} {b c : Nat} {t : TypeId} {cs : Array Value} (h : RowAt w b t cs) (hg : w.grownBy w' (some c)) (hn : c < b) : RowAt w' b t cs := (hg.block b h.lt (fun e => by cases e; omega)).trans h
theorem grown_setCellF (w : World) (b k : Nat) (v : Value) : w.grownBy (w.setCell ⟨b, k, none⟩ v) (some b) :=
  ⟨rfl, rfl, rfl, by simp, fun j _ hj => heap_setCell_other w ⟨b, k, none⟩ j v (fun e => hj (by rw [e]))⟩
theorem Src.set {W0 w : World} {c : Nat} {a : Option Addr} {len cap p : Nat} (h : Src W0 w c a len cap p) {b : Nat} (hb : c < b) (k : Nat) (v : Value) : Src W0 (w.setCell ⟨b, k, none⟩ v) c a len cap p :=
  h.far (grown_setCellF w b k v) (fun e => by cases e; omega) (fun g hg => by cases hg; have := h.2.2.2.2; omega)
/-- what grew from X on is not touched by a store into a block that X had not -/
theorem grown_far {X w : World} {r : Option Nat} (h : X.grownBy w r) {b : Nat} (hb : X.heap.size ≤ b) (k : Nat) (v : Value) : X.grownBy (w.setCell ⟨b, k, none⟩ v) r :=
  ⟨h.os, h.tape, h.output, by simp [h.size], fun j hj hr => (heap_setCell_other w ⟨b, k, none⟩ j v (by simp; omega)).trans (h.block j hj hr)⟩
theorem grown_al {X w : World} {r : Option Nat} (h : X.grownBy w r) (o : Obj) : X.grownBy (w.alloc o) r := grown_trans h (World.grownBy_alloc w o r)
theorem Src.belowD {W0 w w' : World} {c : Nat} {a : Option Addr} {len cap p : Nat} (h : Src W0 w c a len cap p) (hb : Below w.heap.size w w') : Src W0 w' c a len cap p :=
  h.far (below_grown hb none) (by simp) (by intro g hg; cases hg)
theorem RowAt.nxD {X w1 : World} {b : Nat} {t : TypeId} {c : Array Value} (hb : Below X.heap.size X w1) (h : RowAt X b t c) : RowAt w1 b t c := h.below hb h.lt
theorem rowF2 {w w' : World} {b c : Nat} {t : TypeId} {cs : Array Value} (h : RowAt w b t cs) (hg : w.grownBy w' (some c)) (hn : c ≠ b) : RowAt w' b t cs := (hg.block b h.lt (fun e => by cases e; exact hn rfl)).trans h
theorem grown_setRowD {X w : World} {r : Option Nat} (h : X.grownBy w r) {b : Nat} (hb : X.heap.size ≤ b) (c : Array Value) : X.grownBy (w.setRow b c) r :=
  ⟨h.os, h.tape, h.output, by simp [World.setRow, h.size], fun j hj hr => (setRow_other w b j c (by omega)).trans (h.block j hj hr)⟩
theorem Src.setRowD {W0 w : World} {c : Nat} {a : Option Addr} {len cap p : Nat} (h : Src W0 w c a len cap p) {b : Nat} (hb : c < b) (cs : Array Value) : Src W0 (w.setRow b cs) c a len cap p :=
  h.far (r := some b) ⟨rfl, rfl, rfl, by simp [World.setRow], fun j _ hr => setRow_other w b j cs (fun e => hr (by rw [e]))⟩ (fun e => by cases e; omega) (fun g hg => by cases hg; have := h.2.2.2.2; omega)
end Go.Proofs.YtepdodifgkejjaaGreatDoor
namespace Go.Proofs.YtepdodifgkejjaaGreatDoor
open Go.RowKit
/-! The specification's l10First. -/
theorem Tryz.infoHpF : (Tryz.prog.info? 66).map (fun i => (i.zero, i.size, i.bytes)) = some (some hz2, 2, 32) := by kernel_rfl
theorem OwnHp.setRow {w : World} {base b : Nat} {v : Value} {L : List Hp} (h : OwnHp w base v L) (hb : b < base) (c : Array Value) : OwnHp (w.setRow b c) base v L := by
  refine ⟨h.1, ?_⟩
  rcases h.2 with h2 | ⟨g, cap, cur, e1, e2, e3, e4⟩
  · exact .inl h2
  · exact .inr ⟨g, cap, cur, e1, e2, by rw [setRow_other w b g c (by omega)]; exact e3, e4⟩
end Go.Proofs.YtepdodifgkejjaaGreatDoor
namespace Go.Proofs.YtepdodifgkejjaaGreatDoor
open Go.RowKit
/-! Requests read: what comes of it. -/
section
variable {m p : ByteArray} {Q H : List Hp} {f line : Nat} {R t R' : List UInt8}
end
end Go.Proofs.YtepdodifgkejjaaGreatDoor
