import Derived.Test.YtngkiokibldfjaaGreatDoorPC
import Derived.Test.YtngkiokibldfjaaGreatDoorProg
import Derived.Test.YtngkiokibldfjaaGreatDoorBase
import Derived.WalkLawsBesides
import Derived.WalkSpells
import Derived.OpenShut
import Derived.Laws.BitsAllLaws
import Derived.Test.YtngkiokibldfjaaGreatDoorCode
import Derived.BigQuiet
import Derived.Deep.QuietTactic
namespace Go.Proofs.YtngkiokibldfjaaGreatDoor
open Go.RowKit
/-! The source of draws: a block of three cells: the code, the place, the size. -/
def SrcAt (w : World) (c : Nat) (a : Option Addr) (len cap : Nat) (p z : Int) : Prop := Blk w c #[.slice a len cap, .int .i64 p, .int .i64 z] 80
theorem SrcAt.step {w : World} {c : Nat} {a : Option Addr} {len cap : Nat} {p z : Int} (h : SrcAt w c a len cap p z) (q : Int) : SrcAt (w.setCell ⟨c, 1, none⟩ (.int .i64 q)) c a len cap q z := Blk.set h 1 (.int .i64 q)

/-- What a draw leaves: a number below 'most'; the place one on; nothing else has turned. -/
def Drawn (w : World) (c : Nat) (a : Option Addr) (len cap p : Nat) (z most : Int) (e : Ending) (w' : World) : Prop :=
  (∃ r : Int, e = .returned (.int .i64 r) ∧ 0 ≤ r ∧ r < most) ∧ SrcAt w' c a len cap ((p + 1 : Nat) : Int) z ∧ w.grownBy w' (some c)

set_option maxRecDepth 20000 in
set_option maxHeartbeats 2000000 in
theorem n_zero (w : World) (c : Nat) (a : Option Addr) (cap : Nat) (p : Nat) (z most : Int) (hS : SrcAt w c a 0 cap p z) (hp : p ≤ 1000000000) (hm : 1 ≤ most) (hm2 : most ≤ 9223372036854775807) :
    Calls Tryz.prog 31 #[.pointer (some ⟨c, 0, none⟩), .int .i64 most] w (Drawn w c a 0 cap p z most) := by
  have h0 := hS.cell 0 _ rfl
  have h1 := hS.cell 1 _ rfl
  have f1 := hS.free 1
  have d0 : decide (most < 1) = false := by simp; omega
  go_enter Tryz.func31, Tryz.ntmps31
  go_wp2
  go_ret
  exact ⟨⟨(p : Int) * 7 % most, rfl, Int.emod_nonneg _ (by omega), Int.emod_lt_of_pos _ (by omega)⟩, by simpa using hS.step (p + 1), grown_set⟩

set_option maxRecDepth 20000 in
set_option maxHeartbeats 2000000 in
theorem n_some (W0 w : World) (c b off len cap : Nat) (p : Nat) (z most : Int) (hS : SrcAt w c (some ⟨b, off, none⟩) len cap p z) (hp : p ≤ 1000000000) (hm : 1 ≤ most) (hm2 : most ≤ 9223372036854775807)
    (hlen : len ≤ 1048576) (hl0 : 0 < len) (hb : b < W0.heap.size) (hcode : ∀ i, i < len → ∃ z : Nat, z < 256 ∧ W0.cell? ⟨b, off + i, none⟩ = some (.int .u8 z)) (hbel : Below W0.heap.size W0 w) (hc : W0.heap.size ≤ c) :
    Calls Tryz.prog 31 #[.pointer (some ⟨c, 0, none⟩), .int .i64 most] w (Drawn w c (some ⟨b, off, none⟩) len cap p z most) := by
  have h0 := hS.cell 0 _ rfl
  have h1 := hS.cell 1 _ rfl
  have f1 := hS.free 1
  have d0 : decide (most < 1) = false := by simp; omega
  have d1 : ((len : Int) == 0) = false := by simp; omega
  have hne : b ≠ c := by omega
  obtain ⟨z1, hz1, e1⟩ := hcode (p % len) (Nat.mod_lt _ hl0)
  obtain ⟨z2, hz2, e2⟩ := hcode ((p + 1) % len) (Nat.mod_lt _ hl0)
  have g1 : w.cell? ⟨b, off + p % len, none⟩ = some (.int .u8 z1) := (hbel.cell (p := ⟨b, off + p % len, none⟩) hb).trans e1
  have g2 : w.cell? ⟨b, off + (p + 1) % len, none⟩ = some (.int .u8 z2) := (hbel.cell (p := ⟨b, off + (p + 1) % len, none⟩) hb).trans e2
  have m1 : p % len < len := Nat.mod_lt _ hl0
  have m2 : (p + 1) % len < len := Nat.mod_lt _ hl0
  have i1 : ((p : Int) % (len : Int)) < (len : Int) := by omega
  have q1 : (0 : Int) ≤ (p : Int) / (len : Int) := Int.ediv_nonneg (by omega) (by omega)
  have q2 : (p : Int) / (len : Int) ≤ 1000000000 := by
    have : p / len ≤ p := Nat.div_le_self _ _
    have e : ((p / len : Nat) : Int) = (p : Int) / (len : Int) := by simp
    omega
  have i2 : (((p : Int) + 1) % (len : Int)) < (len : Int) := Int.emod_lt_of_pos _ (by omega)
  have i3 : (0 : Int) ≤ ((p : Int) + 1) % (len : Int) := Int.emod_nonneg _ (by omega)
  have i4 : (0 : Int) ≤ (p : Int) % (len : Int) := Int.emod_nonneg _ (by omega)
  have hwr : IntKind.i64.wrap ((p : Int) + 1) = (p : Int) + 1 := by simp [IntKind.wrap, IntKind.bits, IntKind.signed]; omega
  clear e1 e2 hcode
  by_cases hbig : most ≤ 200
  · have d2 : decide ((200 : Int) < most) = false := by simp; omega
    go_enter Tryz.func31, Tryz.ntmps31
    go_wp2
    go_quiet (fail)
    go_wp2
    go_ret
    refine ⟨⟨((z1 : Int) + (p : Int) / (len : Int) * 37) % most, rfl, Int.emod_nonneg _ (by omega), Int.emod_lt_of_pos _ (by omega)⟩, ?_, ?_⟩
    · exact (by simpa using hS.step (p + 1) : SrcAt (w.setCell ⟨c, 1, none⟩ (.int .i64 ((p : Int) + 1))) c (some ⟨b, off, none⟩) len cap ((p + 1 : Nat) : Int) z)
    · exact grown_trans grown_set (grown_drewN _ _ _)
  · have d2 : decide ((200 : Int) < most) = true := by simp; omega
    go_enter Tryz.func31, Tryz.ntmps31
    go_wp2
    go_quiet (fail)
    go_wp2
    go_quiet (fail)
    go_wp2
    go_ret
    refine ⟨⟨_, rfl, ?_, ?_⟩, ?_, ?_⟩
    · exact Int.emod_nonneg _ (by omega)
    · exact Int.emod_lt_of_pos _ (by omega)
    · exact (by simpa using hS.step (p + 1) : SrcAt (w.setCell ⟨c, 1, none⟩ (.int .i64 ((p : Int) + 1))) c (some ⟨b, off, none⟩) len cap ((p + 1 : Nat) : Int) z)
    · exact grown_trans grown_set (grown_drewN _ _ _)

/-- A source of draws over a code in the old memory W0; p draws were made. -/
def Src (W0 w : World) (c : Nat) (a : Option Addr) (len cap p : Nat) : Prop :=
  (∃ z : Int, SrcAt w c a len cap p z ∧ 0 ≤ z ∧ z ≤ 12) ∧ CodeOk W0 a len ∧ len ≤ cap ∧ Below W0.heap.size W0 w ∧ W0.heap.size ≤ c
theorem Src.lt {W0 w : World} {c : Nat} {a : Option Addr} {len cap p : Nat} (h : Src W0 w c a len cap p) : c < w.heap.size := by
  obtain ⟨⟨z, hS, _⟩, _⟩ := h; exact Blk.lt hS
/-- The source stands where others turn. -/
theorem Src.far {W0 w w' : World} {c : Nat} {a : Option Addr} {len cap p : Nat} {r : Option Nat} (h : Src W0 w c a len cap p) (hg : w.grownBy w' r) (hne : some c ≠ r) (hr : ∀ g, r = some g → W0.heap.size ≤ g) : Src W0 w' c a len cap p := by
  have hl := h.lt
  obtain ⟨⟨z, hS, hz⟩, hc, hlc, hb, h0⟩ := h
  exact ⟨⟨z, Blk.far hS hg hl hne, hz⟩, hc, hlc, hb.grown hg hb.size hr, h0⟩
theorem Src.drewN {W0 w : World} {c : Nat} {a : Option Addr} {len cap p : Nat} (h : Src W0 w c a len cap p) (n : Nat) : Src W0 (w.drewN n) c a len cap p :=
  h.far (grown_drewN w n none) (by simp) (by intro g hg; cases hg)

theorem n_all (W0 w : World) (c : Nat) (a : Option Addr) (len cap p : Nat) (most : Int) (h : Src W0 w c a len cap p) (hp : p ≤ 1000000000) (hm : 1 ≤ most) (hm2 : most ≤ 9223372036854775807) :
    Calls Tryz.prog 31 #[.pointer (some ⟨c, 0, none⟩), .int .i64 most] w fun e w' => (∃ r : Int, e = .returned (.int .i64 r) ∧ 0 ≤ r ∧ r < most) ∧ Src W0 w' c a len cap (p + 1) ∧ w.grownBy w' (some c) := by
  obtain ⟨⟨z, hS, hz⟩, ⟨hlen, hcode⟩, hlc, hb, h0⟩ := h
  have fin : ∀ (e : Ending) (w' : World), Drawn w c a len cap p z most e w' → (∃ r : Int, e = .returned (.int .i64 r) ∧ 0 ≤ r ∧ r < most) ∧ Src W0 w' c a len cap (p + 1) ∧ w.grownBy w' (some c) := by
    intro e w' hd
    exact ⟨hd.1, ⟨⟨z, hd.2.1, hz⟩, ⟨hlen, hcode⟩, hlc, hb.grown hd.2.2 hb.size (by intro g hg; cases hg; exact h0), h0⟩, hd.2.2⟩
  by_cases hl : len = 0
  · subst hl
    exact (n_zero w c a cap p z most hS hp hm hm2).mono fun e w' hd => fin e w' hd
  · rcases hcode with h1 | ⟨b, off, rfl, hbl, hcells⟩
    · exact absurd h1 hl
    · exact (n_some W0 w c b off len cap p z most hS hp hm hm2 hlen (by omega) hbl hcells hb h0).mono fun e w' hd => fin e w' hd

set_option maxHeartbeats 400000 in
theorem one_all (W0 w : World) (c : Nat) (a : Option Addr) (len cap p : Nat) (most : Int) (h : Src W0 w c a len cap p) (hp : p ≤ 1000000000) (hm : 1 ≤ most) (hm2 : most ≤ 9223372036854775807) :
    Calls Tryz.prog 29 #[.pointer (some ⟨c, 0, none⟩), .int .i64 most] w fun e w' => (∃ b : Bool, e = .returned (.bool b)) ∧ Src W0 w' c a len cap (p + 1) ∧ w.grownBy w' (some c) := by
  go_enter Tryz.func29, Tryz.ntmps29
  go_wp2_with fail
  refine (n_all W0 w c a len cap p most h hp hm hm2).mono ?_
  rintro e w1 ⟨⟨r, rfl, hr0, hr1⟩, hs, hg⟩
  go_wp2
  go_ret
  exact ⟨⟨_, rfl⟩, hs, hg⟩

/-- Behind an append to a row of the call's own. -/
theorem src_append {W0 w w2 w3 : World} {c : Nat} {a : Option Addr} {len cap q : Nat} {e : TypeId} {k : IntKind} {v : Value} {xs : List Int} (hg : w.grownBy w2 (some c)) (hs : Src W0 w2 c a len cap q) (hown : OwnNums w2 w.heap.size e k v xs)
    (hc : c < w.heap.size) (h0 : W0.heap.size ≤ w.heap.size) (hg4 : w2.grownBy w3 v.ownBlock) : Src W0 w3 c a len cap q ∧ w.grownBy w3 (some c) :=
  ⟨hs.far hg4 (hown.ne hc) (fun g hv => Nat.le_trans h0 (World.ownsRow.lt hown g hv).1), grown_own hg hg4 (fun g hv => (World.ownsRow.lt hown g hv).1) (Nat.le_refl _)⟩
/-- A row of bytes, cut. -/
theorem conv_cut {P : Program} (w : World) (src e dst : TypeId) (hs : P.underlying src = some (.slice e)) (he : P.underlying e = some (.int .u8)) (hd : P.underlying dst = some .string)
    {base g n cap l : Nat} {xs : List Int} (hown : OwnNums w base e .u8 (.slice (some ⟨g, 0, none⟩) n cap) xs) (hl : l ≤ xs.length) :
    (convert src dst (.slice (some ⟨g, 0, none⟩) l cap)).run P w = .ok (.string (strOfNums (xs.take l))) w := by
  refine run_convert_bytes_arg w src e hs he g 0 l cap (xs.take l) (by simp; omega) ?_ dst hd
  intro i hi
  have hc := World.ownsRow.cells hown (g := g) rfl i (.int .u8 (xs.getD i 0)) (by
    rw [List.getElem?_map, List.getElem?_eq_getElem (by omega)]; simp [show i < xs.length by omega])
  have hp : (⟨g, 0, none⟩ : Addr).add i = ⟨g, 0 + i, none⟩ := by unfold Addr.add; split <;> simp_all
  rw [hp] at hc
  rw [hc]; simp [List.getElem?_take_of_lt hi]

set_option maxRecDepth 20000 in
set_option maxHeartbeats 4000000 in
theorem bytes_all (W0 w : World) (c : Nat) (a : Option Addr) (len cap p n : Nat) (h : Src W0 w c a len cap p) (hp : p ≤ 900000000) (hn : n ≤ 1000000) :
    Calls Tryz.prog 59 #[.pointer (some ⟨c, 0, none⟩), .int .i64 n] w fun e w' => (∃ t : ByteArray, e = .returned (.string t) ∧ t.size ≤ n) ∧ (∃ p', Src W0 w' c a len cap p' ∧ p' ≤ p + 1 + 2 * n) ∧ w.grownBy w' (some c) := by
  have hcl := h.lt
  have h0 := h.2.2.2.2
  have hw0 := h.2.2.2.1.size
  go_enter Tryz.func59, Tryz.ntmps59
  go_wp2_with fail
  have hs1 := h.far (World.grownBy_alloc w (.cells #[] 5) none) (by simp) (by intro g hg; cases hg)
  refine (n_all W0 _ c a len cap p 6 hs1 (by omega) (by omega) (by omega)).mono ?_
  rintro e w1 ⟨⟨kd, rfl, hk0, hk1⟩, hs2, hg2⟩
  have hown1 := (OwnNums.empty w 5 .u8).kept hg2 hcl
  have hgw : w.grownBy w1 (some c) := grown_trans (World.grownBy_alloc w _ _) hg2
  clear hs1 hg2
  go_wp2_with fail
  go_loopw [5, 7] (fun v i wr => ∃ (k q : Nat) (xs : List Int), k ≤ n ∧ i = .int .i64 k ∧ xs.length ≤ 3 * k ∧ q ≤ p + 1 + 2 * k ∧ OwnNums wr w.heap.size 5 .u8 v xs ∧ Src W0 wr c a len cap q ∧ w.grownBy wr (some c))
    (fun _ i _ => n - (intOf i).toNat)
  case atStart => exact ⟨0, p + 1, [], by omega, rfl, by simp, by omega, hown1, hs2, hgw⟩
  case round =>
    obtain ⟨k, q, xs, hk, rfl, hxl, hq, hown, hs, hg⟩ := hrel
    have HG := hid hg
    have hgs := hg.size
    clear hg hown1 hs2 hgw h
    by_cases hlt : k < n
    · rcases (by omega : kd = 0 ∨ kd = 1 ∨ kd = 2 ∨ 2 < kd) with rfl | rfl | rfl | hk2
      · go_wp2_with fail
        refine (n_all W0 _ c a len cap q 256 hs (by omega) (by omega) (by omega)).mono ?_
        rintro e w2 ⟨⟨r, rfl, hr0, hr1⟩, hs3, hg3⟩
        have hown3 := hown.kept hg3 hcl
        have HG3 := hid (grown_trans HG.out hg3)
        have HZ3 : Hid (w.heap.size ≤ w2.heap.size) := HG3.out.size
        clear hown hs hg3
        go_wp2_with (first | (at_builtin; refine append_num2 w.heap.size _ rfl (.tmp 25) (.tmp 29) 22 rfl 5 .u8 1 Tryz.underlying22 Tryz.info5 (by decide) _ xs _ rfl hown3 HZ3.out rfl ?_ ?_; omega))
        intro v' w3 hown4 hg4
        have hfin := src_append HG3.out hs3 hown3 hcl (Nat.le_trans h0 (by omega)) hg4
        clear hown3 hs3 hg4
        go_wp2
        go_roundw
        case rel => exact ⟨k + 1, q + 1, _, by omega, by go_num, by simp; omega, by omega, hown4, hfin.1, hfin.2⟩
        case measure => simp [intOf]; omega
      · go_wp2_with fail
        refine (n_all W0 _ c a len cap q 9 hs (by omega) (by omega) (by omega)).mono ?_
        rintro e w2 ⟨⟨r, rfl, hr0, hr1⟩, hs3, hg3⟩
        have hown3 := hown.kept hg3 hcl
        have HG3 := hid (grown_trans HG.out hg3)
        have HZ3 : Hid (w.heap.size ≤ w2.heap.size) := HG3.out.size
        clear hown hs hg3
        go_wp2_with (first | (at_builtin; refine append_num2 w.heap.size _ rfl (.tmp 33) (.tmp 37) 22 rfl 5 .u8 1 Tryz.underlying22 Tryz.info5 (by decide) _ xs _ rfl hown3 HZ3.out rfl ?_ ?_; omega))
        intro v' w3 hown4 hg4
        have hfin := src_append HG3.out hs3 hown3 hcl (Nat.le_trans h0 (by omega)) hg4
        clear hown3 hs3 hg4
        go_wp2
        go_roundw
        case rel => exact ⟨k + 1, q + 1, _, by omega, by go_num, by simp; omega, by omega, hown4, hfin.1, hfin.2⟩
        case measure => simp [intOf]; omega
      · go_wp2_with fail
        refine (one_all W0 _ c a len cap q 12 hs (by omega) (by omega) (by omega)).mono ?_
        rintro e w2 ⟨⟨b, rfl⟩, hs3, hg3⟩
        have hown3 := hown.kept hg3 hcl
        have HG3 := hid (grown_trans HG.out hg3)
        have HZ3 : Hid (w.heap.size ≤ w2.heap.size) := HG3.out.size
        clear hown hs hg3 HG
        cases b with
        | true =>
          go_wp2_with (first | (at_builtin; refine append_nums2 w.heap.size _ rfl (.tmp 43) (.tmp 44) 22 rfl 5 .u8 1 Tryz.underlying22 Tryz.info5 (by decide) _ xs [13, 10] 2 _ rfl rfl rfl hown3 HZ3.out rfl ?_ ?_; omega))
          intro v' w3 hown4 hg4
          have hfin := src_append HG3.out hs3 hown3 hcl (Nat.le_trans h0 (by omega)) hg4
          clear hown3 hs3 hg4
          go_wp2_with fail
          refine (n_all W0 _ c a len cap (q + 1) 95 hfin.1 (by omega) (by omega) (by omega)).mono ?_
          rintro e w4 ⟨⟨r, rfl, hr0, hr1⟩, hs5, hg5⟩
          have hown5 := hown4.kept hg5 hcl
          have HG5 := hid (grown_trans hfin.2 hg5)
          have HZ5 : Hid (w.heap.size ≤ w4.heap.size) := HG5.out.size
          clear hg5 hown4
          go_wp2_with (first | (at_builtin; refine append_num2 w.heap.size _ rfl (.tmp 46) (.tmp 51) 22 rfl 5 .u8 1 Tryz.underlying22 Tryz.info5 (by decide) _ (xs ++ [13, 10]) _ rfl hown5 HZ5.out rfl ?_ ?_; (simp; omega)))
          intro v'' w5 hown6 hg6
          have hfin2 := src_append HG5.out hs5 hown5 hcl (Nat.le_trans h0 (by omega)) hg6
          clear hown5 hs5 hg6
          go_wp2
          go_roundw
          case rel => exact ⟨k + 1, q + 2, _, by omega, by go_num, by simp; omega, by omega, hown6, hfin2.1, hfin2.2⟩
          case measure => simp [intOf]; omega
        | false =>
          go_wp2_with fail
          refine (n_all W0 _ c a len cap (q + 1) 95 hs3 (by omega) (by omega) (by omega)).mono ?_
          rintro e w4 ⟨⟨r, rfl, hr0, hr1⟩, hs5, hg5⟩
          have hown5 := hown3.kept hg5 hcl
          have HG5 := hid (grown_trans HG3.out hg5)
          have HZ5 : Hid (w.heap.size ≤ w4.heap.size) := HG5.out.size
          clear hg5 hown3
          go_wp2_with (first | (at_builtin; refine append_num2 w.heap.size _ rfl (.tmp 46) (.tmp 51) 22 rfl 5 .u8 1 Tryz.underlying22 Tryz.info5 (by decide) _ xs _ rfl hown5 HZ5.out rfl ?_ ?_; omega))
          intro v'' w5 hown6 hg6
          have hfin2 := src_append HG5.out hs5 hown5 hcl (Nat.le_trans h0 (by omega)) hg6
          clear hown5 hs5 hg6
          go_wp2
          go_roundw
          case rel => exact ⟨k + 1, q + 2, _, by omega, by go_num, by simp; omega, by omega, hown6, hfin2.1, hfin2.2⟩
          case measure => simp [intOf]; omega
      · have t0 : (kd == 0) = false := by simp; omega
        have t1 : (kd == 1) = false := by simp; omega
        have t2 : (kd == 2) = false := by simp; omega
        go_wp2_with fail
        refine (n_all W0 _ c a len cap q 23 hs (by omega) (by omega) (by omega)).mono ?_
        rintro e w2 ⟨⟨r, rfl, hr0, hr1⟩, hs3, hg3⟩
        have hown3 := hown.kept hg3 hcl
        have HG3 := hid (grown_trans HG.out hg3)
        have HZ3 : Hid (w.heap.size ≤ w2.heap.size) := HG3.out.size
        clear hown hs hg3
        go_wp2_with (first | (at_builtin; refine append_num2 w.heap.size _ rfl (.tmp 17) (.tmp 21) 22 rfl 5 .u8 1 Tryz.underlying22 Tryz.info5 (by decide) _ xs _ rfl hown3 HZ3.out rfl ?_ ?_; omega))
        intro v' w3 hown4 hg4
        have hfin := src_append HG3.out hs3 hown3 hcl (Nat.le_trans h0 (by omega)) hg4
        clear hown3 hs3 hg4
        go_wp2
        go_roundw
        case rel => exact ⟨k + 1, q + 1, _, by omega, by go_num, by simp; omega, by omega, hown4, hfin.1, hfin.2⟩
        case measure => simp [intOf]; omega
    · have hkn : k = n := by omega
      rcases hown.2 with ⟨rfl, hx0⟩ | ⟨g, cp, cur, rfl, _⟩
      · have hcv := conv_owned wr 22 5 9 Tryz.underlying22 Tryz.underlying5 Tryz.underlying9 hown
        have d1 : decide ((n : Int) < 0) = false := by simp
        go_wp2
        go_ret
        exact ⟨⟨_, rfl, by rw [strOfNums_size]; omega⟩, ⟨q, hs, by omega⟩, HG.out⟩
      · by_cases hcut : n < xs.length
        · have d1 : decide ((n : Int) < (xs.length : Int)) = true := by simp; omega
          have d2 : decide ((0 : Int) ≤ (n : Int)) = true := by simp
          have hcv := conv_cut wr 22 5 9 Tryz.underlying22 Tryz.underlying5 Tryz.underlying9 hown (l := n) (by omega)
          go_wp2
          go_ret
          exact ⟨⟨_, rfl, by rw [strOfNums_size]; simp; omega⟩, ⟨q, hs, by omega⟩, HG.out⟩
        · have d1 : decide ((n : Int) < (xs.length : Int)) = false := by simp; omega
          have hcv := conv_owned wr 22 5 9 Tryz.underlying22 Tryz.underlying5 Tryz.underlying9 hown
          go_wp2
          go_ret
          exact ⟨⟨_, rfl, by rw [strOfNums_size]; omega⟩, ⟨q, hs, by omega⟩, HG.out⟩
end Go.Proofs.YtngkiokibldfjaaGreatDoor
