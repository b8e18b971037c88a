import Derived.Test.YtlobnmcjnaibaaaDoorRSMx
import Derived.Test.YtlobnmcjnaibaaaDoorRLawMx
import Derived.Test.YtlobnmcjnaibaaaDoorRSSwap
import Derived.Test.YtlobnmcjnaibaaaDoorRProg
import Derived.Test.YtlobnmcjnaibaaaDoorRBase
import Derived.WalkLawsBesides
import Derived.WalkSpells
import Derived.OpenShut
import Derived.Laws.BitsAllLaws
import Derived.BigQuiet
import Derived.Deep.QuietTactic
import Derived.Test.YtlobnmcjnaibaaaDoorRSCau
import Derived.Deep.RegionHeld3
import Derived.Deep.CutRange
import Derived.Test.YtlobnmcjnaibaaaDoorRSInv2
import Derived.Test.YtlobnmcjnaibaaaDoorRIMat
import Derived.Test.YtlobnmcjnaibaaaDoorRIMat2
import Derived.Test.YtlobnmcjnaibaaaDoorRIMat3
namespace Go.Proofs.YtlobnmcjnaibaaaDoorR
open Go.RowKit
/-! The laws' own matrices: held against each other, and the unit. -/
set_option maxRecDepth 20000 in
set_option maxHeartbeats 1000000 in
theorem lwInts_eq (a : Option Addr) (len cap : Nat) (a' : Option Addr) (len' cap' : Nat) (xs : List Int) (w : World) (h : Ints .i64 w a len cap xs) (h' : Ints .i64 w a' len' cap' xs) (hl : xs.length ≤ 1048576) :
    Calls Tryd.prog 33 #[.slice a len cap, .slice a' len' cap'] w fun e w' => e = .returned (.bool true) ∧ Below w.heap.size w w' := by
  have hx := h.1
  have hx' := h'.1
  have e1 : len' = len := by omega
  subst e1
  have d0 : ((len' : Int) != (len' : Int)) = false := by simp
  go_enter Tryd.func33, Tryd.ntmps33
  go_wp2
  go_loopw [5] (fun y wr => ∃ (k : Nat), k ≤ len' ∧ y = .int .i64 k ∧ Below w.heap.size w wr) (fun y _ => len' - (intOf y).toNat)
  case atStart => exact ⟨0, Nat.zero_le _, rfl, Below.refl _ _⟩
  case round =>
    obtain ⟨k, hk, rfl, hb⟩ := hrel
    by_cases hlt : k < len'
    · rcases h.2.2 with h00 | ⟨b, off, rfl, hbl, hc⟩
      · omega
      · rcases h'.2.2 with h01 | ⟨b', off', rfl, hbl', hc'⟩
        · omega
        · have c1 : wr.cell? ⟨b, off + k, none⟩ = some (.int .i64 (xs.getD k 0)) := (hb.cell (p := ⟨b, off + k, none⟩) hbl).trans (hc k hlt)
          have c2 : wr.cell? ⟨b', off' + k, none⟩ = some (.int .i64 (xs.getD k 0)) := (hb.cell (p := ⟨b', off' + k, none⟩) hbl').trans (hc' k hlt)
          have hlt' : (k : Int) < (len' : Int) := by omega
          have i0 : (0 : Int) ≤ (k : Int) := by omega
          obtain ⟨x, hx2⟩ : ∃ x, x = xs.getD k 0 := ⟨_, rfl⟩
          rw [← hx2] at c1 c2
          clear hx2
          go_wp2_with fail
          go_quiet (fail)
          go_wp2
          go_roundw
          case rel => exact ⟨k + 1, by omega, by go_num, below_drewN' hb nq⟩
          case measure => simp [intOf]; omega
    · go_wp2
      go_ret
      exact ⟨rfl, hb⟩
set_option maxRecDepth 20000 in
set_option maxHeartbeats 400000 in
theorem lwMatrix_eq (r c : Int) (a : Option Addr) (len cap : Nat) (a' : Option Addr) (len' cap' : Nat) (xs : List Int) (w : World) (h : Ints .i64 w a len cap xs) (h' : Ints .i64 w a' len' cap' xs) (hl : xs.length ≤ 1048576) :
    Calls Tryd.prog 10 #[mxv r c a len cap, mxv r c a' len' cap'] w fun e w' => e = .returned (.bool true) ∧ Below w.heap.size w w' := by
  go_enter Tryd.func10, Tryd.ntmps10
  go_wp2_with fail
  refine (lwInts_eq a len cap a' len' cap' xs _ ((h.alloc _).alloc _) ((h'.alloc _).alloc _) hl).mono ?_
  rintro e w1 ⟨rfl, hb⟩
  go_wp2
  go_ret
  exact ⟨rfl, (((Below.refl _ _).alloc (Nat.le_refl _) _).alloc (by rw [size_al]; omega) _).trans (hb.mono (by rw [size_al, size_al]; omega))⟩
/-- the unit's cells -/
def unitL (n : Nat) : List Nat := (List.range (n * n)).map fun p => if p / n = p % n then 1 else 0
theorem unitL_len (n : Nat) : (unitL n).length = n * n := by simp [unitL]
theorem unitL_at {n i j : Nat} (hi : i < n) (hj : j < n) : mo n (unitL n) i j = if i = j then 1 else 0 := by
  have hp : i * n + j < n * n := mul_pos_lt hi hj
  have e1 : (i * n + j) / n = i := by rw [Nat.mul_comm, Nat.mul_add_div (by omega), Nat.div_eq_of_lt hj, Nat.add_zero]
  have e2 : (i * n + j) % n = j := by rw [Nat.mul_comm, Nat.mul_add_mod, Nat.mod_eq_of_lt hj]
  unfold mo; rw [List.getD_eq_getElem?_getD]
  simp [unitL, hp, e1, e2]
set_option maxRecDepth 20000 in
set_option maxHeartbeats 1000000 in
theorem lwUnit_is (n q : Nat) (hn1 : 1 ≤ n) (hn : n ≤ 64) (hq : q = n * n) (w : World) :
    Calls Tryd.prog 12 #[.int .i64 n] w fun e w' => ∃ b, e = .returned (mxv n n (some ⟨b, 0, none⟩) q q) ∧ w.heap.size ≤ b ∧ Wr .i64 w' b 0 (nl (unitL n)) ∧ Below w.heap.size w w' := by
  have q4 : q ≤ 4096 := by have : q ≤ 64 * 64 := by { rw [hq]; exact Nat.mul_le_mul hn hn }; omega
  have qi : (n : Int) * (n : Int) = (q : Int) := by rw [hq]; simp
  have HQ := hid hq
  have hmk := fun w => mk64 w q (by omega)
  clear hq
  go_enter Tryd.func12, Tryd.ntmps12
  go_wp2
  go_loopw [4] (fun y wr => ∃ (I : Nat) (zs : List Nat), I ≤ n ∧ y = .int .i64 I ∧ zs.length = q ∧ (∀ i j, i < n → j < n → mo n zs i j = if i < I ∧ i = j then 1 else 0) ∧ Wr .i64 wr (w.heap.size + 1) 0 (nl zs) ∧ RowAt wr w.heap.size 25 #[.int .i64 0, .int .i64 0, .slice none 0 0] ∧ RowAt wr (w.heap.size + 1 + 1) 25 #[.int .i64 n, .int .i64 n, .slice (some ⟨w.heap.size + 1, 0, none⟩) q q] ∧ Below w.heap.size w wr) (fun y _ => n - (intOf y).toNat)
  case atStart =>
    refine ⟨0, List.replicate q 0, Nat.zero_le _, rfl, List.length_replicate, fun i j _ _ => ?_, ?_, ((RowAt.new w _ _).alloc _).alloc _, RowAt.next ((w.alloc _).alloc _) _ _ (by rw [size_al, size_al]), (((Below.refl _ _).alloc (Nat.le_refl _) _).alloc (by rw [size_al]; omega) _).alloc (by rw [size_al, size_al]; omega) _⟩
    · unfold mo; rw [if_neg (by omega), List.getD_eq_getElem?_getD, List.getElem?_replicate]; split <;> rfl
    · rw [nl_zeros]; exact (Wr.of (RowAt.next (w.alloc _) _ _ (by rw [size_al]))).alloc _
  case round =>
    obtain ⟨I, zs, hI, rfl, hzl, hmo, hW, r0, r1, hb⟩ := hrel
    have ZL := hid hzl
    have HM := hid hmo
    have HW := hid hW
    have R0 := hid r0
    have HB := hid hb
    clear hzl hmo hW r0 hb hmk
    by_cases hlt : I < n
    · have hlt' : (I : Int) < (n : Int) := by omega
      obtain ⟨o, ho⟩ : ∃ o, o = I * n := ⟨_, rfl⟩
      have e1 : (I : Int) * (n : Int) = (o : Int) := by rw [ho]; simp
      have bo : o + I < q := by rw [ho, HQ.out]; exact mul_pos_lt hlt hlt
      have i1 : (0 : Int) ≤ (o : Int) + (I : Int) := by omega
      have i2 : (o : Int) + (I : Int) < (q : Int) := by omega
      have i3 : ((o : Int) + (I : Int)).toNat = o + I := by omega
      have c2 := r1.cell 2
      have cZ := HW.out.cell (i := o + I) (by rw [nl_len, ZL.out]; exact bo)
      rw [Nat.zero_add] at cZ
      have fZ := HW.out.free (o + I)
      have HM' : Hid (∀ i j, i < n → j < n → mo n (zs.set (o + I) 1) i j = if i < I + 1 ∧ i = j then 1 else 0) := fun i j hi hj => by
        rw [ho, mo_set (by rw [← ho, ZL.out]; exact bo) hlt hj]
        by_cases e : i = I ∧ j = I
        · rw [if_pos e, if_pos (by omega)]
        · rw [if_neg e, HM.out i j hi hj]
          by_cases e2 : i < I ∧ i = j
          · rw [if_pos e2, if_pos (by omega)]
          · rw [if_neg e2, if_neg (by omega)]
      have HW' : Hid (Wr .i64 (wr.setCell ⟨w.heap.size + 1, o + I, none⟩ (.int .i64 1)) (w.heap.size + 1) 0 (nl (zs.set (o + I) 1))) := by
        have := HW.out.set (o + I) ((1 : Nat) : Int) (by rw [nl_len, ZL.out]; exact bo)
        rw [Nat.zero_add, nl_set] at this; exact this
      have N0 := hid (R0.out.other ⟨w.heap.size + 1, o + I, none⟩ (.int .i64 1) (by dsimp only; omega))
      have N1 := hid (r1.other ⟨w.heap.size + 1, o + I, none⟩ (.int .i64 1) (by dsimp only; omega))
      have N2 := hid (HB.out.setCell (p := ⟨w.heap.size + 1, o + I, none⟩) (by show w.heap.size ≤ w.heap.size + 1; omega) (.int .i64 1))
      clear ho
      go_wp2
      go_roundw
      case rel => exact ⟨I + 1, zs.set (o + I) 1, by omega, by go_num, by rw [List.length_set]; exact ZL.out, HM'.out, HW'.out, N0.out, N1.out, N2.out⟩
      case measure => simp [intOf]; omega
    · have hie : I = n := by omega
      subst hie
      have HE : Hid (zs = unitL I) := by
        apply List.ext_getElem?
        intro p
        by_cases hp : p < q
        · have e : p = p / I * I + p % I := by rw [Nat.mul_comm]; exact (Nat.div_add_mod p I).symm
          have h1 : p % I < I := Nat.mod_lt _ (by omega)
          have h2 : p / I < I := Nat.div_lt_of_lt_mul (by rw [← HQ.out]; exact hp)
          have h3 := HM.out (p / I) (p % I) h2 h1
          have h4 := unitL_at h2 h1
          have h5 : mo I zs (p / I) (p % I) = mo I (unitL I) (p / I) (p % I) := by
            rw [h3, h4]
            by_cases e2 : p / I = p % I
            · rw [if_pos ⟨h2, e2⟩, if_pos e2]
            · rw [if_neg (fun h => e2 h.2), if_neg e2]
          unfold mo at h5
          have hu := unitL_len I
          have hz := ZL.out
          have hq := HQ.out
          rw [← e, List.getD_eq_getElem?_getD, List.getD_eq_getElem?_getD, List.getElem?_eq_getElem (by omega), List.getElem?_eq_getElem (by omega)] at h5
          rw [List.getElem?_eq_getElem (by omega), List.getElem?_eq_getElem (by omega)]; simpa using h5
        · have hu := unitL_len I
          have hz := ZL.out
          have hq := HQ.out
          rw [List.getElem?_eq_none (by omega), List.getElem?_eq_none (by omega)]
      go_wp2_with (first
        | refine wpList_load_row rfl 25 (.tmp 3) rfl (w.heap.size + 1 + 1) rfl _ _ _ _ r1 Tryd.underlying25 rfl (by kernel_rfl) ?_
        | refine wpList_store_row rfl 25 (.tmp 2) (.tmp 25) rfl w.heap.size #[.int .i64 I, .int .i64 I, .slice (some ⟨w.heap.size + 1, 0, none⟩) q q] rfl rfl _ _ R0.out (by kernel_rfl) rfl (one3 _ _ _ _ _) ?_)
      refine bodyPost_ret (v := mxv I I (some ⟨w.heap.size + 1, 0, none⟩) q q) ?_ rfl ⟨w.heap.size + 1, rfl, by omega, ?_, below_setRow HB.out _ _ (Nat.le_refl _)⟩
      · exact results_cell_row Tryd.results12 _ _ w.heap.size _ _ _ _ rfl (R0.out.setRow _) Tryd.underlying25 rfl (by kernel_rfl)
      · rw [← HE.out]; exact wr_setRow HW.out _ (by omega)
end Go.Proofs.YtlobnmcjnaibaaaDoorR
namespace Go.Proofs.YtlobnmcjnaibaaaDoorR
open Go.RowKit
/-- The code lies in the old memory. -/
def CodeOk (W0 : World) (a : Option Addr) (len : Nat) : Prop :=
  len ≤ 1048576 ∧ (len = 0 ∨ ∃ b off, a = some ⟨b, off, none⟩ ∧ b < W0.heap.size ∧ ∀ i, i < len → ∃ z : Nat, z < 256 ∧ W0.cell? ⟨b, off + i, none⟩ = some (.int .u8 z))

theorem CodeOk.below {w w1 : World} {a : Option Addr} {len : Nat} (h : CodeOk w a len) (hb : Below w.heap.size w w1) : CodeOk w1 a len := by
  refine ⟨h.1, ?_⟩
  rcases h.2 with h0 | ⟨b, off, rfl, hbl, hc⟩
  · exact Or.inl h0
  · refine Or.inr ⟨b, off, rfl, Nat.lt_of_lt_of_le hbl hb.size, fun i hi => ?_⟩
    obtain ⟨z, hz, hcell⟩ := hc i hi
    exact ⟨z, hz, (hb.cell (p := ⟨b, off + i, none⟩) hbl).trans hcell⟩
theorem below_trans' {w w1 w2 : World} (h1 : Below w.heap.size w w1) (h2 : Below w1.heap.size w1 w2) : Below w.heap.size w w2 := h1.trans (h2.mono h1.size)

theorem codeOk_of (w : World) (a : Option Addr) (len cap : Nat) (zs : List Int) (h : IsRow .u8 w a len cap zs) (hl : len ≤ 1048576) : CodeOk w a len := by
  refine ⟨hl, ?_⟩
  by_cases h0 : len = 0
  · exact Or.inl h0
  · rcases h with ⟨_, h1, _⟩ | ⟨x, rfl, h1, h2, h3, hcell, hwf⟩
    · exact absurd h1 h0
    · right
      obtain ⟨b, off, spot⟩ := x
      have hc := hcell 0 (by omega)
      have hspot : spot = none := by simpa [Addr.add] using World.cell?_spot hc
      subst hspot
      have hadd : ∀ i, (⟨b, off, none⟩ : Addr).add i = ⟨b, off + i, none⟩ := by intro i; unfold Addr.add; split <;> simp_all
      refine ⟨b, off, rfl, ?_, ?_⟩
      · have := World.block_lt_of_cell? w _ hc; rw [hadd] at this; exact this
      · intro i hi
        have hci := hcell i (by omega)
        rw [hadd] at hci
        have hm : zs.getD i 0 ∈ zs := by rw [List.getD_eq_getElem?_getD, List.getElem?_eq_getElem (by omega)]; simp
        have hb := bounds_u8 (hwf _ hm)
        obtain ⟨z, hz⟩ := Int.eq_ofNat_of_zero_le hb.1
        rw [hz] at hci hb
        exact ⟨z, by omega, hci⟩

/-- A byte of a code, or what stands for it. -/
theorem lwAt_all (w : World) (a : Option Addr) (len cap i : Nat) (hc : CodeOk w a len) (hi : i ≤ 1000) :
    Calls Tryd.prog 13 #[.slice a len cap, .int .i64 i] w fun e w' => (∃ r : Nat, e = .returned (.int .i64 r) ∧ r < 256) ∧ w' = w := by
  have hl := hc.1
  by_cases h : i < len
  · rcases hc.2 with h0 | ⟨b, off, rfl, hb, hcell⟩
    · omega
    · obtain ⟨z, hz, e1⟩ := hcell i h
      have i1 : (i : Int) < (len : Int) := by omega
      go_enter Tryd.func13, Tryd.ntmps13
      go_wp2
      go_ret
      exact ⟨⟨z, rfl, hz⟩, rfl⟩
  · go_enter Tryd.func13, Tryd.ntmps13
    go_wp2
    go_ret
    refine ⟨⟨(i * 61 + 29) % 256, ?_, by omega⟩, rfl⟩
    exact congrArg (fun x => Ending.returned (.int .i64 x)) (by omega)
end Go.Proofs.YtlobnmcjnaibaaaDoorR
namespace Go.Proofs.YtlobnmcjnaibaaaDoorR
open Go.RowKit
/-! The source of draws: a block of three cells: the code, the place, the size. -/
def SrcAt (w : World) (c : Nat) (a : Option Addr) (len cap : Nat) (p z : Int) : Prop := Blk w c #[.slice a len cap, .int .i64 p, .int .i64 z] 58
theorem SrcAt.step {w : World} {c : Nat} {a : Option Addr} {len cap : Nat} {p z : Int} (h : SrcAt w c a len cap p z) (q : Int) : SrcAt (w.setCell ⟨c, 1, none⟩ (.int .i64 q)) c a len cap q z := Blk.set h 1 (.int .i64 q)

/-- What a draw leaves: a number below 'most'; the place one on; nothing else has turned. -/
def Drawn (w : World) (c : Nat) (a : Option Addr) (len cap p : Nat) (z most : Int) (e : Ending) (w' : World) : Prop :=
  (∃ r : Int, e = .returned (.int .i64 r) ∧ 0 ≤ r ∧ r < most) ∧ SrcAt w' c a len cap ((p + 1 : Nat) : Int) z ∧ w.grownBy w' (some c)

set_option maxRecDepth 20000 in
set_option maxHeartbeats 2000000 in
theorem n_zero (w : World) (c : Nat) (a : Option Addr) (cap : Nat) (p : Nat) (z most : Int) (hS : SrcAt w c a 0 cap p z) (hp : p ≤ 1000000000) (hm : 1 ≤ most) (hm2 : most ≤ 9223372036854775807) :
    Calls Tryd.prog 18 #[.pointer (some ⟨c, 0, none⟩), .int .i64 most] w (Drawn w c a 0 cap p z most) := by
  have h0 := hS.cell 0 _ rfl
  have h1 := hS.cell 1 _ rfl
  have f1 := hS.free 1
  have d0 : decide (most < 1) = false := by simp; omega
  go_enter Tryd.func18, Tryd.ntmps18
  go_wp2
  go_ret
  exact ⟨⟨(p : Int) * 7 % most, rfl, Int.emod_nonneg _ (by omega), Int.emod_lt_of_pos _ (by omega)⟩, by simpa using hS.step (p + 1), grown_set⟩

set_option maxRecDepth 20000 in
set_option maxHeartbeats 2000000 in
theorem n_some (W0 w : World) (c b off len cap : Nat) (p : Nat) (z most : Int) (hS : SrcAt w c (some ⟨b, off, none⟩) len cap p z) (hp : p ≤ 1000000000) (hm : 1 ≤ most) (hm2 : most ≤ 9223372036854775807)
    (hlen : len ≤ 1048576) (hl0 : 0 < len) (hb : b < W0.heap.size) (hcode : ∀ i, i < len → ∃ z : Nat, z < 256 ∧ W0.cell? ⟨b, off + i, none⟩ = some (.int .u8 z)) (hbel : Below W0.heap.size W0 w) (hc : W0.heap.size ≤ c) :
    Calls Tryd.prog 18 #[.pointer (some ⟨c, 0, none⟩), .int .i64 most] w (Drawn w c (some ⟨b, off, none⟩) len cap p z most) := by
  have h0 := hS.cell 0 _ rfl
  have h1 := hS.cell 1 _ rfl
  have f1 := hS.free 1
  have d0 : decide (most < 1) = false := by simp; omega
  have d1 : ((len : Int) == 0) = false := by simp; omega
  have hne : b ≠ c := by omega
  obtain ⟨z1, hz1, e1⟩ := hcode (p % len) (Nat.mod_lt _ hl0)
  obtain ⟨z2, hz2, e2⟩ := hcode ((p + 1) % len) (Nat.mod_lt _ hl0)
  have g1 : w.cell? ⟨b, off + p % len, none⟩ = some (.int .u8 z1) := (hbel.cell (p := ⟨b, off + p % len, none⟩) hb).trans e1
  have g2 : w.cell? ⟨b, off + (p + 1) % len, none⟩ = some (.int .u8 z2) := (hbel.cell (p := ⟨b, off + (p + 1) % len, none⟩) hb).trans e2
  have m1 : p % len < len := Nat.mod_lt _ hl0
  have m2 : (p + 1) % len < len := Nat.mod_lt _ hl0
  have i1 : ((p : Int) % (len : Int)) < (len : Int) := by omega
  have q1 : (0 : Int) ≤ (p : Int) / (len : Int) := Int.ediv_nonneg (by omega) (by omega)
  have q2 : (p : Int) / (len : Int) ≤ 1000000000 := by
    have : p / len ≤ p := Nat.div_le_self _ _
    have e : ((p / len : Nat) : Int) = (p : Int) / (len : Int) := by simp
    omega
  have i2 : (((p : Int) + 1) % (len : Int)) < (len : Int) := Int.emod_lt_of_pos _ (by omega)
  have i3 : (0 : Int) ≤ ((p : Int) + 1) % (len : Int) := Int.emod_nonneg _ (by omega)
  have i4 : (0 : Int) ≤ (p : Int) % (len : Int) := Int.emod_nonneg _ (by omega)
  have hwr : IntKind.i64.wrap ((p : Int) + 1) = (p : Int) + 1 := by simp [IntKind.wrap, IntKind.bits, IntKind.signed]; omega
  clear e1 e2 hcode
  by_cases hbig : most ≤ 200
  · have d2 : decide ((200 : Int) < most) = false := by simp; omega
    go_enter Tryd.func18, Tryd.ntmps18
    go_wp2
    go_quiet (fail)
    go_wp2
    go_ret
    refine ⟨⟨((z1 : Int) + (p : Int) / (len : Int) * 37) % most, rfl, Int.emod_nonneg _ (by omega), Int.emod_lt_of_pos _ (by omega)⟩, ?_, ?_⟩
    · exact (by simpa using hS.step (p + 1) : SrcAt (w.setCell ⟨c, 1, none⟩ (.int .i64 ((p : Int) + 1))) c (some ⟨b, off, none⟩) len cap ((p + 1 : Nat) : Int) z)
    · exact grown_trans grown_set (grown_drewN _ _ _)
  · have d2 : decide ((200 : Int) < most) = true := by simp; omega
    go_enter Tryd.func18, Tryd.ntmps18
    go_wp2
    go_quiet (fail)
    go_wp2
    go_quiet (fail)
    go_wp2
    go_ret
    refine ⟨⟨_, rfl, ?_, ?_⟩, ?_, ?_⟩
    · exact Int.emod_nonneg _ (by omega)
    · exact Int.emod_lt_of_pos _ (by omega)
    · exact (by simpa using hS.step (p + 1) : SrcAt (w.setCell ⟨c, 1, none⟩ (.int .i64 ((p : Int) + 1))) c (some ⟨b, off, none⟩) len cap ((p + 1 : Nat) : Int) z)
    · exact grown_trans grown_set (grown_drewN _ _ _)

/-- A source of draws over a code in the old memory W0; p draws were made. -/
def Src (W0 w : World) (c : Nat) (a : Option Addr) (len cap p : Nat) : Prop :=
  (∃ z : Int, SrcAt w c a len cap p z ∧ 0 ≤ z ∧ z ≤ 12) ∧ CodeOk W0 a len ∧ len ≤ cap ∧ Below W0.heap.size W0 w ∧ W0.heap.size ≤ c
theorem Src.lt {W0 w : World} {c : Nat} {a : Option Addr} {len cap p : Nat} (h : Src W0 w c a len cap p) : c < w.heap.size := by
  obtain ⟨⟨z, hS, _⟩, _⟩ := h; exact Blk.lt hS
/-- The source stands where others turn. -/
theorem Src.far {W0 w w' : World} {c : Nat} {a : Option Addr} {len cap p : Nat} {r : Option Nat} (h : Src W0 w c a len cap p) (hg : w.grownBy w' r) (hne : some c ≠ r) (hr : ∀ g, r = some g → W0.heap.size ≤ g) : Src W0 w' c a len cap p := by
  have hl := h.lt
  obtain ⟨⟨z, hS, hz⟩, hc, hlc, hb, h0⟩ := h
  exact ⟨⟨z, Blk.far hS hg hl hne, hz⟩, hc, hlc, hb.grown hg hb.size hr, h0⟩
theorem Src.drewN {W0 w : World} {c : Nat} {a : Option Addr} {len cap p : Nat} (h : Src W0 w c a len cap p) (n : Nat) : Src W0 (w.drewN n) c a len cap p :=
  h.far (grown_drewN w n none) (by simp) (by intro g hg; cases hg)

theorem n_all (W0 w : World) (c : Nat) (a : Option Addr) (len cap p : Nat) (most : Int) (h : Src W0 w c a len cap p) (hp : p ≤ 1000000000) (hm : 1 ≤ most) (hm2 : most ≤ 9223372036854775807) :
    Calls Tryd.prog 18 #[.pointer (some ⟨c, 0, none⟩), .int .i64 most] w fun e w' => (∃ r : Int, e = .returned (.int .i64 r) ∧ 0 ≤ r ∧ r < most) ∧ Src W0 w' c a len cap (p + 1) ∧ w.grownBy w' (some c) := by
  obtain ⟨⟨z, hS, hz⟩, ⟨hlen, hcode⟩, hlc, hb, h0⟩ := h
  have fin : ∀ (e : Ending) (w' : World), Drawn w c a len cap p z most e w' → (∃ r : Int, e = .returned (.int .i64 r) ∧ 0 ≤ r ∧ r < most) ∧ Src W0 w' c a len cap (p + 1) ∧ w.grownBy w' (some c) := by
    intro e w' hd
    exact ⟨hd.1, ⟨⟨z, hd.2.1, hz⟩, ⟨hlen, hcode⟩, hlc, hb.grown hd.2.2 hb.size (by intro g hg; cases hg; exact h0), h0⟩, hd.2.2⟩
  by_cases hl : len = 0
  · subst hl
    exact (n_zero w c a cap p z most hS hp hm hm2).mono fun e w' hd => fin e w' hd
  · rcases hcode with h1 | ⟨b, off, rfl, hbl, hcells⟩
    · exact absurd h1 hl
    · exact (n_some W0 w c b off len cap p z most hS hp hm hm2 hlen (by omega) hbl hcells hb h0).mono fun e w' hd => fin e w' hd

set_option maxHeartbeats 400000 in
theorem one_all (W0 w : World) (c : Nat) (a : Option Addr) (len cap p : Nat) (most : Int) (h : Src W0 w c a len cap p) (hp : p ≤ 1000000000) (hm : 1 ≤ most) (hm2 : most ≤ 9223372036854775807) :
    Calls Tryd.prog 20 #[.pointer (some ⟨c, 0, none⟩), .int .i64 most] w fun e w' => (∃ b : Bool, e = .returned (.bool b)) ∧ Src W0 w' c a len cap (p + 1) ∧ w.grownBy w' (some c) := by
  go_enter Tryd.func20, Tryd.ntmps20
  go_wp2_with fail
  refine (n_all W0 w c a len cap p most h hp hm hm2).mono ?_
  rintro e w1 ⟨⟨r, rfl, hr0, hr1⟩, hs, hg⟩
  go_wp2
  go_ret
  exact ⟨⟨_, rfl⟩, hs, hg⟩

set_option maxRecDepth 20000 in
set_option maxHeartbeats 1000000 in
theorem source_all (w : World) (a : Option Addr) (len cap : Nat) (hc : CodeOk w a len) (hlc : len ≤ cap) :
    Calls Tryd.prog 17 #[.slice a len cap] w fun e w' => e = .returned (.pointer (some ⟨w.heap.size, 0, none⟩)) ∧ Src w w' w.heap.size a len cap 0 ∧ Below w.heap.size w w' := by
  have hl := hc.1
  by_cases h12 : 12 < len / 16
  · have d0 : decide ((12 : Int) < (len : Int) / 16) = true := by simp; omega
    go_enter Tryd.func17, Tryd.ntmps17
    go_wp2
    go_ret
    exact ⟨rfl, ⟨⟨12, Blk.made w _ _, by omega, by omega⟩, hc, hlc, (Below.refl _ _).alloc (Nat.le_refl _) _, Nat.le_refl _⟩, (Below.refl _ _).alloc (Nat.le_refl _) _⟩
  · have d0 : decide ((12 : Int) < (len : Int) / 16) = false := by simp; omega
    go_enter Tryd.func17, Tryd.ntmps17
    go_wp2
    go_ret
    exact ⟨rfl, ⟨⟨(len : Int) / 16, Blk.made w _ _, by omega, by omega⟩, hc, hlc, (Below.refl _ _).alloc (Nat.le_refl _) _, Nat.le_refl _⟩, (Below.refl _ _).alloc (Nat.le_refl _) _⟩
theorem below_src {w w1 w2 : World} (hb : Below w.heap.size w w1) (hg : w1.grownBy w2 (some w.heap.size)) : Below w.heap.size w w2 := hb.grown hg hb.size (by intro k hk; cases hk; exact Nat.le_refl _)

end Go.Proofs.YtlobnmcjnaibaaaDoorR
namespace Go.Proofs.YtlobnmcjnaibaaaDoorR
open Go.RowKit
theorem rowFar2 {w w' : World} {b : Nat} {t : TypeId} {c : Array Value} {r : Option Nat} (h : RowAt w b t c) (hg : w.grownBy w' r) (hne : some b ≠ r) : RowAt w' b t c := (hg.block b h.lt hne).trans h
theorem Src.drew {W0 w : World} {c : Nat} {a : Option Addr} {len cap p : Nat} (h : Src W0 w c a len cap p) : Src W0 w.drew c a len cap p := h.drewN 1
theorem Src.alloc {W0 w : World} {c : Nat} {a : Option Addr} {len cap p : Nat} (h : Src W0 w c a len cap p) (o : Obj) : Src W0 (w.alloc o) c a len cap p := h.far (World.grownBy_alloc w o none) (by simp) (by intro g hg; cases hg)
theorem Src.set {W0 w : World} {c : Nat} {a : Option Addr} {len cap p : Nat} (h : Src W0 w c a len cap p) {g o : Nat} (v : Value) (hne : c ≠ g) (hg : W0.heap.size ≤ g) : Src W0 (w.setCell ⟨g, o, none⟩ v) c a len cap p := h.far (r := some g) grown_set (by intro e; injection e with e; exact hne e) (by intro k hk; cases hk; exact hg)
theorem Src.setRow {W0 w : World} {c : Nat} {a : Option Addr} {len cap p : Nat} (h : Src W0 w c a len cap p) {g : Nat} (v : Array Value) (hne : c ≠ g) (hg : W0.heap.size ≤ g) : Src W0 (w.setRow g v) c a len cap p := h.far (r := some g) ⟨rfl, rfl, rfl, by rw [setRow_size]; exact Nat.le_refl _, fun k _ hn => setRow_other w g k v (by intro e; exact hn (by rw [e]))⟩ (by intro e; injection e with e; exact hne e) (by intro k hk; cases hk; exact hg)
/-- A matrix being drawn. -/
structure DmSt (W0 w wr : World) (c : Nat) (a : Option Addr) (len cap P b m R C q : Nat) (ys : List Int) : Prop where
  R0 : RowAt wr w.heap.size 25 #[.int .i64 0, .int .i64 0, .slice none 0 0]
  M0 : RowAt wr m 25 #[.int .i64 R, .int .i64 C, .slice (some ⟨b, 0, none⟩) q q]
  Z : Wr .i64 wr b 0 ys
  yl : ys.length = q
  S : ∃ p, Src W0 wr c a len cap p ∧ p ≤ P
  gr : w.grownBy wr (some c)
  o0 : W0.heap.size ≤ c
  o1 : c < w.heap.size
  o2 : w.heap.size < b
  o3 : b < m
theorem grownC {w w' : World} {c g : Nat} (h : w.grownBy w' (some c)) {o : Nat} (v : Value) (hg : w.heap.size ≤ g) : w.grownBy (w'.setCell ⟨g, o, none⟩ v) (some c) :=
  ⟨h.os, h.tape, h.output, by simp [World.setCell]; exact h.size, fun k hk hne => (Below.heap_setCell w' _ v k (by dsimp only; omega)).trans (h.block k hk hne)⟩
theorem DmSt.set {W0 w wr : World} {c : Nat} {a : Option Addr} {len cap P b m R C q : Nat} {ys : List Int} (h : DmSt W0 w wr c a len cap P b m R C q ys) (i : Nat) (x : Int) (hi : i < q) : DmSt W0 w (wr.setCell ⟨b, i, none⟩ (.int .i64 x)) c a len cap P b m R C q (ys.set i x) := by
  have h0 := h.o0; have h1 := h.o1; have h2 := h.o2; have h3 := h.o3
  obtain ⟨p, hs, hp⟩ := h.S
  refine ⟨h.R0.other _ _ (by dsimp only; omega), h.M0.other _ _ (by dsimp only; omega), ?_, by rw [List.length_set]; exact h.yl, ⟨p, hs.set _ (by omega) (by omega), hp⟩, grownC h.gr _ (by omega), h0, h1, h2, h3⟩
  have := h.Z.set i x (by rw [h.yl]; exact hi)
  rw [Nat.zero_add] at this; exact this
theorem DmSt.drew {W0 w wr : World} {c : Nat} {a : Option Addr} {len cap P b m R C q : Nat} {ys : List Int} (h : DmSt W0 w wr c a len cap P b m R C q ys) : DmSt W0 w wr.drew c a len cap P b m R C q ys := by
  obtain ⟨p, hs, hp⟩ := h.S
  exact ⟨h.R0, h.M0, h.Z, h.yl, ⟨p, hs.drew, hp⟩, grown_trans h.gr (grown_drewN wr 1 _), h.o0, h.o1, h.o2, h.o3⟩
theorem DmSt.draw {W0 w wr w2 : World} {c : Nat} {a : Option Addr} {len cap P b m R C q p : Nat} {ys : List Int} (h : DmSt W0 w wr c a len cap P b m R C q ys) (hg : wr.grownBy w2 (some c)) (hs : Src W0 w2 c a len cap p) (hp : p ≤ P + 1) : DmSt W0 w w2 c a len cap (P + 1) b m R C q ys := by
  have h1 := h.o1; have h2 := h.o2; have h3 := h.o3
  exact ⟨rowFar2 h.R0 hg (by intro e; injection e with e; omega), rowFar2 h.M0 hg (by intro e; injection e with e; omega), h.Z.far hg (by intro e; injection e with e; omega), h.yl, ⟨p, hs, hp⟩, grown_trans h.gr hg, h.o0, h.o1, h.o2, h.o3⟩
theorem DmSt.le {W0 w wr : World} {c : Nat} {a : Option Addr} {len cap P P' b m R C q : Nat} {ys : List Int} (h : DmSt W0 w wr c a len cap P b m R C q ys) (hp : P ≤ P') : DmSt W0 w wr c a len cap P' b m R C q ys := by
  obtain ⟨p, hs, hp'⟩ := h.S
  exact ⟨h.R0, h.M0, h.Z, h.yl, ⟨p, hs, by omega⟩, h.gr, h.o0, h.o1, h.o2, h.o3⟩
theorem DmSt.below {W0 w wr w2 : World} {c : Nat} {a : Option Addr} {len cap P b m R C q : Nat} {ys : List Int} (h : DmSt W0 w wr c a len cap P b m R C q ys) (hb : Below wr.heap.size wr w2) : DmSt W0 w w2 c a len cap P b m R C q ys := by
  obtain ⟨p, hs, hp⟩ := h.S
  exact ⟨h.R0.below hb h.R0.lt, h.M0.below hb h.M0.lt, h.Z.below hb h.Z.lt, h.yl, ⟨p, hs.far (below_grown hb none) (by simp) (by intro g hg; cases hg), hp⟩, grown_trans h.gr (below_grown hb _), h.o0, h.o1, h.o2, h.o3⟩
theorem grownRow {w w' : World} {c g : Nat} (h : w.grownBy w' (some c)) (v : Array Value) (hg : w.heap.size ≤ g) : w.grownBy (w'.setRow g v) (some c) :=
  ⟨h.os, h.tape, h.output, by rw [setRow_size]; exact h.size, fun k hk hne => (setRow_other w' g k v (by omega)).trans (h.block k hk hne)⟩
theorem HS0 {W0 w wr : World} {c : Nat} {a : Option Addr} {len cap P b m R C q : Nat} {ys : List Int} (h : DmSt W0 w wr c a len cap P b m R C q ys) : ∃ p, Src W0 wr c a len cap p ∧ p ≤ P := h.S
set_option maxRecDepth 20000 in
set_option maxHeartbeats 8000000 in
theorem drawMatrix (W0 w : World) (c : Nat) (a : Option Addr) (len cap p R C q : Nat) (h : Src W0 w c a len cap p) (hp : p ≤ 1000000) (hR1 : 1 ≤ R) (hR : R ≤ 64) (hC1 : 1 ≤ C) (hC : C ≤ 64) (hq : q = R * C) :
    Calls Tryd.prog 19 #[.pointer (some ⟨c, 0, none⟩), .int .i64 R, .int .i64 C] w fun e w' => ∃ b xs, e = .returned (mxv R C (some ⟨b, 0, none⟩) q q) ∧ w.heap.size ≤ b ∧ Wr .i64 w' b 0 xs ∧ xs.length = q ∧ (∃ p', Src W0 w' c a len cap p' ∧ p' ≤ p + 20000) ∧ w.grownBy w' (some c) := by
  have hq4 : q ≤ 4096 := by have : q ≤ 64 * 64 := by { rw [hq]; exact Nat.mul_le_mul hR hC }; omega
  have hqi : Hid ((R : Int) * (C : Int) = (q : Int)) := by show _ = _; rw [hq]; simp
  have HQ := hid hq
  have HS := hid h
  have hcl := h.lt
  have h0 : W0.heap.size ≤ c := h.2.2.2.2
  clear hq h
  go_enter Tryd.func19, Tryd.ntmps19
  go_wp2_with fail
  refine (snew R C q _ hqi.out (by omega)).mono ?_
  rintro e w1 ⟨rfl, rfl⟩
  obtain ⟨W, hW⟩ : ∃ W, W = (((w.alloc (.cells #[.int .i64 0, .int .i64 0, .slice none 0 0] 25)).alloc (.cells #[.int .i64 R, .int .i64 C, .slice (some ⟨w.heap.size + 1 + 1, 0, none⟩) q q] 25)).alloc (.cells (ints .i64 (List.replicate q 0)) 2)).alloc (.cells #[.int .i64 R, .int .i64 C, .slice (some ⟨w.heap.size + 1 + 1, 0, none⟩) q q] 25) := ⟨_, rfl⟩
  have S0 : Hid (DmSt W0 w W c a len cap p (w.heap.size + 1 + 1) (w.heap.size + 1 + 1 + 1) R C q (List.replicate q 0)) := by
    rw [hW]
    refine ⟨(((RowAt.new w _ _).alloc _).alloc _).alloc _, RowAt.next _ _ _ (by simp only [size_al]), ?_, List.length_replicate, ⟨p, (((HS.out.alloc _).alloc _).alloc _).alloc _, Nat.le_refl _⟩, ?_, h0, hcl, by omega, by omega⟩
    · exact (Wr.of (RowAt.next _ _ _ (by simp only [size_al]))).alloc _
    · exact grown_trans (grown_trans (grown_trans (World.grownBy_alloc w _ _) (World.grownBy_alloc _ _ _)) (World.grownBy_alloc _ _ _)) (World.grownBy_alloc _ _ _)
  have HW : Hid (Src W0 W c a len cap p) := by rw [hW]; exact (((HS.out.alloc _).alloc _).alloc _).alloc _
  go_wp2_with (rw [← hW])
  try rw [← hW]
  clear hW
  refine (n_all W0 _ c a len cap p 4 HW.out (by omega) (by decide) (by decide)).mono ?_
  rintro e w2 ⟨⟨K, rfl, hK0, hK4⟩, hs2, hg2⟩
  have S1 := hid (S0.out.draw hg2 hs2 (Nat.le_refl _))
  obtain ⟨b, hb⟩ : ∃ b, b = w.heap.size + 1 + 1 := ⟨_, rfl⟩
  obtain ⟨m, hm⟩ : ∃ m, m = w.heap.size + 1 + 1 + 1 := ⟨_, rfl⟩
  clear hs2 hg2 S0 HS
  go_wp2
  rw [← hm]
  rw [← hm, ← hb] at S1
  clear hm hb
  go_loopw [9] (fun y wr => ∃ (I : Nat) (ys : List Int), I ≤ q ∧ y = .int .i64 I ∧ DmSt W0 w wr c a len cap (p + 1 + 3 * I) b m R C q ys) (fun y _ => q - (intOf y).toNat)
  case atStart => exact ⟨0, _, Nat.zero_le _, rfl, S1.out⟩
  case round =>
    clear S1
    obtain ⟨I, ys, hI, rfl, hS⟩ := hrel
    have S1 := hid hS
    obtain ⟨p1, hs1, hp1⟩ := hS.S
    have HS1 := hid hs1
    clear hS hs1
    have z2 := S1.out.M0.cell 2
    by_cases hlt : I < q
    · have hlt' : (I : Int) < (q : Int) := by omega
      have i0 : (0 : Int) ≤ (I : Int) := by omega
      have cZ := S1.out.Z.cell (i := I) (by rw [S1.out.yl]; exact hlt)
      rw [Nat.zero_add] at cZ
      have fZ := S1.out.Z.free I
      have hbm := S1.out.o3
      go_wp2_with fail
      go_region_held3 (fun wx => wx.cell? ⟨m, 2, none⟩ = some (.slice (some ⟨b, 0, none⟩) q q))
        ((first | (go_keep; done) | exact T3.M0.cell 2))
        ((go_at_call 18; refine (n_all W0 _ c a len cap p1 256 HS1.out.drew (by omega) (by decide) (by decide)).mono ?_; rintro e w3 ⟨⟨r1, rfl, hr1, hr2⟩, hs3, hg3⟩; have T2 := S1.out.drew.draw hg3 hs3 (by omega); have T3 := T2.set I r1 hlt; have m2 := T2.M0.cell 2; have cZ2 := T2.Z.cell (i := I) (by rw [T2.yl]; exact hlt); rw [Nat.zero_add] at cZ2; have fZ2 := T2.Z.free I))
      have S3 := hid T3
      clear T2 T3 m2 cZ2 fZ2 hs3 hg3 z2 cZ fZ
      by_cases k0 : K = 0
      · subst k0
        have z2 := S3.out.M0.cell 2
        have cZ := S3.out.Z.cell (i := I) (by rw [S3.out.yl]; exact hlt)
        rw [Nat.zero_add] at cZ
        have fZ := S3.out.Z.free I
        obtain ⟨p2, hs2, hp2⟩ := S3.out.S
        have HS2 := hid hs2
        clear hs2
        go_wp2_with fail
        go_region_held3 (fun wx => wx.cell? ⟨m, 2, none⟩ = some (.slice (some ⟨b, 0, none⟩) q q))
          ((first | (go_keep; done) | exact T3.M0.cell 2))
          ((go_at_call 18; refine (n_all W0 _ c a len cap p2 2 HS2.out.drew (by omega) (by decide) (by decide)).mono ?_; rintro e w5 ⟨⟨r2, rfl, hr3, hr4⟩, hs4, hg4⟩; have T2 := S3.out.drew.draw hg4 hs4 (by omega); have T3 := T2.set I r2 hlt; have m2 := T2.M0.cell 2; have cZ2 := T2.Z.cell (i := I) (by rw [T2.yl]; exact hlt); rw [Nat.zero_add] at cZ2; have fZ2 := T2.Z.free I))
        have S4 := hid T3
        clear T2 T3 m2 cZ2 fZ2 hs4 hg4 z2 cZ fZ
        go_wp2
        go_roundw
        case rel => exact ⟨I + 1, _, by omega, by go_num, S4.out.le (by omega)⟩
        case measure => simp [intOf]; omega
      · have d0 : (K == 0) = false := by simpa using k0
        by_cases k1 : K = 1
        · subst k1
          obtain ⟨p2, hs2, hp2⟩ := S3.out.S
          have HS2 := hid hs2
          clear hs2
          go_wp2_with fail
          refine (one_all W0 _ c a len cap p2 2 HS2.out (by omega) (by decide) (by decide)).mono ?_
          rintro e w5 ⟨⟨t, rfl⟩, hs5, hg5⟩
          have S5 := hid (S3.out.draw hg5 hs5 (by omega))
          clear hs5 hg5
          cases t
          · go_wp2
            go_roundw
            case rel => exact ⟨I + 1, _, by omega, by go_num, S5.out.le (by omega)⟩
            case measure => simp [intOf]; omega
          · have z2 := S5.out.M0.cell 2
            have cZ := S5.out.Z.cell (i := I) (by rw [S5.out.yl]; exact hlt)
            rw [Nat.zero_add] at cZ
            have fZ := S5.out.Z.free I
            have S6 := hid (S5.out.set I 0 hlt)
            go_wp2
            go_roundw
            case rel => exact ⟨I + 1, _, by omega, by go_num, S6.out.le (by omega)⟩
            case measure => simp [intOf]; omega
        · have d1 : (K == 1) = false := by simpa using k1
          go_wp2
          go_roundw
          case rel => exact ⟨I + 1, _, by omega, by go_num, S3.out.le (by omega)⟩
          case measure => simp [intOf]; omega
    · have hie : I = q := by omega
      subst hie
      have S2 := hid (S1.out.le (P' := p + 1 + 3 * 4096) (by omega))
      clear S1
      by_cases k2 : K = 2 ∧ 1 < R
      · obtain ⟨k2, hR2⟩ := k2
        subst k2
        have hR2' : (1 : Int) < (R : Int) := by omega
        obtain ⟨p2, hs2, hp2⟩ := S2.out.S
        have HS2 := hid hs2
        clear hs2
        have dR : decide ((1 : Int) < (R : Int)) = true := by simp; omega
        go_wp2_with fail
        refine (n_all W0 _ c a len cap p2 256 HS2.out (by omega) (by decide) (by decide)).mono ?_
        rintro e w5 ⟨⟨f, rfl, hf0, hf1⟩, hs5, hg5⟩
        have S5 := hid (S2.out.draw hg5 hs5 (by omega))
        clear hs5 hg5 S2
        go_wp2
        go_loopw [11] (fun y wr => ∃ (J : Nat) (zs : List Int), J ≤ C ∧ y = .int .i64 J ∧ DmSt W0 w wr c a len cap (p + 12400) b m R C I zs) (fun y _ => C - (intOf y).toNat)
        case atStart => exact ⟨0, _, Nat.zero_le _, rfl, S5.out.le (by omega)⟩
        case round =>
          clear S5
          obtain ⟨J, zs, hJ, rfl, hS⟩ := hrel
          have S6 := hid hS
          clear hS
          by_cases hlj : J < C
          · have hlj' : (J : Int) < (C : Int) := by omega
            obtain ⟨o, ho⟩ : ∃ o, o = (R - 1) * C := ⟨_, rfl⟩
            have e1 : ((R : Int) - 1) * (C : Int) = (o : Int) := by rw [ho, show (R : Int) - 1 = ((R - 1 : Nat) : Int) by omega, ← Int.natCast_mul]
            have bo : o + J < I := by rw [ho, HQ.out]; exact mul_pos_lt (by omega) hlj
            have oC : C ≤ o := by rw [ho]; exact Nat.le_mul_of_pos_left C (by omega)
            have bJ : J < I := by omega
            have w1 : IntKind.i64.wrap ((R : Int) - 1) = (R : Int) - 1 := wrap_small _ (by omega) (by omega)
            have w2' : IntKind.i64.wrap (((R : Int) - 1) * (C : Int)) = (o : Int) := by rw [e1]; exact wrap_small _ (by omega) (by omega)
            have w3' : IntKind.i64.wrap (o : Int) = (o : Int) := wrap_small _ (by omega) (by omega)
            have w4' : IntKind.i64.wrap ((o : Int) + (J : Int)) = (o : Int) + (J : Int) := wrap_small _ (by omega) (by omega)
            have i1 : (0 : Int) ≤ (o : Int) + (J : Int) := by omega
            have i2 : (o : Int) + (J : Int) < (I : Int) := by omega
            have i3 : ((o : Int) + (J : Int)).toNat = o + J := by omega
            have i4 : (0 : Int) ≤ (J : Int) := by omega
            have i5 : (J : Int) < (I : Int) := by omega
            have z2 := S6.out.M0.cell 2
            have cJ := S6.out.Z.cell (i := J) (by rw [S6.out.yl]; exact bJ)
            rw [Nat.zero_add] at cJ
            obtain ⟨X, hX⟩ : ∃ X, X = zs.getD J 0 := ⟨_, rfl⟩
            rw [← hX] at cJ
            have cO := S6.out.Z.cell (i := o + J) (by rw [S6.out.yl]; exact bo)
            rw [Nat.zero_add] at cO
            have fO := S6.out.Z.free (o + J)
            have S7 := hid (S6.out.drew.set (o + J) (mulI 8 29 f X) bo)
            have kJ : Hid ((wr.drew.setCell ⟨b, o + J, none⟩ (.int .i64 (mulI 8 29 f X))).cell? ⟨b, J, none⟩ = some (.int .i64 X)) := by
              have h := S7.out.Z.cell (i := J) (by rw [S7.out.yl]; exact bJ)
              rw [Nat.zero_add] at h
              rw [h, List.getD_eq_getElem?_getD, List.getElem?_set_ne (by omega), ← List.getD_eq_getElem?_getD, hX]; rfl
            clear ho hX
            go_wp2_with fail
            go_region_held3 (fun wx => wx.cell? ⟨m, 2, none⟩ = some (.slice (some ⟨b, 0, none⟩) I I) ∧ wx.cell? ⟨b, J, none⟩ = some (.int .i64 X))
              ((first | (go_keep; done) | exact ⟨S7.out.M0.cell 2, kJ.out⟩))
              ((go_at_call 38; refine (smul8 f X _).mono ?_; rintro e w6 ⟨rfl, rfl⟩))
            all_goals go_wp2
            all_goals
              go_roundw
              case rel => exact ⟨J + 1, _, by omega, by go_num, S7.out⟩
              case measure => simp [intOf]; omega
          · have hje : J = C := by omega
            subst hje
            have r0 := S6.out.M0
            have hmm := S6.out.o1
            have hm2 := S6.out.o2
            have hm3 := S6.out.o3
            obtain ⟨p7, hs7, hp7⟩ := S6.out.S
            go_wp2_with (first
              | refine wpList_load_row rfl 25 (.tmp 7) rfl m rfl _ _ _ _ r0 Tryd.underlying25 rfl (by kernel_rfl) ?_
              | refine wpList_store_row rfl 25 (.tmp 6) (.tmp 77) rfl w.heap.size #[.int .i64 R, .int .i64 J, .slice (some ⟨b, 0, none⟩) I I] rfl rfl _ _ S6.out.R0 (by kernel_rfl) rfl (one3 _ _ _ _ _) ?_)
            refine bodyPost_ret (v := mxv R J (some ⟨b, 0, none⟩) I I) ?_ rfl ⟨b, zs, rfl, by omega, wr_setRow S6.out.Z _ (by omega), S6.out.yl, ⟨p7, hs7.setRow _ (by omega) (by omega), by omega⟩, ?_⟩
            · exact results_cell_row Tryd.results19 _ _ w.heap.size _ _ _ _ rfl (S6.out.R0.setRow _) Tryd.underlying25 rfl (by kernel_rfl)
            · exact grownRow S6.out.gr _ (Nat.le_refl _)
      · have r0 := S2.out.M0
        have hmm := S2.out.o1
        have hm2 := S2.out.o2
        have hm3 := S2.out.o3
        obtain ⟨p7, hs7, hp7⟩ := S2.out.S
        have HS7 := hid hs7
        have HR0 := hid S2.out.R0
        clear hs7
        by_cases k2a : K = 2
        · have hR3 : ¬ (1 : Int) < (R : Int) := by intro h; exact k2 ⟨k2a, by omega⟩
          have dR : decide ((1 : Int) < (R : Int)) = false := by simpa using hR3
          subst k2a
          clear k2 hR3
          go_wp2_with (first
            | refine wpList_load_row rfl 25 (.tmp 7) rfl m rfl _ _ _ _ r0 Tryd.underlying25 rfl (by kernel_rfl) ?_
            | refine wpList_store_row rfl 25 (.tmp 6) (.tmp 77) rfl w.heap.size #[.int .i64 R, .int .i64 C, .slice (some ⟨b, 0, none⟩) I I] rfl rfl _ _ HR0.out (by kernel_rfl) rfl (one3 _ _ _ _ _) ?_)
          refine bodyPost_ret (v := mxv R C (some ⟨b, 0, none⟩) I I) ?_ rfl ⟨b, ys, rfl, by omega, wr_setRow S2.out.Z _ (by omega), S2.out.yl, ⟨p7, HS7.out.setRow _ (by omega) (by omega), by omega⟩, ?_⟩
          · exact results_cell_row Tryd.results19 _ _ w.heap.size _ _ _ _ rfl (HR0.out.setRow _) Tryd.underlying25 rfl (by kernel_rfl)
          · exact grownRow S2.out.gr _ (Nat.le_refl _)
        · have d2 : (K == 2) = false := by simpa using k2a
          clear k2 k2a
          go_wp2_with (first
            | refine wpList_load_row rfl 25 (.tmp 7) rfl m rfl _ _ _ _ r0 Tryd.underlying25 rfl (by kernel_rfl) ?_
            | refine wpList_store_row rfl 25 (.tmp 6) (.tmp 77) rfl w.heap.size #[.int .i64 R, .int .i64 C, .slice (some ⟨b, 0, none⟩) I I] rfl rfl _ _ HR0.out (by kernel_rfl) rfl (one3 _ _ _ _ _) ?_)
          refine bodyPost_ret (v := mxv R C (some ⟨b, 0, none⟩) I I) ?_ rfl ⟨b, ys, rfl, by omega, wr_setRow S2.out.Z _ (by omega), S2.out.yl, ⟨p7, HS7.out.setRow _ (by omega) (by omega), by omega⟩, ?_⟩
          · exact results_cell_row Tryd.results19 _ _ w.heap.size _ _ _ _ rfl (HR0.out.setRow _) Tryd.underlying25 rfl (by kernel_rfl)
          · exact grownRow S2.out.gr _ (Nat.le_refl _)
end Go.Proofs.YtlobnmcjnaibaaaDoorR
namespace Go.Proofs.YtlobnmcjnaibaaaDoorR
open Go.RowKit
theorem spoilZ {w : World} {b : Nat} {xs : List Int} {x : Int} (h : Wr .i64 w b 0 xs) (hl : 0 < xs.length) : Wr .i64 (w.setCell ⟨b, 0, none⟩ (.int .i64 x)) b 0 (xs.set 0 x) := by have := h.set 0 x hl; rw [Nat.zero_add] at this; exact this
def vv (r : Nat) : Int := if r = 0 then -1 else 256
theorem vv_at {w : World} {b : Nat} {t : TypeId} (h : RowAt w b t #[.int .i64 (-1), .int .i64 256]) {r : Nat} (hr : r < 2) : w.cell? ⟨b, r, none⟩ = some (.int .i64 (vv r)) := by
  rw [h.cell]
  match r, hr with
  | 0, _ => rfl
  | 1, _ => rfl
set_option maxRecDepth 20000 in
set_option maxHeartbeats 4000000 in
theorem spoilMx (W0 w : World) (c : Nat) (a : Option Addr) (len cap p R C q b : Nat) (xs : List Int) (h : Src W0 w c a len cap p) (hp : p ≤ 1000000) (hR : R ≤ 64) (hq1 : 1 ≤ q) (hw : Wr .i64 w b 0 xs) (hl : xs.length = q) (hbc : c < b) (hq : q ≤ 4096) :
    Calls Tryd.prog 21 #[.pointer (some ⟨c, 0, none⟩), mxv R C (some ⟨b, 0, none⟩) q q] w fun e w' => ∃ (r' c' : Int) (ys : List Int), e = .returned (mxv r' c' (some ⟨b, 0, none⟩) q q) ∧ Wr .i64 w' b 0 ys ∧ ys.length = q ∧ w.heap.size ≤ w'.heap.size ∧ (∀ k, k < w.heap.size → k ≠ c → k ≠ b → w'.heap[k]? = w.heap[k]?) ∧ w'.os = w.os ∧ w'.tape = w.tape ∧ w'.output = w.output := by
  have HS := hid h
  have HW := hid hw
  have hcl := h.lt
  have hbl := hw.lt
  have HL := hid hl
  clear h hw hl
  obtain ⟨W, hW⟩ : ∃ W, W = (w.alloc (.cells #[.int .i64 R, .int .i64 C, .slice (some ⟨b, 0, none⟩) q q] 25)).alloc (.cells #[.int .i64 0, .int .i64 0, .slice none 0 0] 25) := ⟨_, rfl⟩
  have hWs : W.heap.size = w.heap.size + 1 + 1 := by rw [hW]; simp only [size_al]
  have A0 : Hid (RowAt W w.heap.size 25 #[.int .i64 R, .int .i64 C, .slice (some ⟨b, 0, none⟩) q q]) := by rw [hW]; exact (RowAt.new w _ _).alloc _
  have R0 : Hid (RowAt W (w.heap.size + 1) 25 #[.int .i64 0, .int .i64 0, .slice none 0 0]) := by rw [hW]; exact RowAt.next (w.alloc _) _ _ (by rw [size_al])
  have ZA : Hid (Wr .i64 W b 0 xs) := by rw [hW]; exact (HW.out.alloc _).alloc _
  have SA : Hid (Src W0 W c a len cap p) := by rw [hW]; exact (HS.out.alloc _).alloc _
  have L0 : Hid (Below w.heap.size w W) := by rw [hW]; exact ((Below.refl _ _).alloc (Nat.le_refl _) _).alloc (by rw [size_al]; omega) _
  go_enter Tryd.func21, Tryd.ntmps21
  go_wp2_with (rw [← hW])
  try rw [← hW]
  clear hW
  refine (n_all W0 _ c a len cap p 10 SA.out (by omega) (by decide) (by decide)).mono ?_
  rintro e w2 ⟨⟨K, rfl, hK0, hK1⟩, hs2, hg2⟩
  have A2 := hid (rowFar2 A0.out hg2 (by intro e; injection e with e; omega))
  have R2 := hid (rowFar2 R0.out hg2 (by intro e; injection e with e; omega))
  have Z2 := hid (ZA.out.far hg2 (by intro e; injection e with e; omega))
  have S2 := hid hs2
  have h2s := hg2.size
  have fin : Hid (∀ (w5 : World) (r' c' : Int) (ys : List Int), w2.heap.size ≤ w5.heap.size → (∀ k, k < w.heap.size → k ≠ c → k ≠ b → w5.heap[k]? = w2.heap[k]?) → w5.os = w2.os → w5.tape = w2.tape → w5.output = w2.output → w.heap.size ≤ w5.heap.size ∧ (∀ k, k < w.heap.size → k ≠ c → k ≠ b → w5.heap[k]? = w.heap[k]?) ∧ w5.os = w.os ∧ w5.tape = w.tape ∧ w5.output = w.output) := fun w5 r' c' ys h1 h2 h3 h4 h5 =>
    ⟨by omega, fun k hk hc hb => (h2 k hk hc hb).trans ((hg2.block k (by omega) (by intro e; injection e with e; exact hc e)).trans (L0.out.block k hk)), h3.trans (hg2.os.trans L0.out.os), h4.trans (hg2.tape.trans L0.out.tape), h5.trans (hg2.output.trans L0.out.output)⟩
  clear hs2 hg2 A0 R0 ZA SA
  have fin2 : Hid (∀ (w5 : World) (v : Array Value) (r' c' : Int) (ys : List Int), (w5 = w2 ∨ ∃ o x, w5 = w2.setCell ⟨w.heap.size, o, none⟩ x) → Wr .i64 w5 b 0 ys → ys.length = q → ∃ (r'' c'' : Int) (zs : List Int), (Ending.returned (mxv r' c' (some ⟨b, 0, none⟩) q q)) = .returned (mxv r'' c'' (some ⟨b, 0, none⟩) q q) ∧ Wr .i64 (w5.setRow (w.heap.size + 1) v) b 0 zs ∧ zs.length = q ∧ w.heap.size ≤ (w5.setRow (w.heap.size + 1) v).heap.size ∧ (∀ k, k < w.heap.size → k ≠ c → k ≠ b → (w5.setRow (w.heap.size + 1) v).heap[k]? = w.heap[k]?) ∧ (w5.setRow (w.heap.size + 1) v).os = w.os ∧ (w5.setRow (w.heap.size + 1) v).tape = w.tape ∧ (w5.setRow (w.heap.size + 1) v).output = w.output) := fun w5 v r' c' ys h5 hw hl => by
    refine ⟨r', c', ys, rfl, wr_setRow hw _ (by omega), hl, ?_⟩
    rcases h5 with rfl | ⟨o, x, rfl⟩
    · exact fin.out _ 0 0 [] (by rw [setRow_size]; exact Nat.le_refl _) (fun k hk _ _ => setRow_other _ _ _ _ (by omega)) rfl rfl rfl
    · exact fin.out _ 0 0 [] (by rw [setRow_size]; simp [World.setCell]) (fun k hk _ _ => (setRow_other _ _ _ _ (by omega)).trans (Below.heap_setCell _ _ _ _ (by dsimp only; omega))) rfl rfl rfl
  have c0 := A2.out.cell 0
  have f0 := A2.out.free 0
  have c1 := A2.out.cell 1
  have f1 := A2.out.free 1
  by_cases k0 : K = 0
  · subst k0
    have A3 := hid (A2.out.set 0 (.int .i64 ((R : Int) + 1)))
    have R3 := hid (R2.out.other ⟨w.heap.size, 0, none⟩ (.int .i64 ((R : Int) + 1)) (by dsimp only; omega))
    have Z3 := hid (Z2.out.other ⟨w.heap.size, 0, none⟩ (.int .i64 ((R : Int) + 1)) (by dsimp only; omega))
    have a3 : RowAt (w2.setCell ⟨w.heap.size, 0, none⟩ (.int .i64 ((R : Int) + 1))) w.heap.size 25 #[.int .i64 ((R : Int) + 1), .int .i64 C, .slice (some ⟨b, 0, none⟩) q q] := A3.out
    go_wp2_with (first
      | refine wpList_load_row rfl 25 (.tmp 3) rfl w.heap.size rfl _ _ _ _ a3 Tryd.underlying25 rfl (by kernel_rfl) ?_
      | refine wpList_store_row rfl 25 (.tmp 4) (.tmp 26) rfl (w.heap.size + 1) #[.int .i64 ((R : Int) + 1), .int .i64 C, .slice (some ⟨b, 0, none⟩) q q] rfl rfl _ _ R3.out (by kernel_rfl) rfl (one3 _ _ _ _ _) ?_)
    refine bodyPost_ret (v := mxv ((R : Int) + 1) C (some ⟨b, 0, none⟩) q q) ?_ rfl (fin2.out _ _ _ _ _ (Or.inr ⟨0, _, rfl⟩) Z3.out HL.out)
    exact results_cell_row Tryd.results21 _ _ (w.heap.size + 1) _ _ _ _ rfl (R3.out.setRow _) Tryd.underlying25 rfl (by kernel_rfl)
  have d0 : (K == 0) = false := by simpa using k0
  by_cases k2 : K = 2
  · subst k2
    have A3 := hid (A2.out.set 1 (.int .i64 0))
    have R3 := hid (R2.out.other ⟨w.heap.size, 1, none⟩ (.int .i64 0) (by dsimp only; omega))
    have Z3 := hid (Z2.out.other ⟨w.heap.size, 1, none⟩ (.int .i64 0) (by dsimp only; omega))
    have a3 : RowAt (w2.setCell ⟨w.heap.size, 1, none⟩ (.int .i64 0)) w.heap.size 25 #[.int .i64 R, .int .i64 0, .slice (some ⟨b, 0, none⟩) q q] := A3.out
    go_wp2_with (first
      | refine wpList_load_row rfl 25 (.tmp 3) rfl w.heap.size rfl _ _ _ _ a3 Tryd.underlying25 rfl (by kernel_rfl) ?_
      | refine wpList_store_row rfl 25 (.tmp 4) (.tmp 26) rfl (w.heap.size + 1) #[.int .i64 R, .int .i64 0, .slice (some ⟨b, 0, none⟩) q q] rfl rfl _ _ R3.out (by kernel_rfl) rfl (one3 _ _ _ _ _) ?_)
    refine bodyPost_ret (v := mxv R 0 (some ⟨b, 0, none⟩) q q) ?_ rfl (fin2.out _ _ _ _ _ (Or.inr ⟨1, _, rfl⟩) Z3.out HL.out)
    exact results_cell_row Tryd.results21 _ _ (w.heap.size + 1) _ _ _ _ rfl (R3.out.setRow _) Tryd.underlying25 rfl (by kernel_rfl)
  have d2 : (K == 2) = false := by simpa using k2
  by_cases k1 : K = 1
  · subst k1
    clear c0 c1 f0 f1
    have x2 := A2.out.cell 2
    have hV : ∀ (w' : World) (r : Nat), r < 2 → (w'.alloc (.cells #[.int .i64 (-1), .int .i64 256] 2)).cell? ⟨w'.heap.size, r, none⟩ = some (.int .i64 (vv r)) := fun w' r hr => vv_at (RowAt.new w' _ _) hr
    have x2' : ∀ o, (w2.alloc o).cell? ⟨w.heap.size, 2, none⟩ = some (.slice (some ⟨b, 0, none⟩) q q) := fun o => (A2.out.alloc o).cell 2
    have q0 : (0 : Int) < (q : Int) := by omega
    go_wp2_with fail
    go_region_with ((go_at_call 18; refine (n_all W0 _ c a len cap (p + 1) 2 ?_ (by omega) (by decide) (by decide)).mono ?_; (first | exact S2.out.drew | exact (S2.out.alloc _).drew); rintro e w5 ⟨⟨t, rfl, ht0, ht1⟩, hs5, hg5⟩; obtain ⟨r, rfl⟩ := Int.eq_ofNat_of_zero_le ht0; have hr2 : r < 2 := (by omega); have hr2' : (r : Int) < 2 := (by omega); (first | have hB5 : w2.grownBy w5 (some c) := grown_trans (grown_drewN w2 1 _) hg5 | have hB5 : w2.grownBy w5 (some c) := grown_trans (grown_trans (World.grownBy_alloc w2 _ _) (grown_drewN _ 1 _)) hg5); (first | have cV : w5.cell? ⟨w2.heap.size, r, none⟩ = some (.int .i64 (vv r)) := vv_at (rowFar2 (RowAt.new w2 _ _).drew hg5 (by intro e; injection e with e; omega)) hr2 | skip); have A5 := rowFar2 A2.out hB5 (by intro e; injection e with e; omega); have R5 := rowFar2 R2.out hB5 (by intro e; injection e with e; omega); have Z5 := Z2.out.far hB5 (by intro e; injection e with e; omega); have y2 := A5.cell 2; have y2' : ∀ o, (w5.alloc o).cell? ⟨w.heap.size, 2, none⟩ = some (.slice (some ⟨b, 0, none⟩) q q) := (fun o => (A5.alloc o).cell 2); have zz := Z5.cell (i := 0) (by rw [HL.out]; omega); have zz' : ∀ o, (w5.alloc o).cell? ⟨b, 0, none⟩ = _ := (fun o => (Z5.alloc o).cell (i := 0) (by rw [HL.out]; omega)); have ff := Z5.free 0; have ff' : ∀ o, (w5.alloc o).frozen? ⟨b, 0, none⟩ = false := (fun o => (Z5.alloc o).free 0)))
    all_goals clear y2 y2' zz zz' ff ff' x2 x2' hV
    all_goals (try clear cV)
    all_goals first
      | (obtain ⟨X, hX⟩ : ∃ X, X = w5.setCell ⟨b, 0, none⟩ (.int .i64 (vv r)) := ⟨_, rfl⟩; rw [← hX]; have A6 : RowAt X w.heap.size 25 #[.int .i64 R, .int .i64 C, .slice (some ⟨b, 0, none⟩) q q] := (by rw [hX]; exact (A5).other _ _ (by dsimp only; omega)); have R6 : RowAt X (w.heap.size + 1) 25 #[.int .i64 0, .int .i64 0, .slice none 0 0] := (by rw [hX]; exact (R5).other _ _ (by dsimp only; omega)); have Z6 : Wr .i64 X b 0 (xs.set 0 (vv r)) := (by rw [hX]; exact spoilZ (Z5) (by rw [HL.out]; omega)); have F6 : w2.heap.size ≤ X.heap.size ∧ (∀ k, k < w.heap.size → k ≠ c → k ≠ b → X.heap[k]? = w2.heap[k]?) ∧ X.os = w2.os ∧ X.tape = w2.tape ∧ X.output = w2.output := (by rw [hX]; exact ⟨by simp [World.setCell]; exact hB5.size, fun k hk hc hb => (Below.heap_setCell _ _ _ _ (by dsimp only; omega)).trans (hB5.block k (by omega) (by intro e; injection e with e; exact hc e)), hB5.os, hB5.tape, hB5.output⟩); clear hX)
      | (obtain ⟨X, hX⟩ : ∃ X, X = (w5.alloc (.cells #[.int .i64 (-1), .int .i64 256] 2)).setCell ⟨b, 0, none⟩ (.int .i64 (vv r)) := ⟨_, rfl⟩; rw [← hX]; have A6 : RowAt X w.heap.size 25 #[.int .i64 R, .int .i64 C, .slice (some ⟨b, 0, none⟩) q q] := (by rw [hX]; exact (A5.alloc _).other _ _ (by dsimp only; omega)); have R6 : RowAt X (w.heap.size + 1) 25 #[.int .i64 0, .int .i64 0, .slice none 0 0] := (by rw [hX]; exact (R5.alloc _).other _ _ (by dsimp only; omega)); have Z6 : Wr .i64 X b 0 (xs.set 0 (vv r)) := (by rw [hX]; exact spoilZ (Z5.alloc _) (by rw [HL.out]; omega)); have F6 : w2.heap.size ≤ X.heap.size ∧ (∀ k, k < w.heap.size → k ≠ c → k ≠ b → X.heap[k]? = w2.heap[k]?) ∧ X.os = w2.os ∧ X.tape = w2.tape ∧ X.output = w2.output := (by rw [hX]; exact ⟨by simp [World.setCell]; exact Nat.le_succ_of_le hB5.size, fun k hk hc hb => (Below.heap_setCell _ _ _ _ (by dsimp only; omega)).trans ((Below.heap_alloc w5 _ k (by have := hB5.size; omega)).trans (hB5.block k (by omega) (by intro e; injection e with e; exact hc e))), hB5.os, hB5.tape, hB5.output⟩); clear hX)
    all_goals
      have A7 := A6
      have R7 := hid R6
      have Z7 := hid Z6
      have F7 := hid F6
      clear A6 R6 Z6 F6 A5 R5 Z5 hB5 hg5 hs5
    all_goals go_wp2_with (first
      | refine wpList_load_row rfl 25 (.tmp 3) rfl w.heap.size rfl _ _ _ _ A7 Tryd.underlying25 rfl (by kernel_rfl) ?_
      | refine wpList_store_row rfl 25 (.tmp 4) (.tmp 26) rfl (w.heap.size + 1) #[.int .i64 R, .int .i64 C, .slice (some ⟨b, 0, none⟩) q q] rfl rfl _ _ R7.out (by kernel_rfl) rfl (one3 _ _ _ _ _) ?_)
    all_goals refine bodyPost_ret (v := mxv R C (some ⟨b, 0, none⟩) q q) ?_ rfl ⟨R, C, xs.set 0 (vv r), rfl, wr_setRow Z7.out _ (by omega), (by rw [List.length_set]; exact HL.out), fin.out _ 0 0 [] (by rw [setRow_size]; exact F7.out.1) (fun k hk hc hb => (setRow_other _ _ _ _ (by omega)).trans (F7.out.2.1 k hk hc hb)) F7.out.2.2.1 F7.out.2.2.2.1 F7.out.2.2.2.2⟩
    all_goals exact results_cell_row Tryd.results21 _ _ (w.heap.size + 1) _ _ _ _ rfl (R7.out.setRow _) Tryd.underlying25 rfl (by kernel_rfl)
  have d1 : (K == 1) = false := by simpa using k1
  have a2 := A2.out
  go_wp2_with (first
    | refine wpList_load_row rfl 25 (.tmp 3) rfl w.heap.size rfl _ _ _ _ a2 Tryd.underlying25 rfl (by kernel_rfl) ?_
    | refine wpList_store_row rfl 25 (.tmp 4) (.tmp 26) rfl (w.heap.size + 1) #[.int .i64 R, .int .i64 C, .slice (some ⟨b, 0, none⟩) q q] rfl rfl _ _ R2.out (by kernel_rfl) rfl (one3 _ _ _ _ _) ?_)
  refine bodyPost_ret (v := mxv R C (some ⟨b, 0, none⟩) q q) ?_ rfl (fin2.out _ _ _ _ _ (Or.inl rfl) Z2.out HL.out)
  exact results_cell_row Tryd.results21 _ _ (w.heap.size + 1) _ _ _ _ rfl (R2.out.setRow _) Tryd.underlying25 rfl (by kernel_rfl)
end Go.Proofs.YtlobnmcjnaibaaaDoorR
namespace Go.Proofs.YtlobnmcjnaibaaaDoorR
open Go.RowKit
set_option maxRecDepth 20000 in
set_option maxHeartbeats 4000000 in
theorem drawMatInv (w : World) (a : Option Addr) (len cap : Nat) (hc : CodeOk w a len) (hlc : len ≤ cap) :
    Calls Tryd.prog 5 #[.slice a len cap] w fun e w' => ∃ (r c : Int) (b q : Nat) (xs : List Int), e = .returned (mxv r c (some ⟨b, 0, none⟩) q q) ∧ w.heap.size ≤ b ∧ Wr .i64 w' b 0 xs ∧ xs.length = q ∧ q ≤ 4096 ∧ Below w.heap.size w w' := by
  obtain ⟨W, hW⟩ : ∃ W, W = w.alloc (.cells #[.int .i64 0, .int .i64 0, .slice none 0 0] 25) := ⟨_, rfl⟩
  have hWs : W.heap.size = w.heap.size + 1 := by rw [hW, size_al]
  have L0 : Hid (Below w.heap.size w W) := by rw [hW]; exact (Below.refl _ _).alloc (Nat.le_refl _) _
  have R0 : Hid (RowAt W w.heap.size 25 #[.int .i64 0, .int .i64 0, .slice none 0 0]) := by rw [hW]; exact RowAt.new w _ _
  have HC : Hid (CodeOk W a len) := hc.below L0.out
  clear hc
  go_enter Tryd.func5, Tryd.ntmps5
  go_wp2_with (rw [← hW])
  try rw [← hW]
  clear hW
  refine (source_all W a len cap HC.out hlc).mono ?_
  rintro e w1 ⟨rfl, hs1, hb1⟩
  have S1 := hid hs1
  have R1 := hid (R0.out.below hb1 (by omega))
  have L1 := hid (L0.out.trans (hb1.mono (by omega)))
  have z1 := hb1.size
  obtain ⟨c, hcW⟩ : ∃ c, c = W.heap.size := ⟨_, rfl⟩
  rw [← hcW] at S1 ⊢
  have hc1 : w.heap.size < c := by omega
  have hc2 : c ≤ w.heap.size + 1 := by omega
  clear hs1 hb1 R0 hcW
  go_wp2_with fail
  refine (n_all W _ c a len cap 0 5 S1.out (by omega) (by decide) (by decide)).mono ?_
  rintro e w2 ⟨⟨t, rfl, ht0, ht1⟩, hs2, hg2⟩
  obtain ⟨n, hn, hn1, hn2⟩ : ∃ n : Nat, 1 + t = (n : Int) ∧ 1 ≤ n ∧ n ≤ 64 := ⟨(1 + t).toNat, by omega, by omega, by omega⟩
  have S2 := hid hs2
  have R2 := hid (rowFar2 R1.out hg2 (by intro e; injection e with e; omega))
  have L2 : Hid (Below w.heap.size w w2) := L1.out.grown hg2 (by omega) (fun k hk => by cases hk; omega)
  have z2 := hg2.size
  clear hs2 hg2 R1 L1 S1
  go_wp2_with fail
  refine (drawMatrix W _ c a len cap (0 + 1) n n (n * n) S2.out (by omega) hn1 hn2 hn1 hn2 rfl).mono ?_
  rintro e w3 ⟨b, xs, rfl, hbw, hw3, hl3, ⟨p3, hs3, hp3⟩, hg3⟩
  obtain ⟨q, hq⟩ : ∃ q, q = n * n := ⟨_, rfl⟩
  have hq4 : q ≤ 4096 := by have : q ≤ 64 * 64 := by { rw [hq]; exact Nat.mul_le_mul hn2 hn2 }; omega
  have hq1 : 1 ≤ q := by rw [hq]; exact Nat.mul_le_mul hn1 hn1
  rw [← hq] at hl3 ⊢
  have S3 := hid hs3
  have W3 := hid hw3
  have HL := hid hl3
  have R3 := hid (rowFar2 R2.out hg3 (by intro e; injection e with e; omega))
  have L3 : Hid (Below w.heap.size w w3) := L2.out.grown hg3 (by omega) (fun k hk => by cases hk; omega)
  have z3 := hg3.size
  have hcl : c < b := by have := S2.out.lt; omega
  have hbl := hw3.lt
  clear hs3 hw3 hl3 hg3 R2 L2 S2 hq hn
  obtain ⟨X, hX⟩ : ∃ X, X = w3.alloc (.cells #[.int .i64 n, .int .i64 n, .slice (some ⟨b, 0, none⟩) q q] 25) := ⟨_, rfl⟩
  have zX : X.heap.size = w3.heap.size + 1 := by rw [hX, size_al]
  have SX : Hid (Src W X c a len cap p3) := by rw [hX]; exact S3.out.alloc _
  have WX : Hid (Wr .i64 X b 0 xs) := by rw [hX]; exact W3.out.alloc _
  have RX : Hid (RowAt X w.heap.size 25 #[.int .i64 0, .int .i64 0, .slice none 0 0]) := by rw [hX]; exact R3.out.alloc _
  have MX : Hid (RowAt X w3.heap.size 25 #[.int .i64 n, .int .i64 n, .slice (some ⟨b, 0, none⟩) q q]) := by rw [hX]; exact RowAt.new w3 _ _
  have LX : Hid (Below w.heap.size w X) := by rw [hX]; exact L3.out.alloc (by omega) _
  clear S3 W3 R3 L3
  go_wp2_with (rw [← hX])
  try rw [← hX]
  clear hX
  refine (one_all W _ c a len cap p3 8 SX.out (by omega) (by decide) (by decide)).mono ?_
  rintro e w5 ⟨⟨t5, rfl⟩, hs5, hg5⟩
  have S5 := hid hs5
  have W5 := hid (WX.out.far hg5 (by intro e; injection e with e; omega))
  have R5 := hid (rowFar2 RX.out hg5 (by intro e; injection e with e; omega))
  have M5 := hid (rowFar2 MX.out hg5 (by intro e; injection e with e; omega))
  have L5 : Hid (Below w.heap.size w w5) := LX.out.grown hg5 (by omega) (fun k hk => by cases hk; omega)
  have z5 := hg5.size
  clear hs5 hg5 SX WX RX MX LX
  cases t5
  · have m5 := M5.out
    go_wp2_with (first
      | refine wpList_load_row rfl 25 (.tmp 5) rfl w3.heap.size rfl _ _ _ _ m5 Tryd.underlying25 rfl (by kernel_rfl) ?_
      | refine wpList_store_row rfl 25 (.tmp 2) (.tmp 20) rfl w.heap.size #[.int .i64 n, .int .i64 n, .slice (some ⟨b, 0, none⟩) q q] rfl rfl _ _ R5.out (by kernel_rfl) rfl (one3 _ _ _ _ _) ?_)
    refine bodyPost_ret (v := mxv n n (some ⟨b, 0, none⟩) q q) ?_ rfl ⟨n, n, b, q, xs, rfl, by omega, wr_setRow W5.out _ (by omega), HL.out, hq4, below_setRow L5.out _ _ (Nat.le_refl _)⟩
    exact results_cell_row Tryd.results5 _ _ w.heap.size _ _ _ _ rfl (R5.out.setRow _) Tryd.underlying25 rfl (by kernel_rfl)
  · have m5 := M5.out
    go_wp2_with (refine wpList_load_row rfl 25 (.tmp 5) rfl w3.heap.size rfl _ _ _ _ m5 Tryd.underlying25 rfl (by kernel_rfl) ?_)
    refine (spoilMx W _ c a len cap (p3 + 1) n n q b xs S5.out (by omega) hn2 hq1 W5.out HL.out hcl hq4).mono ?_
    rintro e w6 ⟨r', c', ys, rfl, hw6, hl6, hz6, hk6, ho1, ho2, ho3⟩
    have W6 := hid hw6
    have HL6 := hid hl6
    have R6 : Hid (RowAt w6 w.heap.size 25 #[.int .i64 0, .int .i64 0, .slice none 0 0]) := (hk6 _ R5.out.lt (by omega) (by omega)).trans R5.out
    have M6 : Hid (RowAt w6 w3.heap.size 25 #[.int .i64 n, .int .i64 n, .slice (some ⟨b, 0, none⟩) q q]) := (hk6 _ M5.out.lt (by omega) (by omega)).trans M5.out
    have L6 : Hid (Below w.heap.size w w6) := ⟨ho1.trans L5.out.os, ho2.trans L5.out.tape, ho3.trans L5.out.output, by omega, fun k hk => (hk6 k (by omega) (by omega) (by omega)).trans (L5.out.block k hk)⟩
    clear hw6 hl6 hk6 ho1 ho2 ho3 m5 S5 W5 R5 M5 L5
    have M7 := hid (M6.out.setRow #[.int .i64 r', .int .i64 c', .slice (some ⟨b, 0, none⟩) q q])
    have R7 := hid (R6.out.otherRow w3.heap.size #[.int .i64 r', .int .i64 c', .slice (some ⟨b, 0, none⟩) q q] (by omega))
    have W7 := hid (wr_setRow W6.out #[.int .i64 r', .int .i64 c', .slice (some ⟨b, 0, none⟩) q q] (g := w3.heap.size) (by omega))
    have L7 := hid (below_setRow L6.out w3.heap.size #[.int .i64 r', .int .i64 c', .slice (some ⟨b, 0, none⟩) q q] (by omega))
    have m7 := M7.out
    go_wp2_with (first
      | refine wpList_store_row rfl 25 (.tmp 5) (.tmp 19) rfl w3.heap.size #[.int .i64 r', .int .i64 c', .slice (some ⟨b, 0, none⟩) q q] rfl rfl _ _ M6.out (by kernel_rfl) rfl (one3 _ _ _ _ _) ?_
      | refine wpList_load_row rfl 25 (.tmp 5) rfl w3.heap.size rfl _ _ _ _ m7 Tryd.underlying25 rfl (by kernel_rfl) ?_
      | refine wpList_store_row rfl 25 (.tmp 2) (.tmp 20) rfl w.heap.size #[.int .i64 r', .int .i64 c', .slice (some ⟨b, 0, none⟩) q q] rfl rfl _ _ R7.out (by kernel_rfl) rfl (one3 _ _ _ _ _) ?_)
    refine bodyPost_ret (v := mxv r' c' (some ⟨b, 0, none⟩) q q) ?_ rfl ⟨r', c', b, q, ys, rfl, by omega, wr_setRow W7.out _ (by omega), HL6.out, hq4, below_setRow L7.out _ _ (Nat.le_refl _)⟩
    exact results_cell_row Tryd.results5 _ _ w.heap.size _ _ _ _ rfl (R7.out.setRow _) Tryd.underlying25 rfl (by kernel_rfl)
end Go.Proofs.YtlobnmcjnaibaaaDoorR
namespace Go.Proofs.YtlobnmcjnaibaaaDoorR
open Go.RowKit
theorem Wr.ints3 {k : IntKind} {w : World} {b off len : Nat} {xs : List Int} (h : Wr k w b off xs) (e : xs.length = len) : Ints k w (some ⟨b, off, none⟩) len len xs := by subst e; exact h.ints (Nat.le_refl _)
theorem fld0 (x0 x1 x2 x3 : Value) (w : World) : (Instr.field 28 (.agg #[x0, x1, x2, x3]) 0).run Tryd.prog w = .ok x0 w := by kernel_rfl
theorem fld1 (x0 x1 x2 x3 : Value) (w : World) : (Instr.field 28 (.agg #[x0, x1, x2, x3]) 1).run Tryd.prog w = .ok (.agg #[x1, x2, x3]) w := by kernel_rfl
theorem dot_sm {xs ys : List Nat} (hx : Small xs) (hy : Small ys) (n i j : Nat) : ∀ k, dotN xs ys n n i j k = (F.sm k (fun t => fm (mo n xs) i t * fm (mo n ys) t j)).v
  | 0 => rfl
  | k + 1 => by
    show dotN xs ys n n i j k ^^^ gm 8 29 (xs.getD (i * n + k) 0) (ys.getD (k * n + j) 0) = _
    have e1 : (fm (mo n xs) i k).v = xs.getD (i * n + k) 0 := fm_v (A := mo n xs) (hx _)
    have e2 : (fm (mo n ys) k j).v = ys.getD (k * n + j) 0 := fm_v (A := mo n ys) (hy _)
    rw [dot_sm hx hy n i j k, ← e1, ← e2, ← F.mul_v, ← F.add_v]; rfl
theorem mul_unit {n : Nat} {xs ys : List Nat} (hn : 1 ≤ n) (hx : Small xs) (hy : Small ys) (h : IsInv n (fm (mo n xs)) (fm (mo n ys))) : mulL xs ys n n n = unitL n :=
  list_ext_mo hn rfl (mulL_len _ _ _ _ _) (unitL_len n) fun i j hi hj => by
    rw [unitL_at hi hj]
    unfold mo; rw [mulL_at hi hj, dot_sm hx hy n i j n, h i j hi hj]
    split <;> rfl
theorem mfault_of {n : Nat} {X : List Nat} (h1 : 1 ≤ n) (h2 : n ≤ 64) (hl : X.length = n * n) (hs : Small X) : mfault n n (nl X) = 0 := if_pos ⟨by omega, by omega, by omega, by omega, by rw [nl_len, hl]; simp, fun x hx => by
  unfold nl at hx; obtain ⟨y, hy, rfl⟩ := List.mem_map.1 hx
  obtain ⟨i, hi, rfl⟩ := List.getElem_of_mem hy
  have := hs i; rw [List.getD_eq_getElem?_getD, List.getElem?_eq_getElem hi] at this
  have h3 : X[i] < 256 := this
  omega⟩
theorem imatinv_lt (n q : Nat) (hn1 : 1 ≤ n) (hn : n ≤ 64) (hq : q = n * n) (xs : List Nat) (hs : Small xs) (a : Option Addr) (cap : Nat) (w : World) (hT : Tab w) (h : Ints .i64 w a q cap (nl xs)) (F1 : mfault n n (nl xs) = 0) (RK : rank n n (fm (mo n xs)) < n) :
    Calls Tryd.prog 6 #[mxv n n a q cap] w fun e w' => e = .returned (mrNone 5) ∧ Below w.heap.size w w' := by
  refine (imatinv n q hn1 hn hq xs hs a cap w hT h F1).mono ?_
  rintro e w' ⟨hb, ⟨h1, _⟩ | ⟨_, he⟩⟩
  · omega
  · exact ⟨he, hb⟩
theorem imatinv_eq (n q : Nat) (hn1 : 1 ≤ n) (hn : n ≤ 64) (hq : q = n * n) (xs : List Nat) (hs : Small xs) (a : Option Addr) (cap : Nat) (w : World) (hT : Tab w) (h : Ints .i64 w a q cap (nl xs)) (F1 : mfault n n (nl xs) = 0) (RK : rank n n (fm (mo n xs)) = n) :
    Calls Tryd.prog 6 #[mxv n n a q cap] w fun e w' => ∃ g X, e = .returned (.agg #[.int .i64 0, .int .i64 n, .int .i64 n, .slice (some ⟨g, 0, none⟩) q q]) ∧ w.heap.size ≤ g ∧ Wr .i64 w' g 0 (nl X) ∧ X.length = q ∧ Small X ∧ IsInv n (fm (mo n xs)) (fm (mo n X)) ∧ IsInv n (fm (mo n X)) (fm (mo n xs)) ∧ Below w.heap.size w w' := by
  refine (imatinv n q hn1 hn hq xs hs a cap w hT h F1).mono ?_
  rintro e w' ⟨hb, ⟨_, g, X, h1, h2, h3, h4, h5, h6, h7⟩ | ⟨h1, _⟩⟩
  · exact ⟨g, X, h1, h2, h3, h4, h5, h6, h7, hb⟩
  · omega
set_option maxRecDepth 20000 in
set_option maxHeartbeats 16000000 in
theorem fnInverse_small (a : Option Addr) (len cap : Nat) (w : World) (hT : Tab w) (hc : CodeOk w a len) (hlc : len ≤ cap) (hle : len ≤ 1048576) :
    Calls Tryd.prog 3 #[.slice a len cap] w fun e w' => e = .returned (.bool true) ∧ Below w.heap.size w w' := by
  have d0 : decide ((1048576 : Int) < (len : Int)) = false := by simp; omega
  have hf0 := fld0
  have hf1 := fld1
  have HT := hid hT
  have HCd := hid hc
  clear hT hc
  go_enter Tryd.func3, Tryd.ntmps3
  have L_w : Hid (Below w.heap.size w w) := Below.refl _ _
  go_wp2_with fail
  refine (drawMatInv w a len cap HCd.out hlc).mono ?_
  rintro e v1 ⟨r, c, b, q, xs, rfl, hbw, hw1, hl1, hq4, hb⟩
  have sz_v1 : w.heap.size ≤ v1.heap.size := hb.size
  have L_v1 : Hid (Below w.heap.size w v1) := L_w.out.trans (hb.mono L_w.out.size)
  have WX_v1 := hid hw1
  have hxl := hid hl1
  clear hb hw1 hl1 d0 L_w
  obtain ⟨v2, hv2⟩ : ∃ v, v = v1.alloc (.cells #[.int .i64 r, .int .i64 c, .slice (some ⟨b, 0, none⟩) q q] 25) := ⟨_, rfl⟩
  have sz_v2 : v2.heap.size = v1.heap.size + 1 := by rw [hv2, size_al]
  have WX_v2 : Hid (Wr .i64 v2 b 0 xs) := by rw [hv2]; exact WX_v1.out.alloc _
  have L_v2 : Hid (Below w.heap.size w v2) := by rw [hv2]; exact L_v1.out.alloc L_v1.out.size _
  have M_v2 : Hid (RowAt v2 v1.heap.size 25 #[.int .i64 r, .int .i64 c, .slice (some ⟨b, 0, none⟩) q q]) := by rw [hv2]; exact RowAt.next v1 _ _ (by omega)
  by_cases hok : mfault r c xs = 0 ∧ r = c
  · obtain ⟨f1, hrc⟩ := hok
    obtain ⟨n, n', rfl, rfl, h1, h2, h3, h4, zs, rfl, h5, h6⟩ := mfault_ok f1
    obtain rfl : n = n' := by omega
    have F1 := hid f1
    have HS : Hid (Small zs) := small_of h6
    have HQ : Hid (q = n * n) := by have := hxl.out; rw [nl_len] at this; show _ = _; omega
    clear f1 h6 h5 h3 h4 hrc
    by_cases hrk : rank n n (fm (mo n zs)) = n
    · have RK := hid hrk
      clear hrk
      have ld0 := M_v2.out
      go_wp2_with (first
        | (rw [← hv2])
        | refine wpList_load_row rfl 25 (.tmp 3) rfl v1.heap.size rfl _ _ _ _ ld0 Tryd.underlying25 rfl (by kernel_rfl) ?_)
      try rw [← hv2]
      clear ld0
      clear hv2 WX_v1 L_v1
      refine (imatinv_eq n q h1 h2 HQ.out zs HS.out (some ⟨b, 0, none⟩) q _ (HT.out.belowS L_v2.out) (WX_v2.out.ints3 hxl.out) F1.out RK.out).mono ?_
      rintro e v3 ⟨g, X, rfl, hgw, hWX, hXl, hXs, i1, i2, hb⟩
      have sz_v3 : v2.heap.size ≤ v3.heap.size := hb.size
      have WX_v3 : Hid (Wr .i64 v3 b 0 (nl zs)) := WX_v2.out.below hb WX_v2.out.lt
      have M_v3 : Hid (RowAt v3 v1.heap.size 25 #[.int .i64 n, .int .i64 n, .slice (some ⟨b, 0, none⟩) q q]) := M_v2.out.below hb M_v2.out.lt
      have L_v3 : Hid (Below w.heap.size w v3) := L_v2.out.trans (hb.mono L_v2.out.size)
      have GX_v3 := hid hWX
      have XL := hid hXl
      have XS := hid hXs
      have I1 := hid i1
      have I2 := hid i2
      clear hb hWX hXl hXs i1 i2 WX_v2 M_v2 L_v2
      obtain ⟨v4, hv4⟩ : ∃ v, v = v3.alloc (.cells #[.int .i64 0, .int .i64 n, .int .i64 n, .slice (some ⟨g, 0, none⟩) q q] 28) := ⟨_, rfl⟩
      have sz_v4 : v4.heap.size = v3.heap.size + 1 := by rw [hv4, size_al]
      have WX_v4 : Hid (Wr .i64 v4 b 0 (nl zs)) := by rw [hv4]; exact WX_v3.out.alloc _
      have M_v4 : Hid (RowAt v4 v1.heap.size 25 #[.int .i64 n, .int .i64 n, .slice (some ⟨b, 0, none⟩) q q]) := by rw [hv4]; exact M_v3.out.alloc _
      have GX_v4 : Hid (Wr .i64 v4 g 0 (nl X)) := by rw [hv4]; exact GX_v3.out.alloc _
      have L_v4 : Hid (Below w.heap.size w v4) := by rw [hv4]; exact L_v3.out.alloc L_v3.out.size _
      have G_v4 : Hid (RowAt v4 v3.heap.size 28 #[.int .i64 0, .int .i64 n, .int .i64 n, .slice (some ⟨g, 0, none⟩) q q]) := by rw [hv4]; exact RowAt.next v3 _ _ (by omega)
      go_wp2_with (rw [← hv4])
      try rw [← hv4]
      clear hv4 WX_v3 M_v3 GX_v3 L_v3
      have xm0 := M_v4.out.cell 0
      have xm1 := M_v4.out.cell 1
      have xm2 := M_v4.out.cell 2
      have xg0 := G_v4.out.cell 0
      go_wp2_with fail
      go_region_held3 (fun wx => wx.cell? ⟨v3.heap.size, 0, none⟩ = some (.int .i64 0) ∧ wx.cell? ⟨v1.heap.size, 0, none⟩ = some (.int .i64 n) ∧ wx.cell? ⟨v1.heap.size, 1, none⟩ = some (.int .i64 n) ∧ wx.cell? ⟨v1.heap.size, 2, none⟩ = some (.slice (some ⟨b, 0, none⟩) q q)) ((first | (go_keep; done) | exact ⟨pG.cell 0, pM.cell 0, pM.cell 1, pM.cell 2⟩)) ((go_at_call 7; refine (sinv_ok n h1 h2 zs (fun _ _ _ _ => HS.out _) (some ⟨b, 0, none⟩) q q _ (WX_v4.out.drew.ints3 hxl.out) HQ.out F1.out RK.out).mono ?_; rintro e v5 ⟨g2, X2, rfl, _, _, _, _, _, _, hb⟩; have pG := G_v4.out.drew.below hb G_v4.out.lt; have pM := M_v4.out.drew.below hb M_v4.out.lt; have hbb := (Below.refl v4.heap.size v4).drew.trans hb))
      have sz_v5 : v4.heap.size ≤ v5.heap.size := hbb.size
      clear pG pM xm0 xm1 xm2 xg0
      have WX_v5 : Hid (Wr .i64 v5 b 0 (nl zs)) := WX_v4.out.below hbb WX_v4.out.lt
      have M_v5 : Hid (RowAt v5 v1.heap.size 25 #[.int .i64 n, .int .i64 n, .slice (some ⟨b, 0, none⟩) q q]) := M_v4.out.below hbb M_v4.out.lt
      have GX_v5 : Hid (Wr .i64 v5 g 0 (nl X)) := GX_v4.out.below hbb GX_v4.out.lt
      have G_v5 : Hid (RowAt v5 v3.heap.size 28 #[.int .i64 0, .int .i64 n, .int .i64 n, .slice (some ⟨g, 0, none⟩) q q]) := G_v4.out.below hbb G_v4.out.lt
      have L_v5 : Hid (Below w.heap.size w v5) := L_v4.out.trans (hbb.mono L_v4.out.size)
      clear hbb hb WX_v4 M_v4 GX_v4 G_v4 L_v4
      have ld0 := M_v5.out
      go_wp2_with (refine wpList_load_row rfl 25 (.tmp 3) rfl v1.heap.size rfl _ _ _ _ ld0 Tryd.underlying25 rfl (by kernel_rfl) ?_)
      clear ld0
      refine (sfault n n (some ⟨b, 0, none⟩) q q (nl zs) _ (WX_v5.out.ints3 hxl.out) (by omega)).mono ?_
      rintro e v6 ⟨rfl, hv⟩
      have hb : Below v5.heap.size v5 v6 := by rw [hv]; exact (Below.refl _ _).alloc (Nat.le_refl _) _
      clear hv
      have sz_v6 : v5.heap.size ≤ v6.heap.size := hb.size
      have WX_v6 : Hid (Wr .i64 v6 b 0 (nl zs)) := WX_v5.out.below hb WX_v5.out.lt
      have M_v6 : Hid (RowAt v6 v1.heap.size 25 #[.int .i64 n, .int .i64 n, .slice (some ⟨b, 0, none⟩) q q]) := M_v5.out.below hb M_v5.out.lt
      have GX_v6 : Hid (Wr .i64 v6 g 0 (nl X)) := GX_v5.out.below hb GX_v5.out.lt
      have G_v6 : Hid (RowAt v6 v3.heap.size 28 #[.int .i64 0, .int .i64 n, .int .i64 n, .slice (some ⟨g, 0, none⟩) q q]) := G_v5.out.below hb G_v5.out.lt
      have L_v6 : Hid (Below w.heap.size w v6) := L_v5.out.trans (hb.mono L_v5.out.size)
      clear hb WX_v5 M_v5 GX_v5 G_v5 L_v5
      have xm0 := M_v6.out.cell 0
      have xm1 := M_v6.out.cell 1
      have xg0 := G_v6.out.cell 0
      rw [F1.out]
      have dn : ((n : Int) != (n : Int)) = false := by simp
      go_wp2_with fail
      have xm2 := M_v6.out.cell 2
      obtain ⟨K, hK⟩ : ∃ K, rank n n (fm (mo n zs)) = K := ⟨_, rfl⟩
      have HK := hid hK
      have hKn : K = n := by rw [← hK]; exact RK.out
      clear hK
      subst hKn
      have dk : decide ((K : Int) < (K : Int)) = false := by simp
      go_region_held3 (fun wx => wx.cell? ⟨v1.heap.size, 0, none⟩ = some (.int .i64 K) ∧ wx.cell? ⟨v1.heap.size, 1, none⟩ = some (.int .i64 K) ∧ wx.cell? ⟨v1.heap.size, 2, none⟩ = some (.slice (some ⟨b, 0, none⟩) q q)) ((first | (go_keep; done) | exact ⟨pM.cell 0, pM.cell 1, pM.cell 2⟩)) ((go_at_call 9; refine (imatrank K K q K h1 h2 h1 h2 HQ.out zs HS.out HK (some ⟨b, 0, none⟩) q _ (HT.out.belowS L_v6.out).drew (WX_v6.out.drew.ints3 hxl.out) F1.out).mono ?_; rintro e v7 ⟨rfl, hb⟩; have pM := M_v6.out.drew.below hb M_v6.out.lt; have hbb := (Below.refl v6.heap.size v6).drew.trans hb))
      have sz_v7 : v6.heap.size ≤ v7.heap.size := hbb.size
      clear pM xm0 xm1 xm2 xg0
      have WX_v7 : Hid (Wr .i64 v7 b 0 (nl zs)) := WX_v6.out.below hbb WX_v6.out.lt
      have M_v7 : Hid (RowAt v7 v1.heap.size 25 #[.int .i64 K, .int .i64 K, .slice (some ⟨b, 0, none⟩) q q]) := M_v6.out.below hbb M_v6.out.lt
      have GX_v7 : Hid (Wr .i64 v7 g 0 (nl X)) := GX_v6.out.below hbb GX_v6.out.lt
      have G_v7 : Hid (RowAt v7 v3.heap.size 28 #[.int .i64 0, .int .i64 K, .int .i64 K, .slice (some ⟨g, 0, none⟩) q q]) := G_v6.out.below hbb G_v6.out.lt
      have L_v7 : Hid (Below w.heap.size w v7) := L_v6.out.trans (hbb.mono L_v6.out.size)
      clear hbb hb WX_v6 M_v6 GX_v6 G_v6 L_v6
      have xg0 := G_v7.out.cell 0
      have xm0 := M_v7.out.cell 0
      have xg1 := G_v7.out.cell 1
      have xm1 := M_v7.out.cell 1
      have xg2 := G_v7.out.cell 2
      have xm2 := M_v7.out.cell 2
      have xg3 := G_v7.out.cell 3
      have F2 : Hid (mfault K K (nl X) = 0) := mfault_of h1 h2 (XL.out.trans HQ.out) XS.out
      have U1 : Hid (mulL zs X K K K = unitL K) := mul_unit h1 HS.out XS.out I1.out
      have U2 : Hid (mulL X zs K K K = unitL K) := mul_unit h1 XS.out HS.out I2.out
      have UL : Hid ((nl (unitL K)).length ≤ 1048576) := by show _ ≤ _; rw [nl_len, unitL_len, ← HQ.out]; omega
      have UQ : Hid ((nl (unitL K)).length = q) := by show _ = _; rw [nl_len, unitL_len]; exact HQ.out.symm
      have ZL : Hid (zs.length = K * K) := by have := hxl.out; rw [nl_len] at this; exact this.trans HQ.out
      go_wp2_with fail
      go_region_held3 (fun wx => wx.cell? ⟨v3.heap.size, 0, none⟩ = some (.int .i64 0) ∧ wx.cell? ⟨v3.heap.size, 1, none⟩ = some (.int .i64 K) ∧ wx.cell? ⟨v3.heap.size, 2, none⟩ = some (.int .i64 K) ∧ wx.cell? ⟨v3.heap.size, 3, none⟩ = some (.slice (some ⟨g, 0, none⟩) q q) ∧ wx.cell? ⟨v1.heap.size, 0, none⟩ = some (.int .i64 K) ∧ wx.cell? ⟨v1.heap.size, 1, none⟩ = some (.int .i64 K) ∧ wx.cell? ⟨v1.heap.size, 2, none⟩ = some (.slice (some ⟨b, 0, none⟩) q q)) ((first | (go_keep; done) | exact ⟨pG6.cell 0, pG6.cell 1, pG6.cell 2, pG6.cell 3, pM6.cell 0, pM6.cell 1, pM6.cell 2⟩ | exact ⟨pG5.cell 0, pG5.cell 1, pG5.cell 2, pG5.cell 3, pM5.cell 0, pM5.cell 1, pM5.cell 2⟩ | exact ⟨pG4.cell 0, pG4.cell 1, pG4.cell 2, pG4.cell 3, pM4.cell 0, pM4.cell 1, pM4.cell 2⟩ | exact ⟨pG3.cell 0, pG3.cell 1, pG3.cell 2, pG3.cell 3, pM3.cell 0, pM3.cell 1, pM3.cell 2⟩ | exact ⟨pG2.cell 0, pG2.cell 1, pG2.cell 2, pG2.cell 3, pM2.cell 0, pM2.cell 1, pM2.cell 2⟩ | exact ⟨pG1.cell 0, pG1.cell 1, pG1.cell 2, pG1.cell 3, pM1.cell 0, pM1.cell 1, pM1.cell 2⟩)) ((first | (go_at_call 11; (fail_if_success have hh := hb1); refine (imatmul_ok K K K h1 h2 h1 h2 h1 h2 zs X HS.out XS.out ZL.out (XL.out.trans HQ.out) (some ⟨b, 0, none⟩) q q (some ⟨g, 0, none⟩) q q _ (HT.out.belowS L_v7.out.drew) (WX_v7.out.drew.ints3 hxl.out) (GX_v7.out.drew.ints3 (by rw [nl_len]; exact XL.out)) F1.out F2.out).mono ?_; rintro e y1 ⟨m1, q1, hq1, rfl, hm1, hP1, hb1⟩; rw [U1.out] at hP1; obtain rfl : q = q1 := HQ.out.trans hq1.symm; clear hq1; have pG1 := G_v7.out.drew.below hb1 G_v7.out.drew.lt; have pM1 := M_v7.out.drew.below hb1 M_v7.out.drew.lt; have wX1 := WX_v7.out.drew.below hb1 WX_v7.out.drew.lt; have gX1 := GX_v7.out.drew.below hb1 GX_v7.out.drew.lt; have LL1 := L_v7.out.drew.trans (hb1.mono L_v7.out.drew.size)) | (go_at_call 12; (fail_if_success have hh := hb2); refine (lwUnit_is K q h1 h2 HQ.out _).mono ?_; rintro e y2 ⟨m2, rfl, hm2, hP2, hb2⟩; have pG2 := pG1.below hb2 pG1.lt; have pM2 := pM1.below hb2 pM1.lt; have wX2 := wX1.below hb2 wX1.lt; have gX2 := gX1.below hb2 gX1.lt; have LL2 := LL1.trans (hb2.mono LL1.size); have hP1b := hP1.below hb2 hP1.lt) | (go_at_call 10; (fail_if_success have hh := hb3); refine (lwMatrix_eq _ _ _ _ _ _ _ _ (nl (unitL K)) _ ?_ ?_ UL.out).mono ?_; exact hP1b.ints3 UQ.out; exact hP2.ints3 UQ.out; rintro e y3 ⟨rfl, hb3⟩; have pG3 := pG2.below hb3 pG2.lt; have pM3 := pM2.below hb3 pM2.lt; have wX3 := wX2.below hb3 wX2.lt; have gX3 := gX2.below hb3 gX2.lt; have LL3 := LL2.trans (hb3.mono LL2.size)) | (go_at_call 11; (fail_if_success have hh := hb4); refine (imatmul_ok K K K h1 h2 h1 h2 h1 h2 X zs XS.out HS.out (XL.out.trans HQ.out) ZL.out (some ⟨g, 0, none⟩) q q (some ⟨b, 0, none⟩) q q _ (HT.out.belowS LL3) (gX3.ints3 (by rw [nl_len]; exact XL.out)) (wX3.ints3 hxl.out) F2.out F1.out).mono ?_; rintro e y4 ⟨m4, q4, hq4, rfl, hm4, hP4, hb4⟩; rw [U2.out] at hP4; obtain rfl : q = q4 := HQ.out.trans hq4.symm; clear hq4; have pG4 := pG3.below hb4 pG3.lt; have pM4 := pM3.below hb4 pM3.lt; have wX4 := wX3.below hb4 wX3.lt; have gX4 := gX3.below hb4 gX3.lt; have LL4 := LL3.trans (hb4.mono LL3.size)) | (go_at_call 12; (fail_if_success have hh := hb5); refine (lwUnit_is K q h1 h2 HQ.out _).mono ?_; rintro e y5 ⟨m5, rfl, hm5, hP5, hb5⟩; have pG5 := pG4.below hb5 pG4.lt; have pM5 := pM4.below hb5 pM4.lt; have wX5 := wX4.below hb5 wX4.lt; have gX5 := gX4.below hb5 gX4.lt; have LL5 := LL4.trans (hb5.mono LL4.size); have hP4b := hP4.below hb5 hP4.lt) | (go_at_call 10; (fail_if_success have hh := hb6); refine (lwMatrix_eq _ _ _ _ _ _ _ _ (nl (unitL K)) _ ?_ ?_ UL.out).mono ?_; exact hP4b.ints3 UQ.out; exact hP5.ints3 UQ.out; rintro e y6 ⟨rfl, hb6⟩; have pG6 := pG5.below hb6 pG5.lt; have pM6 := pM5.below hb6 pM5.lt; have wX6 := wX5.below hb6 wX5.lt; have gX6 := gX5.below hb6 gX5.lt; have LL6 := LL5.trans (hb6.mono LL5.size))))
      have L9 := hid LL6
      clear pG1 pM1 wX1 gX1 LL1 hb1 pG2 pM2 wX2 gX2 LL2 hb2 pG3 pM3 wX3 gX3 LL3 hb3 pG4 pM4 wX4 gX4 LL4 hb4 pG5 pM5 wX5 gX5 LL5 hb5 pG6 pM6 wX6 gX6 LL6 hb6 xg0 xg1 xg2 xg3 xm0 xm1 xm2 hP1 hP2 hP4 hP5 hP1b hP4b
      go_wp2
      go_ret
      exact ⟨rfl, L9.out⟩
    · have RK : Hid (rank n n (fm (mo n zs)) < n) := by have := cntP_le (fun c => ¬ Dep n n (fm (mo n zs)) c) n; show _ < _; unfold rank at hrk ⊢; omega
      clear hrk
      have ld0 := M_v2.out
      go_wp2_with (first
        | (rw [← hv2])
        | refine wpList_load_row rfl 25 (.tmp 3) rfl v1.heap.size rfl _ _ _ _ ld0 Tryd.underlying25 rfl (by kernel_rfl) ?_)
      try rw [← hv2]
      clear ld0
      clear hv2 WX_v1 L_v1
      refine (imatinv_lt n q h1 h2 HQ.out zs HS.out (some ⟨b, 0, none⟩) q _ (HT.out.belowS L_v2.out) (WX_v2.out.ints3 hxl.out) F1.out RK.out).mono ?_
      rintro e v3 ⟨rfl, hb⟩
      have sz_v3 : v2.heap.size ≤ v3.heap.size := hb.size
      have WX_v3 : Hid (Wr .i64 v3 b 0 (nl zs)) := WX_v2.out.below hb WX_v2.out.lt
      have M_v3 : Hid (RowAt v3 v1.heap.size 25 #[.int .i64 n, .int .i64 n, .slice (some ⟨b, 0, none⟩) q q]) := M_v2.out.below hb M_v2.out.lt
      have L_v3 : Hid (Below w.heap.size w v3) := L_v2.out.trans (hb.mono L_v2.out.size)
      clear hb WX_v2 M_v2 L_v2
      obtain ⟨v4, hv4⟩ : ∃ v, v = v3.alloc (.cells #[.int .i64 5, .int .i64 0, .int .i64 0, .slice none 0 0] 28) := ⟨_, rfl⟩
      have sz_v4 : v4.heap.size = v3.heap.size + 1 := by rw [hv4, size_al]
      have WX_v4 : Hid (Wr .i64 v4 b 0 (nl zs)) := by rw [hv4]; exact WX_v3.out.alloc _
      have M_v4 : Hid (RowAt v4 v1.heap.size 25 #[.int .i64 n, .int .i64 n, .slice (some ⟨b, 0, none⟩) q q]) := by rw [hv4]; exact M_v3.out.alloc _
      have L_v4 : Hid (Below w.heap.size w v4) := by rw [hv4]; exact L_v3.out.alloc L_v3.out.size _
      have G_v4 : Hid (RowAt v4 v3.heap.size 28 #[.int .i64 5, .int .i64 0, .int .i64 0, .slice none 0 0]) := by rw [hv4]; exact RowAt.next v3 _ _ (by omega)
      go_wp2_with (rw [← hv4])
      try rw [← hv4]
      clear hv4 WX_v3 M_v3 L_v3
      have xm0 := M_v4.out.cell 0
      have xm1 := M_v4.out.cell 1
      have xm2 := M_v4.out.cell 2
      have xg0 := G_v4.out.cell 0
      go_wp2_with fail
      go_region_held3 (fun wx => wx.cell? ⟨v3.heap.size, 0, none⟩ = some (.int .i64 5) ∧ wx.cell? ⟨v1.heap.size, 0, none⟩ = some (.int .i64 n) ∧ wx.cell? ⟨v1.heap.size, 1, none⟩ = some (.int .i64 n) ∧ wx.cell? ⟨v1.heap.size, 2, none⟩ = some (.slice (some ⟨b, 0, none⟩) q q)) ((first | (go_keep; done) | exact ⟨pG.cell 0, pM.cell 0, pM.cell 1, pM.cell 2⟩)) ((go_at_call 7; refine (sinv_none n h1 h2 zs (fun _ _ _ _ => HS.out _) (some ⟨b, 0, none⟩) q q _ (WX_v4.out.drew.ints3 hxl.out) HQ.out F1.out RK.out).mono ?_; rintro e v5 ⟨rfl, hb⟩; have pG := G_v4.out.drew.below hb G_v4.out.lt; have pM := M_v4.out.drew.below hb M_v4.out.lt; have hbb := (Below.refl v4.heap.size v4).drew.trans hb))
      have sz_v5 : v4.heap.size ≤ v5.heap.size := hbb.size
      clear pG pM xm0 xm1 xm2 xg0
      have WX_v5 : Hid (Wr .i64 v5 b 0 (nl zs)) := WX_v4.out.below hbb WX_v4.out.lt
      have M_v5 : Hid (RowAt v5 v1.heap.size 25 #[.int .i64 n, .int .i64 n, .slice (some ⟨b, 0, none⟩) q q]) := M_v4.out.below hbb M_v4.out.lt
      have G_v5 : Hid (RowAt v5 v3.heap.size 28 #[.int .i64 5, .int .i64 0, .int .i64 0, .slice none 0 0]) := G_v4.out.below hbb G_v4.out.lt
      have L_v5 : Hid (Below w.heap.size w v5) := L_v4.out.trans (hbb.mono L_v4.out.size)
      clear hbb hb WX_v4 M_v4 G_v4 L_v4
      have ld0 := M_v5.out
      go_wp2_with (refine wpList_load_row rfl 25 (.tmp 3) rfl v1.heap.size rfl _ _ _ _ ld0 Tryd.underlying25 rfl (by kernel_rfl) ?_)
      clear ld0
      refine (sfault n n (some ⟨b, 0, none⟩) q q (nl zs) _ (WX_v5.out.ints3 hxl.out) (by omega)).mono ?_
      rintro e v6 ⟨rfl, hv⟩
      have hb : Below v5.heap.size v5 v6 := by rw [hv]; exact (Below.refl _ _).alloc (Nat.le_refl _) _
      clear hv
      have sz_v6 : v5.heap.size ≤ v6.heap.size := hb.size
      have WX_v6 : Hid (Wr .i64 v6 b 0 (nl zs)) := WX_v5.out.below hb WX_v5.out.lt
      have M_v6 : Hid (RowAt v6 v1.heap.size 25 #[.int .i64 n, .int .i64 n, .slice (some ⟨b, 0, none⟩) q q]) := M_v5.out.below hb M_v5.out.lt
      have G_v6 : Hid (RowAt v6 v3.heap.size 28 #[.int .i64 5, .int .i64 0, .int .i64 0, .slice none 0 0]) := G_v5.out.below hb G_v5.out.lt
      have L_v6 : Hid (Below w.heap.size w v6) := L_v5.out.trans (hb.mono L_v5.out.size)
      clear hb WX_v5 M_v5 G_v5 L_v5
      have xm0 := M_v6.out.cell 0
      have xm1 := M_v6.out.cell 1
      have xg0 := G_v6.out.cell 0
      rw [F1.out]
      have dn : ((n : Int) != (n : Int)) = false := by simp
      go_wp2_with fail
      have xm2 := M_v6.out.cell 2
      obtain ⟨K, hK⟩ : ∃ K, rank n n (fm (mo n zs)) = K := ⟨_, rfl⟩
      have HK := hid hK
      have hKn : K < n := by rw [← hK]; exact RK.out
      clear hK
      have dk : decide (K < n) = true := by simp; omega
      have dk' : decide ((K : Int) < (n : Int)) = true := by simp; omega
      go_region_held3 (fun wx => wx.cell? ⟨v1.heap.size, 0, none⟩ = some (.int .i64 n) ∧ wx.cell? ⟨v1.heap.size, 1, none⟩ = some (.int .i64 n) ∧ wx.cell? ⟨v1.heap.size, 2, none⟩ = some (.slice (some ⟨b, 0, none⟩) q q)) ((first | (go_keep; done) | exact ⟨pM.cell 0, pM.cell 1, pM.cell 2⟩)) ((go_at_call 9; refine (imatrank n n q K h1 h2 h1 h2 HQ.out zs HS.out HK (some ⟨b, 0, none⟩) q _ (HT.out.belowS L_v6.out).drew (WX_v6.out.drew.ints3 hxl.out) F1.out).mono ?_; rintro e v7 ⟨rfl, hb⟩; have pM := M_v6.out.drew.below hb M_v6.out.lt; have hbb := (Below.refl v6.heap.size v6).drew.trans hb))
      have sz_v7 : v6.heap.size ≤ v7.heap.size := hbb.size
      clear pM xm0 xm1 xm2 xg0
      have WX_v7 : Hid (Wr .i64 v7 b 0 (nl zs)) := WX_v6.out.below hbb WX_v6.out.lt
      have M_v7 : Hid (RowAt v7 v1.heap.size 25 #[.int .i64 n, .int .i64 n, .slice (some ⟨b, 0, none⟩) q q]) := M_v6.out.below hbb M_v6.out.lt
      have G_v7 : Hid (RowAt v7 v3.heap.size 28 #[.int .i64 5, .int .i64 0, .int .i64 0, .slice none 0 0]) := G_v6.out.below hbb G_v6.out.lt
      have L_v7 : Hid (Below w.heap.size w v7) := L_v6.out.trans (hbb.mono L_v6.out.size)
      clear hbb hb WX_v6 M_v6 G_v6 L_v6
      have xg0 := G_v7.out.cell 0
      go_wp2
      go_ret
      exact ⟨rfl, L_v7.out⟩
  · have HNO := hid hok
    clear hok
    have ld0 := M_v2.out
    go_wp2_with (first
      | (rw [← hv2])
      | refine wpList_load_row rfl 25 (.tmp 3) rfl v1.heap.size rfl _ _ _ _ ld0 Tryd.underlying25 rfl (by kernel_rfl) ?_)
    try rw [← hv2]
    clear ld0
    clear hv2 WX_v1 L_v1
    refine (imatinv_no r c xs (some ⟨b, 0, none⟩) q q _ (WX_v2.out.ints3 hxl.out) (by omega) HNO.out).mono ?_
    rintro e v3 ⟨rfl, hb⟩
    have sz_v3 : v2.heap.size ≤ v3.heap.size := hb.size
    have WX_v3 : Hid (Wr .i64 v3 b 0 xs) := WX_v2.out.below hb WX_v2.out.lt
    have M_v3 : Hid (RowAt v3 v1.heap.size 25 #[.int .i64 r, .int .i64 c, .slice (some ⟨b, 0, none⟩) q q]) := M_v2.out.below hb M_v2.out.lt
    have L_v3 : Hid (Below w.heap.size w v3) := L_v2.out.trans (hb.mono L_v2.out.size)
    clear hb WX_v2 M_v2 L_v2
    obtain ⟨v4, hv4⟩ : ∃ v, v = v3.alloc (.cells #[.int .i64 1, .int .i64 0, .int .i64 0, .slice none 0 0] 28) := ⟨_, rfl⟩
    have sz_v4 : v4.heap.size = v3.heap.size + 1 := by rw [hv4, size_al]
    have WX_v4 : Hid (Wr .i64 v4 b 0 xs) := by rw [hv4]; exact WX_v3.out.alloc _
    have M_v4 : Hid (RowAt v4 v1.heap.size 25 #[.int .i64 r, .int .i64 c, .slice (some ⟨b, 0, none⟩) q q]) := by rw [hv4]; exact M_v3.out.alloc _
    have L_v4 : Hid (Below w.heap.size w v4) := by rw [hv4]; exact L_v3.out.alloc L_v3.out.size _
    have G_v4 : Hid (RowAt v4 v3.heap.size 28 #[.int .i64 1, .int .i64 0, .int .i64 0, .slice none 0 0]) := by rw [hv4]; exact RowAt.next v3 _ _ (by omega)
    go_wp2_with (rw [← hv4])
    try rw [← hv4]
    clear hv4 WX_v3 M_v3 L_v3
    have xm0 := M_v4.out.cell 0
    have xm1 := M_v4.out.cell 1
    have xm2 := M_v4.out.cell 2
    have xg0 := G_v4.out.cell 0
    go_wp2_with fail
    go_region_held3 (fun wx => wx.cell? ⟨v3.heap.size, 0, none⟩ = some (.int .i64 1) ∧ wx.cell? ⟨v1.heap.size, 0, none⟩ = some (.int .i64 r) ∧ wx.cell? ⟨v1.heap.size, 1, none⟩ = some (.int .i64 c) ∧ wx.cell? ⟨v1.heap.size, 2, none⟩ = some (.slice (some ⟨b, 0, none⟩) q q)) ((first | (go_keep; done) | exact ⟨pG.cell 0, pM.cell 0, pM.cell 1, pM.cell 2⟩)) ((go_at_call 7; refine (sinv_no r c xs (some ⟨b, 0, none⟩) q q _ (WX_v4.out.drew.ints3 hxl.out) (by omega) HNO.out).mono ?_; rintro e v5 ⟨rfl, hb⟩; have pG := G_v4.out.drew.below hb G_v4.out.lt; have pM := M_v4.out.drew.below hb M_v4.out.lt; have hbb := (Below.refl v4.heap.size v4).drew.trans hb))
    have sz_v5 : v4.heap.size ≤ v5.heap.size := hbb.size
    clear pG pM xm0 xm1 xm2 xg0
    have WX_v5 : Hid (Wr .i64 v5 b 0 xs) := WX_v4.out.below hbb WX_v4.out.lt
    have M_v5 : Hid (RowAt v5 v1.heap.size 25 #[.int .i64 r, .int .i64 c, .slice (some ⟨b, 0, none⟩) q q]) := M_v4.out.below hbb M_v4.out.lt
    have G_v5 : Hid (RowAt v5 v3.heap.size 28 #[.int .i64 1, .int .i64 0, .int .i64 0, .slice none 0 0]) := G_v4.out.below hbb G_v4.out.lt
    have L_v5 : Hid (Below w.heap.size w v5) := L_v4.out.trans (hbb.mono L_v4.out.size)
    clear hbb hb WX_v4 M_v4 G_v4 L_v4
    have ld0 := M_v5.out
    go_wp2_with (refine wpList_load_row rfl 25 (.tmp 3) rfl v1.heap.size rfl _ _ _ _ ld0 Tryd.underlying25 rfl (by kernel_rfl) ?_)
    clear ld0
    refine (sfault r c (some ⟨b, 0, none⟩) q q xs _ (WX_v5.out.ints3 hxl.out) (by omega)).mono ?_
    rintro e v6 ⟨rfl, hv⟩
    have hb : Below v5.heap.size v5 v6 := by rw [hv]; exact (Below.refl _ _).alloc (Nat.le_refl _) _
    clear hv
    have sz_v6 : v5.heap.size ≤ v6.heap.size := hb.size
    have WX_v6 : Hid (Wr .i64 v6 b 0 xs) := WX_v5.out.below hb WX_v5.out.lt
    have M_v6 : Hid (RowAt v6 v1.heap.size 25 #[.int .i64 r, .int .i64 c, .slice (some ⟨b, 0, none⟩) q q]) := M_v5.out.below hb M_v5.out.lt
    have G_v6 : Hid (RowAt v6 v3.heap.size 28 #[.int .i64 1, .int .i64 0, .int .i64 0, .slice none 0 0]) := G_v5.out.below hb G_v5.out.lt
    have L_v6 : Hid (Below w.heap.size w v6) := L_v5.out.trans (hb.mono L_v5.out.size)
    clear hb WX_v5 M_v5 G_v5 L_v5
    have xm0 := M_v6.out.cell 0
    have xm1 := M_v6.out.cell 1
    have xg0 := G_v6.out.cell 0
    rcases mfault_01 r c xs with f1 | f1
    · rw [f1]
      have e0 : (r == c) = false := by
        have : ¬ r = c := fun e => HNO.out ⟨f1, e⟩
        simpa using this
      have e1 : (r != c) = true := by simp only [bne, e0]; rfl
      clear f1
      go_wp2
      go_ret
      exact ⟨rfl, L_v6.out⟩
    · rw [f1]
      clear f1
      go_wp2
      go_ret
      exact ⟨rfl, L_v6.out⟩
set_option maxRecDepth 20000 in
set_option maxHeartbeats 1000000 in
theorem fnInverse_walk {w : World} (hT : Tab w) (a : Option Addr) (len cap : Nat) (z : List Int) (h : IsRow .u8 w a len cap z) :
    Calls Tryd.prog 3 #[.slice a len cap] w fun e w' => e = .returned (.bool true) ∧ Below w.heap.size w w' := by
  have m0 := h.le
  unfold maxLen at m0
  by_cases hl : len ≤ 1048576
  · exact fnInverse_small a len cap w hT (codeOk_of w a len cap z h hl) m0.1 hl
  · have d0 : decide ((1048576 : Int) < (len : Int)) = true := by simp; omega
    go_enter Tryd.func3, Tryd.ntmps3
    go_wp2
    go_ret
    exact ⟨rfl, Below.refl _ _⟩
end Go.Proofs.YtlobnmcjnaibaaaDoorR
