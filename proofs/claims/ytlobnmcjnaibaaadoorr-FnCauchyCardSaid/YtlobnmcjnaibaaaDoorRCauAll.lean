import Derived.Test.YtlobnmcjnaibaaaDoorRSMx
import Derived.Test.YtlobnmcjnaibaaaDoorRLawMx
import Derived.Test.YtlobnmcjnaibaaaDoorRSSwap
import Derived.Test.YtlobnmcjnaibaaaDoorRProg
import Derived.Test.YtlobnmcjnaibaaaDoorRBase
import Derived.WalkLawsBesides
import Derived.WalkSpells
import Derived.OpenShut
import Derived.Test.YtlobnmcjnaibaaaDoorRSInv2
import Derived.Test.YtlobnmcjnaibaaaDoorRIMat2
import Derived.Test.YtlobnmcjnaibaaaDoorRIMat3
import Derived.Test.YtlobnmcjnaibaaaDoorRMxLin
import Derived.Test.YtlobnmcjnaibaaaDoorRLawInts
import Derived.Test.YtlobnmcjnaibaaaDoorRSRank
import Derived.Test.YtlobnmcjnaibaaaDoorRSCau
import Derived.Test.YtlobnmcjnaibaaaDoorRICau
import Derived.Deep.RegionHeld3
import Derived.Deep.RegionWith
import Derived.Deep.RegionLaw
namespace Go.Proofs.YtlobnmcjnaibaaaDoorR
open Go.RowKit
/-! The laws' own matrices: held against each other, and the unit. -/
set_option maxRecDepth 20000 in
set_option maxHeartbeats 1000000 in
theorem lwInts_eq (a : Option Addr) (len cap : Nat) (a' : Option Addr) (len' cap' : Nat) (xs : List Int) (w : World) (h : Ints .i64 w a len cap xs) (h' : Ints .i64 w a' len' cap' xs) (hl : xs.length ≤ 1048576) :
    Calls Tryd.prog 33 #[.slice a len cap, .slice a' len' cap'] w fun e w' => e = .returned (.bool true) ∧ Below w.heap.size w w' := by
  have hx := h.1
  have hx' := h'.1
  have e1 : len' = len := by omega
  subst e1
  have d0 : ((len' : Int) != (len' : Int)) = false := by simp
  go_enter Tryd.func33, Tryd.ntmps33
  go_wp2
  go_loopw [5] (fun y wr => ∃ (k : Nat), k ≤ len' ∧ y = .int .i64 k ∧ Below w.heap.size w wr) (fun y _ => len' - (intOf y).toNat)
  case atStart => exact ⟨0, Nat.zero_le _, rfl, Below.refl _ _⟩
  case round =>
    obtain ⟨k, hk, rfl, hb⟩ := hrel
    by_cases hlt : k < len'
    · rcases h.2.2 with h00 | ⟨b, off, rfl, hbl, hc⟩
      · omega
      · rcases h'.2.2 with h01 | ⟨b', off', rfl, hbl', hc'⟩
        · omega
        · have c1 : wr.cell? ⟨b, off + k, none⟩ = some (.int .i64 (xs.getD k 0)) := (hb.cell (p := ⟨b, off + k, none⟩) hbl).trans (hc k hlt)
          have c2 : wr.cell? ⟨b', off' + k, none⟩ = some (.int .i64 (xs.getD k 0)) := (hb.cell (p := ⟨b', off' + k, none⟩) hbl').trans (hc' k hlt)
          have hlt' : (k : Int) < (len' : Int) := by omega
          have i0 : (0 : Int) ≤ (k : Int) := by omega
          obtain ⟨x, hx2⟩ : ∃ x, x = xs.getD k 0 := ⟨_, rfl⟩
          rw [← hx2] at c1 c2
          clear hx2
          go_wp2_with fail
          go_quiet (fail)
          go_wp2
          go_roundw
          case rel => exact ⟨k + 1, by omega, by go_num, below_drewN' hb nq⟩
          case measure => simp [intOf]; omega
    · go_wp2
      go_ret
      exact ⟨rfl, hb⟩
set_option maxRecDepth 20000 in
set_option maxHeartbeats 400000 in
theorem lwMatrix_eq (r c : Int) (a : Option Addr) (len cap : Nat) (a' : Option Addr) (len' cap' : Nat) (xs : List Int) (w : World) (h : Ints .i64 w a len cap xs) (h' : Ints .i64 w a' len' cap' xs) (hl : xs.length ≤ 1048576) :
    Calls Tryd.prog 10 #[mxv r c a len cap, mxv r c a' len' cap'] w fun e w' => e = .returned (.bool true) ∧ Below w.heap.size w w' := by
  go_enter Tryd.func10, Tryd.ntmps10
  go_wp2_with fail
  refine (lwInts_eq a len cap a' len' cap' xs _ ((h.alloc _).alloc _) ((h'.alloc _).alloc _) hl).mono ?_
  rintro e w1 ⟨rfl, hb⟩
  go_wp2
  go_ret
  exact ⟨rfl, (((Below.refl _ _).alloc (Nat.le_refl _) _).alloc (by rw [size_al]; omega) _).trans (hb.mono (by rw [size_al, size_al]; omega))⟩
/-- the unit's cells -/
def unitL (n : Nat) : List Nat := (List.range (n * n)).map fun p => if p / n = p % n then 1 else 0
theorem unitL_len (n : Nat) : (unitL n).length = n * n := by simp [unitL]
theorem unitL_at {n i j : Nat} (hi : i < n) (hj : j < n) : mo n (unitL n) i j = if i = j then 1 else 0 := by
  have hp : i * n + j < n * n := mul_pos_lt hi hj
  have e1 : (i * n + j) / n = i := by rw [Nat.mul_comm, Nat.mul_add_div (by omega), Nat.div_eq_of_lt hj, Nat.add_zero]
  have e2 : (i * n + j) % n = j := by rw [Nat.mul_comm, Nat.mul_add_mod, Nat.mod_eq_of_lt hj]
  unfold mo; rw [List.getD_eq_getElem?_getD]
  simp [unitL, hp, e1, e2]
set_option maxRecDepth 20000 in
set_option maxHeartbeats 1000000 in
theorem lwUnit_is (n q : Nat) (hn1 : 1 ≤ n) (hn : n ≤ 64) (hq : q = n * n) (w : World) :
    Calls Tryd.prog 12 #[.int .i64 n] w fun e w' => ∃ b, e = .returned (mxv n n (some ⟨b, 0, none⟩) q q) ∧ w.heap.size ≤ b ∧ Wr .i64 w' b 0 (nl (unitL n)) ∧ Below w.heap.size w w' := by
  have q4 : q ≤ 4096 := by have : q ≤ 64 * 64 := by { rw [hq]; exact Nat.mul_le_mul hn hn }; omega
  have qi : (n : Int) * (n : Int) = (q : Int) := by rw [hq]; simp
  have HQ := hid hq
  have hmk := fun w => mk64 w q (by omega)
  clear hq
  go_enter Tryd.func12, Tryd.ntmps12
  go_wp2
  go_loopw [4] (fun y wr => ∃ (I : Nat) (zs : List Nat), I ≤ n ∧ y = .int .i64 I ∧ zs.length = q ∧ (∀ i j, i < n → j < n → mo n zs i j = if i < I ∧ i = j then 1 else 0) ∧ Wr .i64 wr (w.heap.size + 1) 0 (nl zs) ∧ RowAt wr w.heap.size 25 #[.int .i64 0, .int .i64 0, .slice none 0 0] ∧ RowAt wr (w.heap.size + 1 + 1) 25 #[.int .i64 n, .int .i64 n, .slice (some ⟨w.heap.size + 1, 0, none⟩) q q] ∧ Below w.heap.size w wr) (fun y _ => n - (intOf y).toNat)
  case atStart =>
    refine ⟨0, List.replicate q 0, Nat.zero_le _, rfl, List.length_replicate, fun i j _ _ => ?_, ?_, ((RowAt.new w _ _).alloc _).alloc _, RowAt.next ((w.alloc _).alloc _) _ _ (by rw [size_al, size_al]), (((Below.refl _ _).alloc (Nat.le_refl _) _).alloc (by rw [size_al]; omega) _).alloc (by rw [size_al, size_al]; omega) _⟩
    · unfold mo; rw [if_neg (by omega), List.getD_eq_getElem?_getD, List.getElem?_replicate]; split <;> rfl
    · rw [nl_zeros]; exact (Wr.of (RowAt.next (w.alloc _) _ _ (by rw [size_al]))).alloc _
  case round =>
    obtain ⟨I, zs, hI, rfl, hzl, hmo, hW, r0, r1, hb⟩ := hrel
    have ZL := hid hzl
    have HM := hid hmo
    have HW := hid hW
    have R0 := hid r0
    have HB := hid hb
    clear hzl hmo hW r0 hb hmk
    by_cases hlt : I < n
    · have hlt' : (I : Int) < (n : Int) := by omega
      obtain ⟨o, ho⟩ : ∃ o, o = I * n := ⟨_, rfl⟩
      have e1 : (I : Int) * (n : Int) = (o : Int) := by rw [ho]; simp
      have bo : o + I < q := by rw [ho, HQ.out]; exact mul_pos_lt hlt hlt
      have i1 : (0 : Int) ≤ (o : Int) + (I : Int) := by omega
      have i2 : (o : Int) + (I : Int) < (q : Int) := by omega
      have i3 : ((o : Int) + (I : Int)).toNat = o + I := by omega
      have c2 := r1.cell 2
      have cZ := HW.out.cell (i := o + I) (by rw [nl_len, ZL.out]; exact bo)
      rw [Nat.zero_add] at cZ
      have fZ := HW.out.free (o + I)
      have HM' : Hid (∀ i j, i < n → j < n → mo n (zs.set (o + I) 1) i j = if i < I + 1 ∧ i = j then 1 else 0) := fun i j hi hj => by
        rw [ho, mo_set (by rw [← ho, ZL.out]; exact bo) hlt hj]
        by_cases e : i = I ∧ j = I
        · rw [if_pos e, if_pos (by omega)]
        · rw [if_neg e, HM.out i j hi hj]
          by_cases e2 : i < I ∧ i = j
          · rw [if_pos e2, if_pos (by omega)]
          · rw [if_neg e2, if_neg (by omega)]
      have HW' : Hid (Wr .i64 (wr.setCell ⟨w.heap.size + 1, o + I, none⟩ (.int .i64 1)) (w.heap.size + 1) 0 (nl (zs.set (o + I) 1))) := by
        have := HW.out.set (o + I) ((1 : Nat) : Int) (by rw [nl_len, ZL.out]; exact bo)
        rw [Nat.zero_add, nl_set] at this; exact this
      have N0 := hid (R0.out.other ⟨w.heap.size + 1, o + I, none⟩ (.int .i64 1) (by dsimp only; omega))
      have N1 := hid (r1.other ⟨w.heap.size + 1, o + I, none⟩ (.int .i64 1) (by dsimp only; omega))
      have N2 := hid (HB.out.setCell (p := ⟨w.heap.size + 1, o + I, none⟩) (by show w.heap.size ≤ w.heap.size + 1; omega) (.int .i64 1))
      clear ho
      go_wp2
      go_roundw
      case rel => exact ⟨I + 1, zs.set (o + I) 1, by omega, by go_num, by rw [List.length_set]; exact ZL.out, HM'.out, HW'.out, N0.out, N1.out, N2.out⟩
      case measure => simp [intOf]; omega
    · have hie : I = n := by omega
      subst hie
      have HE : Hid (zs = unitL I) := by
        apply List.ext_getElem?
        intro p
        by_cases hp : p < q
        · have e : p = p / I * I + p % I := by rw [Nat.mul_comm]; exact (Nat.div_add_mod p I).symm
          have h1 : p % I < I := Nat.mod_lt _ (by omega)
          have h2 : p / I < I := Nat.div_lt_of_lt_mul (by rw [← HQ.out]; exact hp)
          have h3 := HM.out (p / I) (p % I) h2 h1
          have h4 := unitL_at h2 h1
          have h5 : mo I zs (p / I) (p % I) = mo I (unitL I) (p / I) (p % I) := by
            rw [h3, h4]
            by_cases e2 : p / I = p % I
            · rw [if_pos ⟨h2, e2⟩, if_pos e2]
            · rw [if_neg (fun h => e2 h.2), if_neg e2]
          unfold mo at h5
          have hu := unitL_len I
          have hz := ZL.out
          have hq := HQ.out
          rw [← e, List.getD_eq_getElem?_getD, List.getD_eq_getElem?_getD, List.getElem?_eq_getElem (by omega), List.getElem?_eq_getElem (by omega)] at h5
          rw [List.getElem?_eq_getElem (by omega), List.getElem?_eq_getElem (by omega)]; simpa using h5
        · have hu := unitL_len I
          have hz := ZL.out
          have hq := HQ.out
          rw [List.getElem?_eq_none (by omega), List.getElem?_eq_none (by omega)]
      go_wp2_with (first
        | refine wpList_load_row rfl 25 (.tmp 3) rfl (w.heap.size + 1 + 1) rfl _ _ _ _ r1 Tryd.underlying25 rfl (by kernel_rfl) ?_
        | refine wpList_store_row rfl 25 (.tmp 2) (.tmp 25) rfl w.heap.size #[.int .i64 I, .int .i64 I, .slice (some ⟨w.heap.size + 1, 0, none⟩) q q] rfl rfl _ _ R0.out (by kernel_rfl) rfl (one3 _ _ _ _ _) ?_)
      refine bodyPost_ret (v := mxv I I (some ⟨w.heap.size + 1, 0, none⟩) q q) ?_ rfl ⟨w.heap.size + 1, rfl, by omega, ?_, below_setRow HB.out _ _ (Nat.le_refl _)⟩
      · exact results_cell_row Tryd.results12 _ _ w.heap.size _ _ _ _ rfl (R0.out.setRow _) Tryd.underlying25 rfl (by kernel_rfl)
      · rw [← HE.out]; exact wr_setRow HW.out _ (by omega)
end Go.Proofs.YtlobnmcjnaibaaaDoorR
namespace Go.Proofs.YtlobnmcjnaibaaaDoorR
open Go.RowKit
/-- The code lies in the old memory. -/
def CodeOk (W0 : World) (a : Option Addr) (len : Nat) : Prop :=
  len ≤ 1048576 ∧ (len = 0 ∨ ∃ b off, a = some ⟨b, off, none⟩ ∧ b < W0.heap.size ∧ ∀ i, i < len → ∃ z : Nat, z < 256 ∧ W0.cell? ⟨b, off + i, none⟩ = some (.int .u8 z))

theorem CodeOk.below {w w1 : World} {a : Option Addr} {len : Nat} (h : CodeOk w a len) (hb : Below w.heap.size w w1) : CodeOk w1 a len := by
  refine ⟨h.1, ?_⟩
  rcases h.2 with h0 | ⟨b, off, rfl, hbl, hc⟩
  · exact Or.inl h0
  · refine Or.inr ⟨b, off, rfl, Nat.lt_of_lt_of_le hbl hb.size, fun i hi => ?_⟩
    obtain ⟨z, hz, hcell⟩ := hc i hi
    exact ⟨z, hz, (hb.cell (p := ⟨b, off + i, none⟩) hbl).trans hcell⟩
theorem below_trans' {w w1 w2 : World} (h1 : Below w.heap.size w w1) (h2 : Below w1.heap.size w1 w2) : Below w.heap.size w w2 := h1.trans (h2.mono h1.size)

theorem codeOk_of (w : World) (a : Option Addr) (len cap : Nat) (zs : List Int) (h : IsRow .u8 w a len cap zs) (hl : len ≤ 1048576) : CodeOk w a len := by
  refine ⟨hl, ?_⟩
  by_cases h0 : len = 0
  · exact Or.inl h0
  · rcases h with ⟨_, h1, _⟩ | ⟨x, rfl, h1, h2, h3, hcell, hwf⟩
    · exact absurd h1 h0
    · right
      obtain ⟨b, off, spot⟩ := x
      have hc := hcell 0 (by omega)
      have hspot : spot = none := by simpa [Addr.add] using World.cell?_spot hc
      subst hspot
      have hadd : ∀ i, (⟨b, off, none⟩ : Addr).add i = ⟨b, off + i, none⟩ := by intro i; unfold Addr.add; split <;> simp_all
      refine ⟨b, off, rfl, ?_, ?_⟩
      · have := World.block_lt_of_cell? w _ hc; rw [hadd] at this; exact this
      · intro i hi
        have hci := hcell i (by omega)
        rw [hadd] at hci
        have hm : zs.getD i 0 ∈ zs := by rw [List.getD_eq_getElem?_getD, List.getElem?_eq_getElem (by omega)]; simp
        have hb := bounds_u8 (hwf _ hm)
        obtain ⟨z, hz⟩ := Int.eq_ofNat_of_zero_le hb.1
        rw [hz] at hci hb
        exact ⟨z, by omega, hci⟩

/-- A byte of a code, or what stands for it. -/
theorem lwAt_all (w : World) (a : Option Addr) (len cap i : Nat) (hc : CodeOk w a len) (hi : i ≤ 1000) :
    Calls Tryd.prog 13 #[.slice a len cap, .int .i64 i] w fun e w' => (∃ r : Nat, e = .returned (.int .i64 r) ∧ r < 256) ∧ w' = w := by
  have hl := hc.1
  by_cases h : i < len
  · rcases hc.2 with h0 | ⟨b, off, rfl, hb, hcell⟩
    · omega
    · obtain ⟨z, hz, e1⟩ := hcell i h
      have i1 : (i : Int) < (len : Int) := by omega
      go_enter Tryd.func13, Tryd.ntmps13
      go_wp2
      go_ret
      exact ⟨⟨z, rfl, hz⟩, rfl⟩
  · go_enter Tryd.func13, Tryd.ntmps13
    go_wp2
    go_ret
    refine ⟨⟨(i * 61 + 29) % 256, ?_, by omega⟩, rfl⟩
    exact congrArg (fun x => Ending.returned (.int .i64 x)) (by omega)
end Go.Proofs.YtlobnmcjnaibaaaDoorR
namespace Go.Proofs.YtlobnmcjnaibaaaDoorR
open Go.RowKit
theorem Wr.ints3 {k : IntKind} {w : World} {b off len : Nat} {xs : List Int} (h : Wr k w b off xs) (e : xs.length = len) : Ints k w (some ⟨b, off, none⟩) len len xs := by subst e; exact h.ints (Nat.le_refl _)
theorem fld0 (x0 x1 x2 x3 : Value) (w : World) : (Instr.field 28 (.agg #[x0, x1, x2, x3]) 0).run Tryd.prog w = .ok x0 w := by kernel_rfl
theorem fld1 (x0 x1 x2 x3 : Value) (w : World) : (Instr.field 28 (.agg #[x0, x1, x2, x3]) 1).run Tryd.prog w = .ok (.agg #[x1, x2, x3]) w := by kernel_rfl
theorem mfault_of {n : Nat} {X : List Nat} (h1 : 1 ≤ n) (h2 : n ≤ 64) (hl : X.length = n * n) (hs : Small X) : mfault n n (nl X) = 0 := if_pos ⟨by omega, by omega, by omega, by omega, by rw [nl_len, hl]; simp, fun x hx => by
  unfold nl at hx; obtain ⟨y, hy, rfl⟩ := List.mem_map.1 hx
  obtain ⟨i, hi, rfl⟩ := List.getElem_of_mem hy
  have := hs i; rw [List.getD_eq_getElem?_getD, List.getElem?_eq_getElem hi] at this
  have h3 : X[i] < 256 := this
  omega⟩
theorem imatinv_eq (n q : Nat) (hn1 : 1 ≤ n) (hn : n ≤ 64) (hq : q = n * n) (xs : List Nat) (hs : Small xs) (a : Option Addr) (cap : Nat) (w : World) (hT : Tab w) (h : Ints .i64 w a q cap (nl xs)) (F1 : mfault n n (nl xs) = 0) (RK : rank n n (fm (mo n xs)) = n) :
    Calls Tryd.prog 6 #[mxv n n a q cap] w fun e w' => ∃ g X, e = .returned (.agg #[.int .i64 0, .int .i64 n, .int .i64 n, .slice (some ⟨g, 0, none⟩) q q]) ∧ w.heap.size ≤ g ∧ Wr .i64 w' g 0 (nl X) ∧ X.length = q ∧ Small X ∧ IsInv n (fm (mo n xs)) (fm (mo n X)) ∧ IsInv n (fm (mo n X)) (fm (mo n xs)) ∧ Below w.heap.size w w' := by
  refine (imatinv n q hn1 hn hq xs hs a cap w hT h F1).mono ?_
  rintro e w' ⟨hb, ⟨_, g, X, h1, h2, h3, h4, h5, h6, h7⟩ | ⟨h1, _⟩⟩
  · exact ⟨g, X, h1, h2, h3, h4, h5, h6, h7, hb⟩
  · omega
end Go.Proofs.YtlobnmcjnaibaaaDoorR
namespace Go.Proofs.YtlobnmcjnaibaaaDoorR
open Go.RowKit
/-! Pieces of Cauchy's matrices have full rank. -/
def fE (a : Nat) : F := F.mk (a % 256) (Nat.mod_lt _ (by decide))
theorem fE_v {a : Nat} (h : a < 256) : (fE a).v = a := Nat.mod_eq_of_lt h
theorem fE_ne {a b : Nat} (ha : a < 256) (hb : b < 256) (h : a ≠ b) : fE a ≠ fE b := fun e => h (by have := congrArg F.v e; rwa [fE_v ha, fE_v hb] at this)
theorem cau_rank {n : Nat} {A : Nat → Nat → Nat} {x y : Nat → Nat} (hx : ∀ i, i < n → x i < 256) (hy : ∀ i, i < n → y i < 256) (dx : ∀ i j, i < n → j < n → i ≠ j → x i ≠ x j) (dy : ∀ i j, i < n → j < n → i ≠ j → y i ≠ y j) (dxy : ∀ i j, i < n → j < n → x i ≠ y j)
    (hA : ∀ i j, i < n → j < n → A i j = gp 8 29 (x i ^^^ y j) 254) : rank n n (fm A) = n := by
  have key : ∀ i j, i < n → j < n → fm A i j = (fE (x i) + fE (y j)).inv := fun i j hi hj => by
    have hlt : x i ^^^ y j < 256 := Nat.xor_lt_two_pow (n := 8) (hx i hi) (hy j hj)
    have e0 := hA i j hi hj
    apply F.ext
    have hv : (fm A i j).v = A i j := fm_v (by rw [e0]; exact gp_lt fld8.toFld hlt 254)
    rw [hv, e0, F.inv_v, F.add_v, fE_v (hx i hi), fE_v (hy j hj)]
  refine cntP_full.2 fun c hc hd => ?_
  obtain ⟨u, h1, h2, hk⟩ := hd
  have := cauchy_ker n (fun i => fE (x i)) (fun j => fE (y j)) u (fun i j hi hj h => fE_ne (hx i hi) (hx j hj) (dx i j hi hj h)) (fun i j hi hj h => fE_ne (hy i hi) (hy j hj) (dy i j hi hj h)) (fun i j hi hj => fE_ne (hx i hi) (hy j hj) (dxy i j hi hj)) (fun i hi => by
    rw [← hk i hi]; exact F.sm_congr n fun j hj => by rw [key i j hi hj, F.mul_comm]) c hc
  rw [h1] at this
  exact F.one_ne this
set_option maxRecDepth 20000 in
set_option maxHeartbeats 1000000 in
theorem lwHas_is (a : Option Addr) (len cap : Nat) (xs : List Int) (x : Int) (w : World) (h : Ints .i64 w a len cap xs) (hl : len ≤ 1048576) :
    Calls Tryd.prog 16 #[.slice a len cap, .int .i64 x] w fun e w' => e = .returned (.bool (decide (x ∈ xs))) ∧ w' = w := by
  have hx := h.1
  go_enter Tryd.func16, Tryd.ntmps16
  go_wp2
  go_loop [5] (fun y => ∃ k : Nat, k ≤ len ∧ y = .int .i64 k ∧ ∀ i, i < k → xs.getD i 0 ≠ x) (fun y => len - (intOf y).toNat)
  case atStart => exact ⟨0, Nat.zero_le _, rfl, fun i hi => absurd hi (Nat.not_lt_zero _)⟩
  case round =>
    obtain ⟨k, hk, rfl, hne⟩ := hrel
    have HN := hid hne
    clear hne
    by_cases hlt : k < len
    · rcases h.2.2 with h00 | ⟨b, off, rfl, hbl, hc⟩
      · omega
      · have c1 : w.cell? ⟨b, off + k, none⟩ = some (.int .i64 (xs.getD k 0)) := hc k hlt
        have hlt' : (k : Int) < (len : Int) := by omega
        have i0 : (0 : Int) ≤ (k : Int) := by omega
        obtain ⟨z, hz⟩ : ∃ z, z = xs.getD k 0 := ⟨_, rfl⟩
        have HZ := hid hz
        rw [← hz] at c1
        clear hz hc h
        by_cases e : z = x
        · have hm : Hid (decide (x ∈ xs) = true) := by
            show _ = _
            rw [decide_eq_true_iff, ← e, HZ.out, List.getD_eq_getElem?_getD, List.getElem?_eq_getElem (by omega)]; simp
          have d0 : (z == x) = true := by simpa using e
          clear e
          go_wp2
          go_ret
          exact ⟨by rw [hm.out]; rfl, rfl⟩
        · have d0 : (z == x) = false := by simpa using e
          have HN' : Hid (∀ i, i < k + 1 → xs.getD i 0 ≠ x) := fun i hi => by
            by_cases e2 : i = k
            · rw [e2, ← HZ.out]; exact e
            · exact HN.out i (by omega)
          clear e
          go_wp2
          go_round
          case rel => exact ⟨k + 1, by omega, by go_num, HN'.out⟩
          case measure => simp [intOf]; omega
    · have hm : Hid (decide (x ∈ xs) = false) := by
        show _ = _
        rw [decide_eq_false_iff_not]
        intro hx2
        obtain ⟨i, hi, e⟩ := List.getElem_of_mem hx2
        refine HN.out i (by omega) ?_
        rw [List.getD_eq_getElem?_getD, List.getElem?_eq_getElem hi]; exact e
      go_wp2
      go_ret
      exact ⟨by rw [hm.out]; rfl, rfl⟩
end Go.Proofs.YtlobnmcjnaibaaaDoorR
namespace Go.Proofs.YtlobnmcjnaibaaaDoorR
open Go.RowKit
/-! For the law on pieces of Cauchy's matrices. -/
theorem own_ints {w : World} {base : Nat} {e : TypeId} {k : IntKind} {v : Value} {xs : List Int} (h : OwnNums w base e k v xs) : ∃ a cap, v = .slice a xs.length cap ∧ Ints k w a xs.length cap xs ∧ xs.length ≤ cap := by
  rcases h.2 with ⟨rfl, h0⟩ | ⟨g, cap, cur, rfl, hg, hh, hn, hm, hsz, htk⟩
  · exact ⟨none, 0, by rw [h0], by rw [h0]; exact ⟨h0, Nat.le_refl _, Or.inl rfl⟩, by omega⟩
  · by_cases hx : 0 < xs.length
    · have := OwnNums.wr h hx
      exact ⟨some ⟨g, 0, none⟩, cap, rfl, this.1.ints this.2.2.2, hn⟩
    · have h0 : xs.length = 0 := by omega
      exact ⟨some ⟨g, 0, none⟩, cap, rfl, by rw [h0]; exact ⟨h0, Nat.zero_le _, Or.inl rfl⟩, hn⟩
/-- One number, in a box of its own, is appended to a row that the call owns, as a step of a region. -/
theorem step_append_box {P : Program} (base : Nat) (w : World) {ops : Array Oper} {o : Oper} {a : Act} {K : Act → World → Prop} {Q : Exit → Act → World → Prop} {E : Prop} (hgd : o.guard = none) (s x : Operand) (t : TypeId)
    (ho : o.op = .call { callee := .builtin .append, args := #[s, x], argTypes := #[t, t] })
    (e : TypeId) (k : IntKind) (bt : Nat) (ht : P.underlying t = some (.slice e)) (hinfo : (P.info? e).map (fun i => (i.zero, i.size, i.bytes)) = some (some (.int k 0), 1, bt)) (hbt : bt ≤ 8)
    (v : Value) (xs : List Int) (y : Int) (hs : a.eval s = v) (hown : OwnNums w base e k v xs) (hsz : base ≤ w.heap.size)
    (b : Nat) (hbox : RowAt w b e #[.int k y]) (hx : a.eval x = .slice (some ⟨b, 0, none⟩) 1 1) (hlen : xs.length + 1 ≤ 17592186044414)
    (h : ∀ g cap w', OwnNums w' base e k (.slice (some ⟨g, 0, none⟩) (xs.length + 1) cap) (xs ++ [y]) → w.grownBy w' v.ownBlock → K (a.put o.dst (.slice (some ⟨g, 0, none⟩) (xs.length + 1) cap)) w') :
    if Region.wanted o (yielded ops a.tmps) = true then Oper.wp P o a w K Q else E := by
  obtain ⟨i0, hi, hz0, hz1, hz2⟩ := info_parts hinfo
  refine step_append_lies _ hgd s x t ho base e i0 (.int k 0) 1 bt ht hi hz0 hz1 hz2 rfl (by decide) v xs.length _ hs hown ⟨b, 0, none⟩ 1 1 [.int k y] hx rfl ?_ ?_ (by decide) ?_ ?_ hsz w.heap.size rfl ?_
  · have := World.news_of_block (show w.heap[b]? = some (.cells #[.int k y] e (0, 0)) from hbox); simpa using this
  · intro u hu; simp at hu; subst hu; rfl
  · unfold maxLen; omega
  · exact Nat.le_trans (Nat.mul_le_mul_left _ hbt) (by omega)
  · intro g cap w' h1 h2 h3 h4
    exact h g cap w' (by simpa [OwnNums] using h1) h2
theorem nodup_at {xs : List Nat} (h : xs.Nodup) {i j : Nat} (hi : i < xs.length) (hj : j < xs.length) (hne : i ≠ j) : xs.getD i 0 ≠ xs.getD j 0 := by
  rw [List.getD_eq_getElem?_getD, List.getD_eq_getElem?_getD, List.getElem?_eq_getElem hi, List.getElem?_eq_getElem hj]
  intro e
  exact hne ((List.getElem_inj h).1 e)
theorem mem_nl {x : Nat} {xs : List Nat} : (x : Int) ∈ nl xs ↔ x ∈ xs := by
  unfold nl; rw [List.mem_map]
  constructor
  · rintro ⟨y, hy, e⟩
    have : y = x := by omega
    rwa [← this]
  · intro h; exact ⟨x, h, rfl⟩
theorem nl_snoc (xs : List Nat) (x : Nat) : nl (xs ++ [x]) = nl xs ++ [(x : Int)] := by simp [nl]
theorem getD_mem_lt {xs : List Nat} {R i : Nat} (h : ∀ x ∈ xs, x < R) (hi : i < xs.length) : xs.getD i 0 < R := by
  rw [List.getD_eq_getElem?_getD, List.getElem?_eq_getElem hi]; exact h _ (List.getElem_mem hi)
/-- the piece's cells, row by row -/
def pieceL (A : Nat → Nat → Nat) (n p : Nat) : List Nat := (List.range p).map fun p => A (p / n) (p % n)
theorem pieceL_len (A : Nat → Nat → Nat) (n p : Nat) : (pieceL A n p).length = p := by simp [pieceL]
theorem pieceL_snoc (A : Nat → Nat → Nat) (n i j : Nat) (hj : j < n) : pieceL A n (i * n + (j + 1)) = pieceL A n (i * n + j) ++ [A i j] := by
  unfold pieceL
  rw [show i * n + (j + 1) = i * n + j + 1 from rfl, List.range_succ, List.map_append]
  have e1 : (i * n + j) / n = i := by rw [Nat.mul_comm, Nat.mul_add_div (by omega), Nat.div_eq_of_lt hj, Nat.add_zero]
  have e2 : (i * n + j) % n = j := by rw [Nat.mul_comm, Nat.mul_add_mod, Nat.mod_eq_of_lt hj]
  simp [e1, e2]
theorem pieceL_at (A : Nat → Nat → Nat) {n i j : Nat} (hi : i < n) (hj : j < n) : (pieceL A n (n * n)).getD (i * n + j) 0 = A i j := by
  have hlt : i * n + j < n * n := by
    have : (i + 1) * n ≤ n * n := Nat.mul_le_mul_right n hi
    rw [Nat.succ_mul] at this; omega
  have e1 : (i * n + j) / n = i := by rw [Nat.mul_comm, Nat.mul_add_div (by omega), Nat.div_eq_of_lt hj, Nat.add_zero]
  have e2 : (i * n + j) % n = j := by rw [Nat.mul_comm, Nat.mul_add_mod, Nat.mod_eq_of_lt hj]
  unfold pieceL
  rw [List.getD_eq_getElem?_getD, List.getElem?_map, List.getElem?_range hlt]
  simp [e1, e2]
/-- a drawn piece has full rank -/
theorem piece_rank {R C n : Nat} {xs ys : List Nat} (hR : R ≤ 64) (hC : C ≤ 64) (hx : xs.Nodup) (hy : ys.Nodup) (bx : ∀ x ∈ xs, x < R) (by_ : ∀ y ∈ ys, y < C) (h1 : n ≤ xs.length) (h2 : n ≤ ys.length) :
    rank n n (fm (mo n (pieceL (fun i j => (cauL R C).getD (xs.getD i 0 * C + ys.getD j 0) 0) n (n * n)))) = n := by
  refine cau_rank (x := fun i => C + xs.getD i 0) (y := fun j => ys.getD j 0) (fun i hi => ?_) (fun i hi => ?_) (fun i j hi hj hne => ?_) (fun i j hi hj hne => ?_) (fun i j hi hj => ?_) (fun i j hi hj => ?_)
  · have := getD_mem_lt bx (i := i) (by omega); show C + xs.getD i 0 < 256; omega
  · have := getD_mem_lt by_ (i := i) (by omega); show ys.getD i 0 < 256; omega
  · have := nodup_at hx (i := i) (j := j) (by omega) (by omega) hne; show C + xs.getD i 0 ≠ C + xs.getD j 0; omega
  · exact nodup_at hy (by omega) (by omega) hne
  · have := getD_mem_lt by_ (i := j) (by omega); show C + xs.getD i 0 ≠ ys.getD j 0; omega
  · show (pieceL _ n (n * n)).getD (i * n + j) 0 = _
    rw [pieceL_at _ hi hj]
    exact cauL_at (getD_mem_lt bx (by omega)) (getD_mem_lt by_ (by omega))
theorem piece_small {R C n p : Nat} {xs ys : List Nat} (h : Small (cauL R C)) : Small (pieceL (fun i j => (cauL R C).getD (xs.getD i 0 * C + ys.getD j 0) 0) n p) := fun i => by
  unfold pieceL
  rw [List.getD_eq_getElem?_getD, List.getElem?_map]
  cases (List.range p)[i]? with
  | none => exact (by decide : (0 : Nat) < 256)
  | some q => exact h _
end Go.Proofs.YtlobnmcjnaibaaaDoorR
namespace Go.Proofs.YtlobnmcjnaibaaaDoorR
open Go.RowKit
theorem bal {n : Nat} {w w' : World} (h : Below n w w') (o : Obj) (hn : n ≤ w.heap.size) : Below n w (w'.alloc o) := h.alloc (Nat.le_trans hn h.size) o
theorem cau_small {R C : Nat} (hR : R ≤ 64) (hC : C ≤ 64) : Small (cauL R C) := small_of (fun y hy => by
  unfold cauL at hy; obtain ⟨p, hp, rfl⟩ := List.mem_map.1 hy
  have hp' : p < R * C := by simpa using hp
  have hC0 : 0 < C := Nat.pos_of_ne_zero (fun h => by subst h; simp at hp')
  refine gp_lt fld8.toFld (Nat.xor_lt_two_pow (n := 8) ?_ ?_) 254
  · have : p / C < R := Nat.div_lt_of_lt_mul (by rw [Nat.mul_comm]; exact hp')
    show _ < 256; omega
  · have : p % C < C := Nat.mod_lt _ hC0
    show _ < 256; omega)
theorem own_nl {w : World} {base : Nat} {v : Value} {xs : List Nat} (h : OwnNums w base 2 .i64 v (nl xs)) : ∃ a n cap, v = .slice a n cap ∧ n = xs.length ∧ Ints .i64 w a n cap (nl xs) := by
  obtain ⟨a, cap, rfl, hI, _⟩ := own_ints h
  exact ⟨a, _, cap, rfl, nl_len xs, hI⟩
theorem lwAt_x (w : World) (a : Option Addr) (len cap : Nat) (i : Int) (I : Nat) (hi : i = (I : Int)) (hc : CodeOk w a len) (h : I ≤ 1000) :
    Calls Tryd.prog 13 #[.slice a len cap, .int .i64 i] w fun e w' => (∃ r : Nat, e = .returned (.int .i64 r) ∧ r < 256) ∧ w' = w := by
  subst hi; exact lwAt_all w a len cap I hc h
theorem scauchy_q (R C q : Nat) (hR1 : 1 ≤ R) (hR : R ≤ 64) (hC1 : 1 ≤ C) (hC : C ≤ 64) (hq : q = R * C) (w : World) :
    Calls Tryd.prog 15 #[.int .i64 R, .int .i64 C] w fun e w' => ∃ g, e = .returned (.agg #[.int .i64 0, .int .i64 R, .int .i64 C, .slice (some ⟨g, 0, none⟩) q q]) ∧ w.heap.size ≤ g ∧ Wr .i64 w' g 0 (nl (cauL R C)) ∧ Below w.heap.size w w' := by
  subst hq; exact scauchy_ok R C hR1 hR hC1 hC w
set_option maxRecDepth 20000 in
set_option maxHeartbeats 8000000 in
theorem fnCauchy_small (a : Option Addr) (len cap : Nat) (a' : Option Addr) (len' cap' : Nat) (w : World) (hT : Tab w) (hc : CodeOk w a len) (hc' : CodeOk w a' len') (hle : len ≤ 1048576) (hle' : len' ≤ 1048576) :
    Calls Tryd.prog 4 #[.slice a len cap, .slice a' len' cap'] w fun e w' => e = .returned (.bool true) ∧ Below w.heap.size w w' := by
  have d0 : decide ((1048576 : Int) < (len : Int)) = false := by simp; omega
  have d1 : decide ((1048576 : Int) < (len' : Int)) = false := by simp; omega
  have HT := hid hT
  have HC := hid hc
  have HC' := hid hc'
  clear hT hc hc'
  go_enter Tryd.func4, Tryd.ntmps4
  go_wp2_with fail
  refine (lwAt_all w a len cap 0 HC.out (by omega)).mono ?_
  rintro e w0 ⟨⟨r0, rfl, hr0⟩, rfl⟩
  go_wp2_with fail
  -- @cut1
  refine (lwAt_all w0 a len cap 1 HC.out (by omega)).mono ?_
  rintro e w1 ⟨⟨r1, rfl, hr1⟩, rfl⟩
  go_wp2_with fail
  obtain ⟨R, hR, hR1, hR2⟩ : ∃ R : Nat, (1 + (r0 : Int) % 12) = (R : Int) ∧ 1 ≤ R ∧ R ≤ 12 := ⟨1 + r0 % 12, by omega, by omega, by omega⟩
  obtain ⟨C, hC, hC1, hC2⟩ : ∃ C : Nat, (1 + (r1 : Int) % 12) = (C : Int) ∧ 1 ≤ C ∧ C ≤ 12 := ⟨1 + r1 % 12, by omega, by omega, by omega⟩
  rw [hR, hC]
  obtain ⟨q, hq⟩ : ∃ q, q = R * C := ⟨_, rfl⟩
  have hq4 : q ≤ 144 := by rw [hq]; exact Nat.mul_le_mul hR2 hC2
  have HQ := hid hq
  clear hR hC hq hr0 hr1
  refine (icauchy_ok R C q hR1 (by omega) hC1 (by omega) HQ.out _).mono ?_
  rintro e v1 ⟨g, rfl, hg, hW, hb⟩
  have hz1 := hb.size
  have hgl := hW.lt
  have HW := hid hW
  have HB := hid hb
  clear hW hb
  go_wp2_with fail
  obtain ⟨v2, hv2⟩ : ∃ v2, v2 = v1.alloc (.cells #[.int .i64 0, .int .i64 R, .int .i64 C, .slice (some ⟨g, 0, none⟩) q q] 28) := ⟨_, rfl⟩
  have CB2 : Hid (RowAt v2 v1.heap.size 28 #[.int .i64 0, .int .i64 R, .int .i64 C, .slice (some ⟨g, 0, none⟩) q q]) := by rw [hv2]; exact RowAt.new v1 _ _
  have W2 : Hid (Wr .i64 v2 g 0 (nl (cauL R C))) := by rw [hv2]; exact HW.out.alloc _
  have L2 : Hid (Below w1.heap.size w1 v2) := by rw [hv2]; exact HB.out.alloc HB.out.size _
  have s2 : v2.heap.size = v1.heap.size + 1 := by rw [hv2, size_al]
  rw [← hv2]
  clear hv2 HW HB
  have x0 := CB2.out.cell 0
  have x1 := CB2.out.cell 1
  have x2 := CB2.out.cell 2
  have x3 := CB2.out.cell 3
  have hf1 := fld1
  have CL : Hid ((nl (cauL R C)).length = q) := by show _ = _; rw [nl_len, cauL_len]; exact HQ.out.symm
  have CLE : Hid ((nl (cauL R C)).length ≤ 1048576) := by show _ ≤ _; rw [CL.out]; omega
  go_region_held3 (fun wx => wx.cell? ⟨v1.heap.size, 0, none⟩ = some (.int .i64 0) ∧ wx.cell? ⟨v1.heap.size, 1, none⟩ = some (.int .i64 R) ∧ wx.cell? ⟨v1.heap.size, 2, none⟩ = some (.int .i64 C) ∧ wx.cell? ⟨v1.heap.size, 3, none⟩ = some (.slice (some ⟨g, 0, none⟩) q q)) ((first | (go_keep; done) | exact ⟨p4.cell 0, p4.cell 1, p4.cell 2, p4.cell 3⟩ | exact ⟨p3.cell 0, p3.cell 1, p3.cell 2, p3.cell 3⟩)) ((first | (go_at_call 15; refine (scauchy_q R C q hR1 (by omega) hC1 (by omega) HQ.out _).mono ?_; rintro e v3 ⟨g3, rfl, hg3, hW3, hb3⟩; have p3 := CB2.out.drew.below hb3 CB2.out.lt; have p3w := W2.out.drew.below hb3 W2.out.lt) | (go_at_call 10; refine (lwMatrix_eq _ _ _ _ _ _ _ _ (nl (cauL R C)) _ ?_ ?_ CLE.out).mono ?_; exact p3w.ints3 CL.out; exact hW3.ints3 CL.out; rintro e v4 ⟨rfl, hb4⟩; have p4 := p3.below hb4 p3.lt; have hbb := hb3.trans (hb4.mono hb3.size))))
  have CB4 := hid p4
  have W4 : Hid (Wr .i64 v4 g 0 (nl (cauL R C))) := p3w.below hb4 p3w.lt
  have L4 : Hid (Below w1.heap.size w1 v4) := L2.out.drew.trans (hbb.mono (by have := L2.out.size; exact this))
  have s4 : v2.heap.size ≤ v4.heap.size := hbb.size
  clear p3 p4 p3w hW3 hb3 hb4 hbb x0 x1 x2 x3 CB2 W2 L2 hg3
  go_wp2_with fail
  go_loopw [8, 9] (fun v y wr => ∃ (k : Nat) (xs : List Nat), k ≤ 20 ∧ y = .int .i64 k ∧ OwnNums wr v4.heap.size 2 .i64 v (nl xs) ∧ Below v4.heap.size v4 wr ∧ xs.Nodup ∧ (∀ x ∈ xs, x < R) ∧ xs.length ≤ 6 ∧ (1 ≤ k → 1 ≤ xs.length)) (fun _ y _ => 20 - (intOf y).toNat)
  case atStart => exact ⟨0, [], Nat.zero_le _, rfl, OwnNums.empty v4 _ _, (Below.refl _ _).alloc (Nat.le_refl _) _, List.nodup_nil, (fun x hx => absurd hx (by simp)), by simp, fun h => absurd h (by decide)⟩
  case round =>
    obtain ⟨k, xs, hk, rfl, hown, hbel, hnd, hlt, hl6, hne⟩ := hrel
    obtain ⟨ar, n, cr, rfl, hn, hI⟩ := own_nl hown
    have HO := hid hown
    have HBl := hid hbel
    have HND := hid hnd
    have HLT := hid hlt
    have HNE := hid hne
    have HI := hid hI
    have HN := hid hn
    have hn6 : n ≤ 6 := by omega
    clear hown hbel hnd hlt hne hI hn
    go_upto_region 10 with fail
    go_cut [57] from 51 to 72 (fun c wx => c = .bool (decide (k < 20 ∧ n < 6)) ∧ wx = wr)
    case first =>
      by_cases hk20 : k < 20
      · have i1 : (k : Int) < 20 := by omega
        by_cases hn5 : n < 6
        · have i2 : (n : Int) < 6 := by omega
          go_wp2_with fail
          go_meet
          exact ⟨by simp [hk20, hn5], rfl⟩
        · have i2 : ¬ (n : Int) < 6 := by omega
          go_wp2_with fail
          go_meet
          exact ⟨by simp [hn5], rfl⟩
      · have i1 : ¬ (k : Int) < 20 := by omega
        go_wp2_with fail
        go_meet
        exact ⟨by simp [hk20], rfl⟩
    obtain ⟨rfl, rfl⟩ := hcut
    by_cases hgo : k < 20 ∧ n < 6
    · have dg : decide (k < 20 ∧ n < 6) = true := by simpa using hgo
      rw [dg]
      obtain ⟨hk20, hn5⟩ := hgo
      clear dg
      go_wp2_with fail
      refine (lwAt_all _ a' len' cap' k (HC'.out.below (L4.out.trans (HBl.out.mono L4.out.size))) (by omega)).mono ?_
      rintro e w3 ⟨⟨r, rfl, hr⟩, rfl⟩
      go_wp2_with fail
      obtain ⟨x, hx, hxR⟩ : ∃ x : Nat, (r : Int) % (R : Int) = (x : Int) ∧ x < R := ⟨r % R, (Int.natCast_emod r R).symm, Nat.mod_lt _ (by omega)⟩
      rw [hx]
      clear hx hr
      refine (lwHas_is ar n cr (nl xs) (x : Int) _ HI.out (by omega)).mono ?_
      rintro e w5 ⟨rfl, rfl⟩
      by_cases hin : x ∈ xs
      · have dm : decide ((x : Int) ∈ nl xs) = true := by simpa using mem_nl.2 hin
        rw [dm]
        have hx1 : 1 ≤ xs.length := List.length_pos_of_mem hin
        clear dm hin
        go_wp2
        go_roundw
        case rel => exact ⟨k + 1, xs, by omega, by go_num, HO.out, HBl.out, HND.out, HLT.out, by omega, fun _ => hx1⟩
        case measure => simp [intOf]; omega
      · have dm : decide ((x : Int) ∈ nl xs) = false := by
          rw [decide_eq_false_iff_not]; exact fun h => hin (mem_nl.1 h)
        rw [dm]
        have ND2 : Hid ((xs ++ [x]).Nodup) := List.nodup_append.2 ⟨HND.out, by simp, fun y hy z hz => by simp at hz; subst hz; exact fun e => hin (e ▸ hy)⟩
        have LT2 : Hid (∀ y ∈ xs ++ [x], y < R) := fun y hy => by
          rcases List.mem_append.1 hy with h | h
          · exact HLT.out y h
          · simp at h; subst h; exact hxR
        have HNL : Hid (nl (xs ++ [x]) = nl xs ++ [(x : Int)]) := nl_snoc xs x
        clear dm hin
        go_wp2_with (refine append_num v4 w5 (by rfl) (.tmp 69) (.tmp 71) 23 (by rfl) 2 .i64 8 Tryd.underlying23 Tryd.info64 (by decide) _ (nl xs) (x : Int) (by rfl) HO.out HBl.out (by rfl) (by rw [nl_len]; omega) ?_; intro v' w6 hown' hbel' hsome)
        go_roundw
        case rel => exact ⟨k + 1, xs ++ [x], by omega, by go_num, by rw [HNL.out]; exact hown', hbel', ND2.out, LT2.out, by have := HN.out; rw [List.length_append]; simp; omega, fun _ => by rw [List.length_append]; simp⟩
        case measure => simp [intOf]; omega
    · have dg : decide (k < 20 ∧ n < 6) = false := by simpa using hgo
      rw [dg]
      have hxs1 : 1 ≤ n := by
        have := HN.out
        rcases Nat.lt_or_ge k 1 with h | h
        · omega
        · have := HNE.out h; omega
      clear dg hgo
      have L5 : Hid (Below w1.heap.size w1 wc) := L4.out.trans (HBl.out.mono L4.out.size)
      have CB5 := hid (CB4.out.below HBl.out (by have := CB4.out.lt; omega))
      have W5 := hid (W4.out.below HBl.out (by have := W4.out.lt; omega))
      have s5 : v4.heap.size ≤ wc.heap.size := HBl.out.size
      obtain ⟨v5, hv5⟩ : ∃ v5, v5 = wc := ⟨_, rfl⟩
      subst hv5
      clear HBl HO HNE CB4 W4
      go_wp2_with fail
      go_loopw [11, 12] (fun v y wr => ∃ (k : Nat) (ys : List Nat), k ≤ 40 ∧ y = .int .i64 k ∧ OwnNums wr v5.heap.size 2 .i64 v (nl ys) ∧ Below v5.heap.size v5 wr ∧ ys.Nodup ∧ (∀ x ∈ ys, x < C) ∧ ys.length ≤ n ∧ (1 ≤ k → 1 ≤ ys.length)) (fun _ y _ => 40 - (intOf y).toNat)
      case atStart => exact ⟨0, [], Nat.zero_le _, rfl, OwnNums.empty v5 _ _, (Below.refl _ _).alloc (Nat.le_refl _) _, List.nodup_nil, (fun x hx => absurd hx (by simp)), by simp, fun h => absurd h (by decide)⟩
      case round =>
        obtain ⟨k2, ys, hk2, rfl, hown, hbel, hnd, hlt, hl6, hne⟩ := hrel
        obtain ⟨al, m, cl, rfl, hn, hI⟩ := own_nl hown
        have JO := hid hown
        have JBl := hid hbel
        have JND := hid hnd
        have JLT := hid hlt
        have JNE := hid hne
        have JI := hid hI
        have JN := hid hn
        have hm6 : m ≤ n := by omega
        clear hown hbel hnd hlt hne hI hn
        go_upto_region 17 with fail
        go_cut [82] from 74 to 98 (fun c wx => c = .bool (decide (k2 < 40 ∧ m < n)) ∧ wx = wr)
        case first =>
          by_cases hk20 : k2 < 40
          · have i1 : (k2 : Int) < 40 := by omega
            by_cases hn5 : m < n
            · have i2 : (m : Int) < (n : Int) := by omega
              go_wp2_with fail
              go_meet
              exact ⟨by simp [hk20, hn5], rfl⟩
            · have i2 : ¬ (m : Int) < (n : Int) := by omega
              go_wp2_with fail
              go_meet
              exact ⟨by simp [hn5], rfl⟩
          · have i1 : ¬ (k2 : Int) < 40 := by omega
            go_wp2_with fail
            go_meet
            exact ⟨by simp [hk20], rfl⟩
        obtain ⟨rfl, rfl⟩ := hcut
        by_cases hgo : k2 < 40 ∧ m < n
        · have dg : decide (k2 < 40 ∧ m < n) = true := by simpa using hgo
          rw [dg]
          obtain ⟨hk20, hn5⟩ := hgo
          clear dg
          go_wp2_with fail
          refine (lwAt_x _ a' len' cap' _ (20 + k2) (by simp) (HC'.out.below (L5.out.trans (JBl.out.mono L5.out.size))) (by omega)).mono ?_
          rintro e w7 ⟨⟨r, rfl, hr⟩, rfl⟩
          go_wp2_with fail
          obtain ⟨x, hx, hxR⟩ : ∃ x : Nat, (r : Int) % (C : Int) = (x : Int) ∧ x < C := ⟨r % C, (Int.natCast_emod r C).symm, Nat.mod_lt _ (by omega)⟩
          rw [hx]
          clear hx hr
          refine (lwHas_is al m cl (nl ys) (x : Int) _ JI.out (by omega)).mono ?_
          rintro e w8 ⟨rfl, rfl⟩
          by_cases hin : x ∈ ys
          · have dm : decide ((x : Int) ∈ nl ys) = true := by simpa using mem_nl.2 hin
            rw [dm]
            have hx1 : 1 ≤ ys.length := List.length_pos_of_mem hin
            clear dm hin
            go_wp2
            go_roundw
            case rel => exact ⟨k2 + 1, ys, by omega, by go_num, JO.out, JBl.out, JND.out, JLT.out, by omega, fun _ => hx1⟩
            case measure => simp [intOf]; omega
          · have dm : decide ((x : Int) ∈ nl ys) = false := by
              rw [decide_eq_false_iff_not]; exact fun h => hin (mem_nl.1 h)
            rw [dm]
            have ND2 : Hid ((ys ++ [x]).Nodup) := List.nodup_append.2 ⟨JND.out, by simp, fun y hy z hz => by simp at hz; subst hz; exact fun e => hin (e ▸ hy)⟩
            have LT2 : Hid (∀ y ∈ ys ++ [x], y < C) := fun y hy => by
              rcases List.mem_append.1 hy with h | h
              · exact JLT.out y h
              · simp at h; subst h; exact hxR
            have HNL : Hid (nl (ys ++ [x]) = nl ys ++ [(x : Int)]) := nl_snoc ys x
            clear dm hin
            go_wp2_with (refine append_num v5 w8 (by rfl) (.tmp 95) (.tmp 97) 23 (by rfl) 2 .i64 8 Tryd.underlying23 Tryd.info64 (by decide) _ (nl ys) (x : Int) (by rfl) JO.out JBl.out (by rfl) (by rw [nl_len]; omega) ?_; intro v' w9 hown' hbel' hsome)
            go_roundw
            case rel => exact ⟨k2 + 1, ys ++ [x], by omega, by go_num, by rw [HNL.out]; exact hown', hbel', ND2.out, LT2.out, by have := JN.out; rw [List.length_append]; simp; omega, fun _ => by rw [List.length_append]; simp⟩
            case measure => simp [intOf]; omega
        · have dg : decide (k2 < 40 ∧ m < n) = false := by simpa using hgo
          rw [dg]
          have hm1 : 1 ≤ m := by
            have := JN.out
            rcases Nat.lt_or_ge k2 1 with h | h
            · omega
            · have := JNE.out h; omega
          clear dg hgo
          have s6 : v5.heap.size ≤ wc.heap.size := JBl.out.size
          have CB6 := hid (CB5.out.below JBl.out (by have := CB5.out.lt; omega))
          have W6 := hid (W5.out.below JBl.out (by have := W5.out.lt; omega))
          have L6 : Hid (Below w1.heap.size w1 wc) := L5.out.trans (JBl.out.mono L5.out.size)
          have RI := hid (HI.out.below JBl.out)
          have LI : Hid (Ints .i64 wc al m cl (nl ys)) := JI.out
          have hcb := CB6.out.lt
          have hgl6 := W6.out.lt
          obtain ⟨v6, hv6⟩ : ∃ v6, v6 = wc := ⟨_, rfl⟩
          subst hv6
          clear JBl JO JNE JI HI CB5 W5 L5 L4 hz1 hk hk2
          obtain ⟨rb, ro, har, hrl, hrc⟩ : ∃ b off, ar = some ⟨b, off, none⟩ ∧ b < v6.heap.size ∧ ∀ i, i < n → v6.cell? ⟨b, off + i, none⟩ = some (.int .i64 ((nl xs).getD i 0)) := by
            rcases RI.out.2.2 with h0 | ⟨b, off, h1, h2, h3⟩
            · omega
            · exact ⟨b, off, h1, h2, h3⟩
          obtain ⟨lb, lo, hal, hll, hlc⟩ : ∃ b off, al = some ⟨b, off, none⟩ ∧ b < v6.heap.size ∧ ∀ i, i < m → v6.cell? ⟨b, off + i, none⟩ = some (.int .i64 ((nl ys).getD i 0)) := by
            rcases LI.out.2.2 with h0 | ⟨b, off, h1, h2, h3⟩
            · omega
            · exact ⟨b, off, h1, h2, h3⟩
          subst har hal
          have HRC := hid hrc
          have HLC := hid hlc
          obtain ⟨A, hA⟩ : ∃ A, A = (fun i j => (cauL R C).getD (xs.getD i 0 * C + ys.getD j 0) 0) := ⟨_, rfl⟩
          have HA := hid hA
          clear hrc hlc hA RI LI
          go_wp2_with fail
          obtain ⟨v7, hv7⟩ : ∃ v7, v7 = v6.alloc (.cells #[.int .i64 m, .int .i64 m, .slice none 0 0] 25) := ⟨_, rfl⟩
          have M7 : Hid (RowAt v7 v6.heap.size 25 #[.int .i64 m, .int .i64 m, .slice none 0 0]) := by rw [hv7]; exact RowAt.new v6 _ _
          have B7 : Hid (Below v6.heap.size v6 v7) := by rw [hv7]; exact (Below.refl _ _).alloc (Nat.le_refl _) _
          have s7 : v7.heap.size = v6.heap.size + 1 := by rw [hv7, size_al]
          rw [← hv7]
          clear hv7
          go_loopw [16] (fun y wr => ∃ (i : Nat) (v : Value), i ≤ m ∧ y = .int .i64 i ∧ RowAt wr v6.heap.size 25 #[.int .i64 m, .int .i64 m, v] ∧ OwnNums wr (v6.heap.size + 1) 2 .i64 v (nl (pieceL A m (i * m))) ∧ Below v6.heap.size v6 wr ∧ v6.heap.size + 1 ≤ wr.heap.size) (fun y _ => m - (intOf y).toNat)
          case atStart => exact ⟨0, _, Nat.zero_le _, rfl, M7.out, by rw [Nat.zero_mul]; exact World.ownsRow_nil _ _ _ _, B7.out, by omega⟩
          case round =>
            obtain ⟨i, v, hi, rfl, hM, hO, hBv, hsz⟩ := hrel
            have HM := hid hM
            have HO := hid hO
            have HBv := hid hBv
            clear hM hO hBv M7 B7 s7
            by_cases hlt : i < m
            · have hlt' : (i : Int) < (m : Int) := by omega
              go_wp2_with fail
              go_loopw [17] (fun y w2 => ∃ (j : Nat) (v : Value), j ≤ m ∧ y = .int .i64 j ∧ RowAt w2 v6.heap.size 25 #[.int .i64 m, .int .i64 m, v] ∧ OwnNums w2 (v6.heap.size + 1) 2 .i64 v (nl (pieceL A m (i * m + j))) ∧ Below v6.heap.size v6 w2 ∧ v6.heap.size + 1 ≤ w2.heap.size) (fun y _ => m - (intOf y).toNat)
              case atStart => exact ⟨0, _, Nat.zero_le _, rfl, HM.out, HO.out, HBv.out, hsz⟩
              case round =>
                obtain ⟨j, v2, hj, rfl, hM2, hO2, hB2, hsz2⟩ := hrel
                have KM := hid hM2
                have KO := hid hO2
                have KB := hid hB2
                clear hM2 hO2 hB2 HM HO HBv hsz
                by_cases hlj : j < m
                · have hlj' : (j : Int) < (m : Int) := by omega
                  have hin : (i : Int) < (n : Int) := by omega
                  have i0 : (0 : Int) ≤ (i : Int) := by omega
                  have j0 : (0 : Int) ≤ (j : Int) := by omega
                  have hXR : xs.getD i 0 < R := getD_mem_lt HLT.out (by have := HN.out; omega)
                  have hYC : ys.getD j 0 < C := getD_mem_lt JLT.out (by have := JN.out; omega)
                  have cR6 : v6.cell? ⟨rb, ro + i, none⟩ = some (.int .i64 ((xs.getD i 0 : Nat) : Int)) := by rw [← nl_at]; exact HRC.out i (by omega)
                  have cL6 : v6.cell? ⟨lb, lo + j, none⟩ = some (.int .i64 ((ys.getD j 0 : Nat) : Int)) := by rw [← nl_at]; exact HLC.out j (by omega)
                  have hTq : xs.getD i 0 * C + ys.getD j 0 < q := by
                    rw [HQ.out]
                    have : (xs.getD i 0 + 1) * C ≤ R * C := Nat.mul_le_mul_right C hXR
                    rw [Nat.succ_mul] at this; omega
                  have hZ : A i j = (cauL R C).getD (xs.getD i 0 * C + ys.getD j 0) 0 := by rw [HA.out]
                  have cZ6 : v6.cell? ⟨g, xs.getD i 0 * C + ys.getD j 0, none⟩ = some (.int .i64 ((A i j : Nat) : Int)) := by
                    have h := W6.out.cell (i := xs.getD i 0 * C + ys.getD j 0) (by rw [CL.out]; exact hTq)
                    rw [Nat.zero_add, nl_at] at h; rw [hZ]; exact h
                  obtain ⟨Z, hZ2⟩ : ∃ Z, Z = A i j := ⟨_, rfl⟩
                  obtain ⟨X, hX⟩ : ∃ X, X = xs.getD i 0 := ⟨_, rfl⟩
                  obtain ⟨Y, hY⟩ : ∃ Y, Y = ys.getD j 0 := ⟨_, rfl⟩
                  rw [← hZ2, ← hX, ← hY] at cZ6
                  rw [← hX] at cR6 hXR
                  rw [← hY] at cL6 hYC
                  rw [← hX, ← hY] at hTq
                  obtain ⟨P, hP⟩ : ∃ P, P = X * C := ⟨_, rfl⟩
                  rw [← hP] at cZ6 hTq
                  have e1 : IntKind.i64.wrap ((X : Int) * (C : Int)) = (P : Int) := by
                    rw [wrap_small _ (by have := Nat.mul_le_mul (Nat.le_of_lt hXR) hC2; have e : ((X * C : Nat) : Int) = (X : Int) * (C : Int) := by simp
                                         omega) (by have e : ((X * C : Nat) : Int) = (X : Int) * (C : Int) := by simp
                                                    omega), hP]; simp
                  obtain ⟨T, hT⟩ : ∃ T, T = P + Y := ⟨_, rfl⟩
                  rw [← hT] at cZ6 hTq
                  have e2 : IntKind.i64.wrap ((P : Int) + (Y : Int)) = (T : Int) := by rw [wrap_small _ (by omega) (by omega), hT]; simp
                  have t1 : (T : Int) < (q : Int) := by omega
                  have t0 : (0 : Int) ≤ (T : Int) := by omega
                  have DR := hid cR6
                  have DL := hid cL6
                  have DZ := hid cZ6
                  have cR := (KB.out.cell (p := ⟨rb, ro + i, none⟩) hrl).trans cR6
                  have cL := (KB.out.cell (p := ⟨lb, lo + j, none⟩) hll).trans cL6
                  have cZ := (KB.out.cell (p := ⟨g, T, none⟩) hgl6).trans cZ6
                  clear cR6 cL6 cZ6
                  have cM := KM.out.cell 2
                  have cM1 := (KM.out.alloc (.cells #[.int .i64 Z] 2)).drew.cell 2
                  have cC := (CB6.out.below KB.out hcb).cell 3
                  have KN : Hid (nl (pieceL A m (i * m + (j + 1))) = nl (pieceL A m (i * m + j)) ++ [(Z : Int)]) := by
                    show _ = _
                    rw [pieceL_snoc A m i j hlj, nl_snoc, hZ2]
                  have KL : Hid ((pieceL A m (i * m + j)).length ≤ 100) := by
                    show _ ≤ _
                    rw [pieceL_len]
                    have : i * m ≤ 6 * 6 := Nat.mul_le_mul (by omega) (by omega)
                    omega
                  clear hZ hZ2 hX hY hP hT hXR hYC HT HC HC' d0 d1 hle hle' hf1 CL CLE L6 HND JND HLT JLT HN JN HRC HLC HA W6 CB6 DR DL DZ HQ
                  go_wp2_with fail
                  go_region_law (refine step_append_box (v6.heap.size + 1) _ (by rfl) _ _ 23 (by rfl) 2 .i64 8 Tryd.underlying23 Tryd.info64 (by decide) _ (nl (pieceL A m (i * m + j))) (Z : Int) (by rfl) ((KO.out.alloc _).drew) (by show _ ≤ (World.alloc _ _).heap.size; rw [size_al]; omega) wr.heap.size ((RowAt.new wr _ _).drew) (by rfl) (by rw [nl_len]; have := KL.out; omega) ?_; intro g8 cp8 w8 hown8 hg8; have r8 := ((KM.out.alloc (.cells #[.int .i64 Z] 2)).drew).far hg8 ((KO.out.alloc (.cells #[.int .i64 Z] 2)).drew.ne (by omega)); have y2 := r8.cell 2; have f2 := r8.free 2; have b8 := (bal KB.out (.cells #[.int .i64 Z] 2) (Nat.le_refl _)).drew.grown hg8 (by show _ ≤ (World.alloc _ _).heap.size; rw [size_al]; omega) (fun b hb => Nat.le_trans (Nat.le_succ _) (World.ownsRow.lt (KO.out.alloc (.cells #[.int .i64 Z] 2)).drew b hb).1))
                  all_goals
                    have R8 := hid r8
                    have B8 := hid b8
                    have O8 := hid hown8
                    have z8 := Nat.lt_of_lt_of_le (Nat.lt_succ_of_le hsz2) (by have h := hg8.size; exact (show wr.heap.size + 1 ≤ _ by rw [← size_al wr (.cells #[.int .i64 Z] 2)]; exact h))
                    clear r8 b8 hown8 hg8 cM cM1 cC cR cL cZ y2 f2
                  all_goals go_wp2
                  all_goals
                    go_roundw
                    case rel => exact ⟨j + 1, _, by omega, by go_num, R8.out.set 2 _, by rw [KN.out]; exact O8.out.kept grown_set (by omega), B8.out.setCell (Nat.le_refl _) _, by simp [World.setCell]; omega⟩
                    case measure => simp [intOf]; omega
                · have hje : j = m := by omega
                  have NX : Hid (pieceL A m (i * m + j) = pieceL A m ((i + 1) * m)) := by show _ = _; rw [hje, Nat.succ_mul]
                  have hlj' : ¬ (j : Int) < (m : Int) := by omega
                  clear hje
                  go_wp2
                  go_roundw
                  case rel => exact ⟨i + 1, v2, by omega, by go_num, KM.out, by rw [← NX.out]; exact KO.out, KB.out, hsz2⟩
                  case measure => simp [intOf]; omega
            · have hie : i = m := by omega
              have NX : Hid (pieceL A m (i * m) = pieceL A m (m * m)) := by show _ = _; rw [hie]
              have hlt' : ¬ (i : Int) < (m : Int) := by omega
              obtain ⟨p, hp⟩ : ∃ p, p = m * m := ⟨_, rfl⟩
              have HP := hid hp
              have PL : Hid ((nl (pieceL A m p)).length = p) := by show _ = _; rw [nl_len, pieceL_len]
              have PI : Hid (∃ a cp, v = .slice a p cp ∧ Ints .i64 wr a p cp (nl (pieceL A m p))) := by
                have h := HO.out
                rw [NX.out, ← hp] at h
                obtain ⟨aa, cc, h1, h2, _⟩ := own_ints h
                rw [PL.out] at h1 h2
                exact ⟨aa, cc, h1, h2⟩
              obtain ⟨aa, cc, hv, hI⟩ := PI.out
              subst hv
              have HI := hid hI
              have SMp : Hid (Small (pieceL A m p)) := by rw [HA.out]; exact piece_small (fun i => (cau_small (by omega) (by omega)) i)
              have F1 : Hid (mfault m m (nl (pieceL A m p)) = 0) := mfault_of hm1 (by omega) (by rw [pieceL_len]; exact hp) SMp.out
              have RK : Hid (rank m m (fm (mo m (pieceL A m p))) = m) := by
                show _ = _
                rw [HA.out, hp]
                exact piece_rank (by omega) (by omega) HND.out JND.out HLT.out JLT.out (by have := HN.out; omega) (by have := JN.out; omega)
              have L9 : Hid (Below w1.heap.size w1 wr) := L6.out.trans (HBv.out.mono L6.out.size)
              have T9 : Hid (Tab wr) := HT.out.belowS L9.out
              have hf0 := fld0
              clear hie hp hI PI PL NX HO HBv HA
              have ld0 := HM.out
              go_wp2_with (refine wpList_load_row rfl 25 (.tmp 15) rfl v6.heap.size rfl _ _ _ _ ld0 Tryd.underlying25 rfl (by kernel_rfl) ?_)
              refine (imatrank m m p m hm1 (by omega) hm1 (by omega) HP.out (pieceL A m p) SMp.out RK aa cc _ T9.out HI.out F1.out).mono ?_
              rintro e w10 ⟨rfl, hb10⟩
              have ld1 := HM.out.below hb10 HM.out.lt
              have I10 := hid (HI.out.below hb10)
              have L10 : Hid (Below w1.heap.size w1 w10) := L9.out.trans (hb10.mono L9.out.size)
              have T10 := hid (HT.out.belowS L10.out)
              have c10 := ld1.cell 0
              have c11 := ld1.cell 1
              have c12 := ld1.cell 2
              clear hb10 ld0 HI L9 T9 HM
              go_wp2_with fail
              -- @cut10
              refine (imatinv_eq m p hm1 (by omega) HP.out (pieceL A m p) SMp.out aa cc _ T10.out I10.out F1.out RK.out).mono ?_
              rintro e w11 ⟨gx, X, rfl, _, _, _, _, _, _, hb11⟩
              have L11 : Hid (Below w1.heap.size w1 w11) := L10.out.trans (hb11.mono L10.out.size)
              clear hb11 ld1 I10 L10 c10 c11 c12
              go_wp2
              go_ret
              exact ⟨rfl, L11.out⟩
set_option maxRecDepth 20000 in
set_option maxHeartbeats 1000000 in
theorem fnCauchy_walk {w : World} (hT : Tab w) (a : Option Addr) (len cap : Nat) (z : List Int) (h : IsRow .u8 w a len cap z) (a' : Option Addr) (len' cap' : Nat) (z' : List Int) (h' : IsRow .u8 w a' len' cap' z') :
    Calls Tryd.prog 4 #[.slice a len cap, .slice a' len' cap'] w fun e w' => e = .returned (.bool true) ∧ Below w.heap.size w w' := by
  by_cases hl : len ≤ 1048576
  · by_cases hl' : len' ≤ 1048576
    · exact fnCauchy_small a len cap a' len' cap' w hT (codeOk_of w a len cap z h hl) (codeOk_of w a' len' cap' z' h' hl') hl hl'
    · have d0 : decide ((1048576 : Int) < (len : Int)) = false := by simp; omega
      have d1 : decide ((1048576 : Int) < (len' : Int)) = true := by simp; omega
      have m0 := h'.le
      unfold maxLen at m0
      go_enter Tryd.func4, Tryd.ntmps4
      go_wp2
      go_ret
      exact ⟨rfl, Below.refl _ _⟩
  · have d0 : decide ((1048576 : Int) < (len : Int)) = true := by simp; omega
    have m0 := h.le
    unfold maxLen at m0
    go_enter Tryd.func4, Tryd.ntmps4
    go_wp2
    go_ret
    exact ⟨rfl, Below.refl _ _⟩
end Go.Proofs.YtlobnmcjnaibaaaDoorR
