import Derived.Test.YthdmaamocejodaaDoorMixSh
import Derived.Test.YthdmaamocejodaaDoorCRows
namespace Go.Proofs.YthdmaamocejodaaDoor
open Go.RowKit
/-! The program's EncodeShards. -/
def Fits (ts : Nat → ByteArray) (n : Nat) : Prop := ∀ i, i < n → 1 ≤ (ts i).size ∧ (ts i).size ≤ 4096 ∧ (ts i).size = (ts 0).size
instance (ts : Nat → ByteArray) (n : Nat) : Decidable (Fits ts n) := inferInstanceAs (Decidable (∀ i, i < n → _))
set_option maxRecDepth 20000 in
set_option maxHeartbeats 2000000 in
theorem iare (sg so n cp : Nat) (ts : Nat → ByteArray) (hn1 : 1 ≤ n) (hn : n ≤ 1048576) (hz : ∀ i, i < n → (ts i).size ≤ 1048576) (w : World) (hS : ∀ i, i < n → w.cell? ⟨sg, so + i, none⟩ = some (.string (ts i))) :
    Calls Tryd.prog 24 #[.slice (some ⟨sg, so, none⟩) n cp] w fun e w' => e = .returned (.bool (decide (Fits ts n))) ∧ w' = w := by
  have s0 := hS 0 (by omega)
  rw [Nat.add_zero] at s0
  have HS := hid hS
  have HZ := hid hz
  obtain ⟨t0, ht0⟩ : ∃ t, t = ts 0 := ⟨_, rfl⟩
  obtain ⟨z0, hz0⟩ : ∃ z, z = t0.size := ⟨_, rfl⟩
  have hz0l : z0 ≤ 1048576 := by rw [hz0, ht0]; exact hz 0 (by omega)
  have HT0 : Hid ((ts 0).size = z0) := by show _ = _; rw [hz0, ht0]
  rw [← ht0] at s0
  have i1 : (0 : Int) < (n : Int) := by omega
  have q0 : t0.size = z0 := hz0.symm
  clear hS hz ht0 hz0
  go_enter Tryd.func24, Tryd.ntmps24
  go_wp2
  go_loop [7] (fun y => ∃ k : Nat, k ≤ n ∧ y = .int .i64 k ∧ ∀ i, i < k → 1 ≤ (ts i).size ∧ (ts i).size ≤ 4096 ∧ (ts i).size = (ts 0).size) (fun y => n - (intOf y).toNat)
  case atStart => exact ⟨0, Nat.zero_le _, rfl, fun i hi => absurd hi (Nat.not_lt_zero _)⟩
  case round =>
    obtain ⟨k, hk, rfl, hall⟩ := hrel
    have HA := hid hall
    clear hall
    by_cases hlt : k < n
    · have hlt' : (k : Int) < (n : Int) := by omega
      have k0 : (0 : Int) ≤ (k : Int) := by omega
      have sk := HS.out k hlt
      obtain ⟨t, ht⟩ : ∃ t, t = ts k := ⟨_, rfl⟩
      obtain ⟨z, hz⟩ : ∃ z, z = t.size := ⟨_, rfl⟩
      have hzl : z ≤ 1048576 := by rw [hz, ht]; exact HZ.out k hlt
      have HTK : Hid ((ts k).size = z) := by show _ = _; rw [hz, ht]
      rw [← ht] at sk
      have qk : t.size = z := hz.symm
      clear ht hz
      have bad : ¬ (1 ≤ z ∧ z ≤ 4096 ∧ z = z0) → Hid (decide (Fits ts n) = false) := fun h => by
        show _ = _
        rw [decide_eq_false_iff_not]
        intro hf
        have h9 := hf k hlt
        rw [HTK.out, HT0.out] at h9
        exact h h9
      by_cases c1 : z < 1
      · have E := bad (by omega)
        have c1' : (z : Int) < 1 := by omega
        clear bad
        go_wp2
        go_ret
        exact ⟨by rw [E.out]; rfl, rfl⟩
      have c1' : ¬ (z : Int) < 1 := by omega
      by_cases c2 : 4096 < z
      · have E := bad (by omega)
        have c2' : (4096 : Int) < (z : Int) := by omega
        clear bad
        go_wp2
        go_ret
        exact ⟨by rw [E.out]; rfl, rfl⟩
      have c2' : ¬ (4096 : Int) < (z : Int) := by omega
      by_cases c3 : z = z0
      · have c3' : ((z : Int) != (z0 : Int)) = false := by simp; omega
        have HA' : Hid (∀ i, i < k + 1 → 1 ≤ (ts i).size ∧ (ts i).size ≤ 4096 ∧ (ts i).size = (ts 0).size) := fun i hi => by
          by_cases e : i = k
          · rw [e, HTK.out, HT0.out]; omega
          · exact HA.out i (by omega)
        clear bad c3
        go_wp2
        go_round
        case rel => exact ⟨k + 1, by omega, by go_num, HA'.out⟩
        case measure => simp [intOf]; omega
      · have E := bad (by omega)
        have c3' : ((z : Int) != (z0 : Int)) = true := by simp; omega
        clear bad
        go_wp2
        go_ret
        exact ⟨by rw [E.out]; rfl, rfl⟩
    · have E : Hid (decide (Fits ts n) = true) := by
        show _ = _
        rw [decide_eq_true_iff]
        exact fun i hi => HA.out i (by omega)
      have hlt' : ¬ (k : Int) < (n : Int) := by omega
      go_wp2
      go_ret
      exact ⟨by rw [E.out]; rfl, rfl⟩
theorem rowN_lt' {K M G i j : Nat} (h5 : K + M + G ≤ 64) (hi : i < 64) : rowN K M G i j < 256 := by
  unfold rowN
  by_cases hj : j < K
  · rw [if_pos hj]
    split
    · split <;> decide
    · split
      · exact gp_lt fld8.toFld (Nat.xor_lt_two_pow (n := 8) (by omega) (by omega)) 254
      · repeat' split
        all_goals decide
  · rw [if_neg hj]; decide
theorem mixN_fac {fac fac' ld : Nat → Nat → Nat} {i j : Nat} : ∀ k, (∀ t, t < k → fac i t = fac' i t) → mixN fac ld i j k = mixN fac' ld i j k
  | 0, _ => rfl
  | k + 1, h => by
    show mixN fac ld i j k ^^^ _ = mixN fac' ld i j k ^^^ _
    rw [mixN_fac k (fun t ht => h t (by omega)), h k (by omega)]
theorem one2 (k : Int) (a : Option Addr) (len cap : Nat) : (#[.int .i64 k, .slice a len cap] : Array Value).all (·.oneCell') = true := by simp [Value.oneCell']
/-- the encoded texts -/
def encT (K M G : Nat) (ts : Nat → ByteArray) (i : Nat) : ByteArray := strOfNums (nl ((List.range (ts 0).size).map fun p => mixN (rowN K M G) (fun k p => if k < K then sb (ts k) p else 0) i p 32))
set_option maxRecDepth 20000 in
set_option maxHeartbeats 4000000 in
theorem ienc_ok (K M G sg so cp : Nat) (h1 : 1 ≤ K) (h2 : K ≤ 32) (h3 : M ≤ 16) (h4 : G ≤ K) (h5 : K + M + G ≤ 64) (ts : Nat → ByteArray) (hF : Fits ts K) (w : World) (hT : Tab w) (hS : ∀ i, i < K → w.cell? ⟨sg, so + i, none⟩ = some (.string (ts i))) :
    Calls Tryd.prog 16 #[cdv K M G, .slice (some ⟨sg, so, none⟩) K cp] w fun e w' => ∃ tg, e = .returned (.agg #[.int .i64 0, .slice (some ⟨tg, 0, none⟩) (K + M + G) (K + M + G)]) ∧ w.heap.size ≤ tg ∧ FRow w' tg 9 (K + M + G) (fun i => .string (encT K M G ts i)) ∧ Below w.heap.size w w' := by
  have hf : Hid (cfault K M G = 0) := cfault_of h1 h2 h3 h4 h5
  have hz := zvT
  have HF := hid hF
  have HS := hid hS
  have HT := hid hT
  have sgl : sg < w.heap.size := World.block_lt_of_cell? w _ (hS 0 (by omega))
  clear hF hS hT
  go_enter Tryd.func16, Tryd.ntmps16
  go_wp2_with fail
  refine (iCfault _ _ _ _).mono ?_
  rintro e w1 ⟨rfl, hw1⟩
  rw [hf.out]
  have C1 : Hid (RowAt w1 w.heap.size 24 (cda K M G)) := by rw [hw1]; exact ((RowAt.new w _ _).alloc _).alloc _
  have R1 : Hid (RowAt w1 (w.heap.size + 1) 54 #[.int .i64 0, .slice none 0 0]) := by rw [hw1]; exact (RowAt.next _ _ _ (by rw [size_al])).alloc _
  have B1 : Hid (Below w.heap.size w w1) := by rw [hw1]; exact bal (bal (bal (Below.refl _ _) _ (Nat.le_refl _)) _ (Nat.le_refl _)) _ (Nat.le_refl _)
  have c0 : w1.cell? ⟨w.heap.size, 0, none⟩ = some (.int .i64 K) := C1.out.cell 0
  have dK : ((K : Int) != (K : Int)) = false := by simp
  clear hw1
  go_wp2_with fail
  refine (iare sg so K cp ts h1 (by omega) (fun i hi => by have := HF.out i hi; omega) _ (fun i hi => (B1.out.cell (p := ⟨sg, so + i, none⟩) sgl).trans (HS.out i hi))).mono ?_
  rintro e w2 ⟨rfl, rfl⟩
  rw [decide_eq_true HF.out]
  have c1 : w2.cell? ⟨w.heap.size, 1, none⟩ = some (.int .i64 M) := C1.out.cell 1
  have c2 : w2.cell? ⟨w.heap.size, 2, none⟩ = some (.int .i64 G) := C1.out.cell 2
  go_wp2_with fail
  refine (irows K M G h1 h2 h3 h4 h5 _).mono ?_
  rintro e w3 ⟨rfl, hb3⟩
  obtain ⟨A9, hA9⟩ : ∃ A9, A9 = ((List.range 2048).map (tabS K M G (K + M + G))).toArray := ⟨_, rfl⟩
  rw [← hA9]
  have hi9 : Hid ((Tryd.prog.info? 70).map (·.size) = some A9.size) := by show _ = _; rw [hA9, List.size_toArray, List.length_map, List.length_range]; kernel_rfl
  have hs9 : Hid (tz.size = A9.size) := by show _ = _; rw [tz_size, hA9, List.size_toArray, List.length_map, List.length_range]
  have ho9 : Hid (A9.all (·.oneCell') = true) := by
    show _ = _
    rw [hA9]
    exact all_oneCell_toArray fun v hv => by
      obtain ⟨p, _, rfl⟩ := List.mem_map.1 hv; rfl
  have AT : Hid (∀ p, p < 2048 → A9[p]? = some (tabS K M G (K + M + G) p)) := fun p hp => by rw [hA9]; simp [hp]
  have C3 := hid (C1.out.below hb3 C1.out.lt)
  have R3 := hid (R1.out.below hb3 R1.out.lt)
  have B3 : Hid (Below w.heap.size w w3) := B1.out.trans (hb3.mono B1.out.size)
  have l3 : w.heap.size < w3.heap.size := C3.out.lt
  have l3' : Hid (w.heap.size + 1 < w3.heap.size) := R3.out.lt
  have c0 : w3.cell? ⟨w.heap.size, 0, none⟩ = some (.int .i64 K) := C3.out.cell 0
  have c1 : w3.cell? ⟨w.heap.size, 1, none⟩ = some (.int .i64 M) := C3.out.cell 1
  have c2 : w3.cell? ⟨w.heap.size, 2, none⟩ = some (.int .i64 G) := C3.out.cell 2
  clear hb3 hA9 C1 R1 B1
  go_wp2_with ((refine wpList_store_row rfl 70 (.tmp 5) (.tmp 22) rfl w3.heap.size A9 rfl rfl _ _ (RowAt.new w3 _ _) hi9.out hs9.out ho9.out ?_); rw [World.setRow_alloc_new])
  refine (iCsize _ _ _ _).mono ?_
  rintro e w4 ⟨rfl, hw4⟩
  have E4 : csize K M G = ((K + M + G : Nat) : Int) := by unfold csize; rw [if_pos hf.out]; simp
  rw [E4]
  obtain ⟨S, hS⟩ : ∃ S, S = K + M + G := ⟨_, rfl⟩
  rw [← hS]
  have T4 : Hid (RowAt w4 w3.heap.size 70 A9) := by rw [hw4]; exact ((RowAt.new w3 _ _).alloc _).alloc _
  have R4 : Hid (RowAt w4 (w.heap.size + 1) 54 #[.int .i64 0, .slice none 0 0]) := by rw [hw4]; exact ((R3.out.alloc _).alloc _).alloc _
  have B4 : Hid (Below w.heap.size w w4) := by rw [hw4]; exact bal (bal (bal B3.out _ (Nat.le_refl _)) _ (Nat.le_refl _)) _ (Nat.le_refl _)
  have S1 : (0 : Int) ≤ (S : Int) := by omega
  have S2 : (S : Int) ≤ 64 := by omega
  have HSS := hid hS
  have S3 : S ≤ 64 := by omega
  have S4 : 1 ≤ S := by omega
  clear hw4 C3 R3 B3 c0 c1 c2 E4 hi9 hs9 ho9 hS
  go_wp2_with fail
  have Z0 : Hid (1 ≤ (ts 0).size ∧ (ts 0).size ≤ 4096) := by have := HF.out 0 (by omega); show _ ∧ _; omega
  refine (imixSh w3.heap.size S 64 sg so K cp (ts 0).size S4 S3 h1 h2 Z0.out.1 Z0.out.2 (fun i k => if i < S ∧ k < 32 then rowN K M G i k else 0) ts (fun i hi => (HF.out i hi).2.2) ?hf8 _ ?hT ?hR ?hS).mono ?_
  case hf8 =>
    intro i k
    show (if i < S ∧ k < 32 then rowN K M G i k else 0) < 256
    split
    · rename_i h9; exact rowN_lt' (by omega) (by omega)
    · decide
  case hT => exact HT.out.belowS B4.out
  case hR =>
    intro i k hi hk
    show _ = some (Value.int .u8 (((if i < S ∧ k < 32 then rowN K M G i k else 0) : Nat) : Int))
    rw [T4.out.cell, AT.out _ (by omega)]
    unfold tabS
    rw [if_pos (show (i * 32 + k) / 32 < K + M + G by have := HSS.out; omega), show (i * 32 + k) / 32 = i by omega, show (i * 32 + k) % 32 = k by omega, if_pos ⟨hi, hk⟩]
  case hS => exact fun i hi => (B4.out.cell (p := ⟨sg, so + i, none⟩) sgl).trans (HS.out i hi)
  rintro e w5 ⟨tg, rfl, htg, hF5, hb5⟩
  have R5 := hid (R4.out.below hb5 R4.out.lt)
  have B5 : Hid (Below w.heap.size w w5) := B4.out.trans (hb5.mono B4.out.size)
  have l5 : Hid (w.heap.size + 1 < tg) := by have h8 := R4.out.lt; show _ < _; omega
  have F5 : Hid (FRow w5 tg 9 S (fun i => .string (encT K M G ts i))) := by
    refine hF5.congr fun i hi => ?_
    unfold encT
    congr 3
    refine List.map_congr_left fun p _ => ?_
    exact mixN_fac 32 (fun k hk => by show (if i < S ∧ k < 32 then _ else _) = _; rw [if_pos ⟨hi, hk⟩])
  clear hF5 hb5 htg R4 B4 T4
  -- @cut1
  go_wp2_with (refine wpList_store_row rfl 54 (.tmp 4) (.tmp 28) rfl (w.heap.size + 1) #[.int .i64 0, .slice (some ⟨tg, 0, none⟩) S S] rfl rfl _ _ R5.out (by kernel_rfl) rfl (one2 _ _ _ _) ?_)
  rw [← HSS.out]
  refine bodyPost_ret (v := .agg #[.int .i64 0, .slice (some ⟨tg, 0, none⟩) S S]) ?_ rfl ⟨tg, rfl, by have := l5.out; omega, ?_, ?_⟩
  · exact results_cell_row Tryd.results16 _ _ (w.heap.size + 1) _ _ _ _ rfl (R5.out.setRow _) Tryd.underlying54 rfl (by kernel_rfl)
  · have h8 := l5.out
    obtain ⟨cs, q1, q2, q3⟩ := F5.out
    exact ⟨cs, q1.otherRow _ _ (by omega), q2, q3⟩
  · exact below_setRow B5.out _ _ (by omega)
set_option maxRecDepth 20000 in
set_option maxHeartbeats 2000000 in
theorem ienc_form (k m g : Int) (a : Option Addr) (len cp : Nat) (hno : ¬ (cfault k m g = 0 ∧ (len : Int) = k)) (w : World) :
    Calls Tryd.prog 16 #[cdv k m g, .slice a len cp] w fun e w' => e = .returned (.agg #[.int .i64 1, .slice none 0 0]) ∧ Below w.heap.size w w' := by
  go_enter Tryd.func16, Tryd.ntmps16
  go_wp2_with fail
  refine (iCfault _ _ _ _).mono ?_
  rintro e w1 ⟨rfl, hw1⟩
  have C1 : Hid (RowAt w1 w.heap.size 24 (cda k m g)) := by rw [hw1]; exact ((RowAt.new w _ _).alloc _).alloc _
  have R1 : Hid (RowAt w1 (w.heap.size + 1) 54 #[.int .i64 0, .slice none 0 0]) := by rw [hw1]; exact (RowAt.next _ _ _ (by rw [size_al])).alloc _
  have B1 : Hid (Below w.heap.size w w1) := by rw [hw1]; exact bal (bal (bal (Below.refl _ _) _ (Nat.le_refl _)) _ (Nat.le_refl _)) _ (Nat.le_refl _)
  have c0 : w1.cell? ⟨w.heap.size, 0, none⟩ = some (.int .i64 k) := C1.out.cell 0
  clear hw1
  rcases cfault_01 k m g with hf | hf
  · have dK : ((len : Int) != k) = true := by
      have : ¬ (len : Int) = k := fun e => hno ⟨hf, e⟩
      simpa using this
    rw [hf]
    clear hf hno
    go_wp2_with (refine wpList_store_row rfl 54 (.tmp 4) (.tmp 16) rfl (w.heap.size + 1) #[.int .i64 1, .slice none 0 0] rfl rfl _ _ R1.out (by kernel_rfl) rfl (one2 _ _ _ _) ?_)
    refine bodyPost_ret (v := .agg #[.int .i64 1, .slice none 0 0]) ?_ rfl ⟨rfl, below_setRow B1.out _ _ (by omega)⟩
    exact results_cell_row Tryd.results16 _ _ (w.heap.size + 1) _ _ _ _ rfl (R1.out.setRow _) Tryd.underlying54 rfl (by kernel_rfl)
  · rw [hf]
    clear hf hno
    go_wp2_with (refine wpList_store_row rfl 54 (.tmp 4) (.tmp 16) rfl (w.heap.size + 1) #[.int .i64 1, .slice none 0 0] rfl rfl _ _ R1.out (by kernel_rfl) rfl (one2 _ _ _ _) ?_)
    refine bodyPost_ret (v := .agg #[.int .i64 1, .slice none 0 0]) ?_ rfl ⟨rfl, below_setRow B1.out _ _ (by omega)⟩
    exact results_cell_row Tryd.results16 _ _ (w.heap.size + 1) _ _ _ _ rfl (R1.out.setRow _) Tryd.underlying54 rfl (by kernel_rfl)
set_option maxRecDepth 20000 in
set_option maxHeartbeats 2000000 in
theorem ienc_size (K M G sg so cp : Nat) (h1 : 1 ≤ K) (h2 : K ≤ 32) (hf : cfault K M G = 0) (ts : Nat → ByteArray) (hz : ∀ i, i < K → (ts i).size ≤ 1048576) (hF : ¬ Fits ts K) (w : World) (hS : ∀ i, i < K → w.cell? ⟨sg, so + i, none⟩ = some (.string (ts i))) :
    Calls Tryd.prog 16 #[cdv K M G, .slice (some ⟨sg, so, none⟩) K cp] w fun e w' => e = .returned (.agg #[.int .i64 2, .slice none 0 0]) ∧ Below w.heap.size w w' := by
  have hf := hid hf
  have HF := hid hF
  have HS := hid hS
  have HZ := hid hz
  have sgl : sg < w.heap.size := World.block_lt_of_cell? w _ (hS 0 (by omega))
  clear hF hS hz
  go_enter Tryd.func16, Tryd.ntmps16
  go_wp2_with fail
  refine (iCfault _ _ _ _).mono ?_
  rintro e w1 ⟨rfl, hw1⟩
  rw [hf.out]
  have C1 : Hid (RowAt w1 w.heap.size 24 (cda K M G)) := by rw [hw1]; exact ((RowAt.new w _ _).alloc _).alloc _
  have R1 : Hid (RowAt w1 (w.heap.size + 1) 54 #[.int .i64 0, .slice none 0 0]) := by rw [hw1]; exact (RowAt.next _ _ _ (by rw [size_al])).alloc _
  have B1 : Hid (Below w.heap.size w w1) := by rw [hw1]; exact bal (bal (bal (Below.refl _ _) _ (Nat.le_refl _)) _ (Nat.le_refl _)) _ (Nat.le_refl _)
  have c0 : w1.cell? ⟨w.heap.size, 0, none⟩ = some (.int .i64 K) := C1.out.cell 0
  have dK : ((K : Int) != (K : Int)) = false := by simp
  clear hw1
  go_wp2_with fail
  refine (iare sg so K cp ts h1 (by omega) HZ.out _ (fun i hi => (B1.out.cell (p := ⟨sg, so + i, none⟩) sgl).trans (HS.out i hi))).mono ?_
  rintro e w2 ⟨rfl, rfl⟩
  rw [decide_eq_false HF.out]
  go_wp2_with (refine wpList_store_row rfl 54 (.tmp 4) (.tmp 20) rfl (w.heap.size + 1) #[.int .i64 2, .slice none 0 0] rfl rfl _ _ R1.out (by kernel_rfl) rfl (one2 _ _ _ _) ?_)
  refine bodyPost_ret (v := .agg #[.int .i64 2, .slice none 0 0]) ?_ rfl ⟨rfl, below_setRow B1.out _ _ (by omega)⟩
  exact results_cell_row Tryd.results16 _ _ (w.heap.size + 1) _ _ _ _ rfl (R1.out.setRow _) Tryd.underlying54 rfl (by kernel_rfl)
end Go.Proofs.YthdmaamocejodaaDoor
