import Derived.Test.YtjakibhanpmkcaaDoorEncS3
import Derived.Test.YtjakibhanpmkcaaDoorLawStr2
namespace Go.Proofs.YtjakibhanpmkcaaDoor
open Go.RowKit
/-! The specification's EncodeShards. -/
theorem Tryd.infoB' : (Tryd.prog.info? 4).map (fun i => (i.zero, i.size, i.bytes)) = some (some (.bool false), 1, 1) := by kernel_rfl
theorem mkB' (w : World) (n : Nat) (hn : n ≤ 1048576) : (Instr.makeSlice 37 (.int .i64 n) (.int .i64 n)).run Tryd.prog w = .ok (.slice (some ⟨w.heap.size, 0, none⟩) n n) (w.alloc (.cells (madeCells #[.bool false] n) 4)) := by
  obtain ⟨i0, hi, hz0, hz1, hz2⟩ := info_parts Tryd.infoB'
  have := run_make (P := Tryd.prog) w 37 4 i0 _ Tryd.underlying37 hi hz0 .i64 .i64 n n (by omega) (Int.le_refl _) (by rw [hz2]; omega) (by omega)
  rw [this, hz1]
  simp only [Int.toNat_natCast, Value.cells, Nat.mul_one]
set_option maxRecDepth 20000 in
set_option maxHeartbeats 2000000 in
theorem senc_form (k m g : Int) (a : Option Addr) (len cp : Nat) (hno : ¬ (cfault k m g = 0 ∧ (len : Int) = k)) (w : World) :
    Calls Tryd.prog 5 #[cdv k m g, .slice a len cp] w fun e w' => e = .returned (.agg #[.int .i64 1, .slice none 0 0]) ∧ Below w.heap.size w w' := by
  go_enter Tryd.func5, Tryd.ntmps5
  go_wp2_with fail
  refine (sCfault _ _ _ _).mono ?_
  rintro e w1 ⟨rfl, hw1⟩
  have C1 : Hid (RowAt w1 w.heap.size 29 (cda k m g)) := by rw [hw1]; exact ((RowAt.new w _ _).alloc _).alloc _
  have R1 : Hid (RowAt w1 (w.heap.size + 1) 27 #[.int .i64 0, .slice none 0 0]) := by rw [hw1]; exact (RowAt.next _ _ _ (by rw [size_al])).alloc _
  have B1 : Hid (Below w.heap.size w w1) := by rw [hw1]; exact bal (bal (bal (Below.refl _ _) _ (Nat.le_refl _)) _ (Nat.le_refl _)) _ (Nat.le_refl _)
  have c0 : w1.cell? ⟨w.heap.size, 0, none⟩ = some (.int .i64 k) := C1.out.cell 0
  clear hw1
  rcases cfault_01 k m g with hf | hf
  · have dK : ((len : Int) != k) = true := by
      have : ¬ (len : Int) = k := fun e => hno ⟨hf, e⟩
      simpa using this
    rw [hf]
    clear hf hno
    go_wp2_with (refine wpList_store_row rfl 27 (.tmp 4) (.tmp 18) rfl (w.heap.size + 1) #[.int .i64 1, .slice none 0 0] rfl rfl _ _ R1.out (by kernel_rfl) rfl (one2 _ _ _ _) ?_)
    refine bodyPost_ret (v := .agg #[.int .i64 1, .slice none 0 0]) ?_ rfl ⟨rfl, below_setRow B1.out _ _ (by omega)⟩
    exact results_cell_row Tryd.results5 _ _ (w.heap.size + 1) _ _ _ _ rfl (R1.out.setRow _) Tryd.underlying27 rfl (by kernel_rfl)
  · rw [hf]
    clear hf hno
    go_wp2_with (refine wpList_store_row rfl 27 (.tmp 4) (.tmp 18) rfl (w.heap.size + 1) #[.int .i64 1, .slice none 0 0] rfl rfl _ _ R1.out (by kernel_rfl) rfl (one2 _ _ _ _) ?_)
    refine bodyPost_ret (v := .agg #[.int .i64 1, .slice none 0 0]) ?_ rfl ⟨rfl, below_setRow B1.out _ _ (by omega)⟩
    exact results_cell_row Tryd.results5 _ _ (w.heap.size + 1) _ _ _ _ rfl (R1.out.setRow _) Tryd.underlying27 rfl (by kernel_rfl)
set_option maxRecDepth 20000 in
set_option maxHeartbeats 2000000 in
theorem senc (K M G sg so cp : Nat) (h1 : 1 ≤ K) (h2 : K ≤ 32) (h3 : M ≤ 16) (h4 : G ≤ K) (h5 : K + M + G ≤ 64) (ts : Nat → ByteArray) (hz : ∀ i, i < K → (ts i).size ≤ 1048576) (w : World) (hS : ∀ i, i < K → w.cell? ⟨sg, so + i, none⟩ = some (.string (ts i))) :
    Calls Tryd.prog 5 #[cdv K M G, .slice (some ⟨sg, so, none⟩) K cp] w fun e w' =>
      (¬ Fits ts K → e = .returned (srv 2 none 0 0)) ∧ (Fits ts K → ∃ g c, e = .returned (srv 0 (some ⟨g, 0, none⟩) (K + M + G) c) ∧ Strs w' (some ⟨g, 0, none⟩) (K + M + G) c (encT K M G ts)) ∧ Below w.heap.size w w' := by
  have hf : Hid (cfault K M G = 0) := cfault_of h1 h2 h3 h4 h5
  have HS := hid hS
  have HZ := hid hz
  have hmk := fun w => mkB' w K (by omega)
  have sgl : sg < w.heap.size := World.block_lt_of_cell? w _ (hS 0 (by omega))
  clear hS hz
  go_enter Tryd.func5, Tryd.ntmps5
  go_wp2_with fail
  refine (sCfault _ _ _ _).mono ?_
  rintro e w1 ⟨rfl, hw1⟩
  rw [hf.out]
  have C1 : Hid (RowAt w1 w.heap.size 29 (cda K M G)) := by rw [hw1]; exact ((RowAt.new w _ _).alloc _).alloc _
  have R1 : Hid (RowAt w1 (w.heap.size + 1) 27 #[.int .i64 0, .slice none 0 0]) := by rw [hw1]; exact (RowAt.next _ _ _ (by rw [size_al])).alloc _
  have B1 : Hid (Below w.heap.size w w1) := by rw [hw1]; exact bal (bal (bal (Below.refl _ _) _ (Nat.le_refl _)) _ (Nat.le_refl _)) _ (Nat.le_refl _)
  have l1 : w.heap.size + 1 < w1.heap.size := R1.out.lt
  have c0 : w1.cell? ⟨w.heap.size, 0, none⟩ = some (.int .i64 K) := C1.out.cell 0
  have dK : ((K : Int) != (K : Int)) = false := by simp
  clear hw1
  go_wp2_with fail
  obtain ⟨W0, hW0⟩ : ∃ W0, W0 = w1.alloc (.cells (madeCells #[.bool false] K) 4) := ⟨_, rfl⟩
  have F0 : Hid (FRow W0 w1.heap.size 4 K (fun p => .bool (decide (p < 0)))) := by
    rw [hW0]
    have := made_row w1 4 (fun _ => .bool false) K 1 (by decide)
    rw [Nat.mul_one] at this
    exact this.congr fun p _ => by simp
  have C0 : Hid (RowAt W0 w.heap.size 29 (cda K M G)) := by rw [hW0]; exact C1.out.alloc _
  have R0 : Hid (RowAt W0 (w.heap.size + 1) 27 #[.int .i64 0, .slice none 0 0]) := by rw [hW0]; exact R1.out.alloc _
  have B0 : Hid (Below w.heap.size w W0) := by rw [hW0]; exact bal B1.out _ (Nat.le_refl _)
  rw [← hW0]
  clear hW0 C1 R1 B1 c0 hmk dK
  go_loopw [6] (fun x wr => ∃ (i : Nat), i ≤ K ∧ x = .int .i64 i ∧ FRow wr w1.heap.size 4 K (fun p => .bool (decide (p < i))) ∧ RowAt wr w.heap.size 29 (cda K M G) ∧ RowAt wr (w.heap.size + 1) 27 #[.int .i64 0, .slice none 0 0] ∧ Below w.heap.size w wr) (fun x _ => K - (intOf x).toNat)
  case atStart => exact ⟨0, Nat.zero_le _, rfl, F0.out, C0.out, R0.out, B0.out⟩
  case round =>
    obtain ⟨i, hi, rfl, hF, hC, hR, hB⟩ := hrel
    have HF := hid hF
    have HC := hid hC
    have HR := hid hR
    have HB := hid hB
    clear hF hC hR hB F0 C0 R0 B0
    by_cases hlt : i < K
    · have hlt' : (i : Int) < (K : Int) := by omega
      have i0 : (0 : Int) ≤ (i : Int) := by omega
      have k1 := HF.out.cell hlt
      have k2 := HF.out.free i
      have F2 : Hid (FRow (wr.setCell ⟨w1.heap.size, i, none⟩ (.bool true)) w1.heap.size 4 K (fun p => .bool (decide (p < i + 1)))) := (HF.out.set i (.bool true)).congr fun p _ => by
        unfold putF
        by_cases e : p = i
        · rw [if_pos e]; simp; omega
        · rw [if_neg e]; congr 1; simp; omega
      have C2 : Hid (RowAt (wr.setCell ⟨w1.heap.size, i, none⟩ (.bool true)) w.heap.size 29 (cda K M G)) := HC.out.other _ _ (by dsimp only; omega)
      have R2 : Hid (RowAt (wr.setCell ⟨w1.heap.size, i, none⟩ (.bool true)) (w.heap.size + 1) 27 #[.int .i64 0, .slice none 0 0]) := HR.out.other _ _ (by dsimp only; omega)
      have B2 : Hid (Below w.heap.size w (wr.setCell ⟨w1.heap.size, i, none⟩ (.bool true))) := HB.out.setCell (by dsimp only; omega) _
      clear HF HC HR HB
      go_wp2
      go_roundw
      case rel => exact ⟨i + 1, by omega, by go_num, F2.out, C2.out, R2.out, B2.out⟩
      case measure => simp [intOf]; omega
    · have hie : i = K := by omega
      have hlt' : ¬ (i : Int) < (K : Int) := by omega
      have A2 : Hid (∀ j, j < K → wr.cell? ⟨w1.heap.size, j, none⟩ = some (.bool true)) := fun j hj => by
        rw [HF.out.cell hj]; simp; omega
      have S2 : Hid (∀ i, i < K → wr.cell? ⟨sg, so + i, none⟩ = some (.string (ts i))) := fun i hi => (HB.out.cell (p := ⟨sg, so + i, none⟩) sgl).trans (HS.out i hi)
      go_wp2_with fail
      refine (slen sg so K cp w1.heap.size ts h1 (by omega) HZ.out _ S2.out A2.out).mono ?_
      rintro e w2 ⟨rfl, rfl⟩
      have c0 : w2.cell? ⟨w.heap.size, 0, none⟩ = some (.int .i64 K) := HC.out.cell 0
      have c1 : w2.cell? ⟨w.heap.size, 1, none⟩ = some (.int .i64 M) := HC.out.cell 1
      have c2 : w2.cell? ⟨w.heap.size, 2, none⟩ = some (.int .i64 G) := HC.out.cell 2
      by_cases hft : Fits ts K
      · rw [show lenV ts K = (((ts 0).size : Nat) : Int) from if_pos hft]
        have HFT := hid hft
        clear hft
        have n0 : ¬ (((ts 0).size : Nat) : Int) < 0 := by omega
        go_wp2_with fail
        refine (sall K M G sg so cp h1 h2 h3 h4 h5 ts HFT.out _ S2.out).mono ?_
        rintro e w3 ⟨g, c, rfl, hgb, hst, hb3⟩
        have R3 := hid (HR.out.below hb3 HR.out.lt)
        have B3 : Hid (Below w.heap.size w w3) := HB.out.trans (hb3.mono HB.out.size)
        clear hb3
        go_wp2_with (refine wpList_store_row rfl 27 (.tmp 4) (.tmp 41) rfl (w.heap.size + 1) #[.int .i64 0, .slice (some ⟨g, 0, none⟩) (K + M + G) c] rfl rfl _ _ R3.out (by kernel_rfl) rfl (one2 _ _ _ _) ?_)
        refine bodyPost_ret (v := srv 0 (some ⟨g, 0, none⟩) (K + M + G) c) ?_ rfl ⟨fun h => absurd HFT.out h, fun _ => ⟨g, c, rfl, ?_⟩, below_setRow B3.out _ _ (by omega)⟩
        · exact results_cell_row Tryd.results5 _ _ (w.heap.size + 1) _ _ _ _ rfl (R3.out.setRow _) Tryd.underlying27 rfl (by kernel_rfl)
        · exact hst.setRow _ _ (by have := HR.out.lt; omega)
      · rw [show lenV ts K = -1 from if_neg hft]
        have HFT := hid hft
        clear hft
        go_wp2_with (refine wpList_store_row rfl 27 (.tmp 4) (.tmp 36) rfl (w.heap.size + 1) #[.int .i64 2, .slice none 0 0] rfl rfl _ _ HR.out (by kernel_rfl) rfl (one2 _ _ _ _) ?_)
        refine bodyPost_ret (v := srv 2 none 0 0) ?_ rfl ⟨fun _ => rfl, fun h => absurd h HFT.out, below_setRow HB.out _ _ (by omega)⟩
        exact results_cell_row Tryd.results5 _ _ (w.heap.size + 1) _ _ _ _ rfl (HR.out.setRow _) Tryd.underlying27 rfl (by kernel_rfl)
end Go.Proofs.YtjakibhanpmkcaaDoor
