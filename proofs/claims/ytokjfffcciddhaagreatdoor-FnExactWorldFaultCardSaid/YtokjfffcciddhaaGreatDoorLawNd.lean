import Derived.Test.YtokjfffcciddhaaGreatDoorProg
import Derived.Test.YtokjfffcciddhaaGreatDoorPairs
import Derived.WalkLawsBesides
import Derived.WalkSpells
import Derived.OpenShut
import Derived.BigQuiet
import Derived.Deep.QuietTactic
import Derived.Deep.RegionHeld3
import Derived.Deep.CutRange
namespace Go.Proofs.YtokjfffcciddhaaGreatDoor
open Go.RowKit
/-! The laws' own on nodes. -/
theorem balN {w w' : World} (h : Below w.heap.size w w') (o : Obj) : Below w.heap.size w (w'.alloc o) := h.alloc h.size o
theorem onePr (x y : Int) : (#[.int .i64 x, .int .i64 y] : Array Value).all (·.oneCell') = true := by simp [Value.oneCell']
set_option maxRecDepth 20000 in
set_option maxHeartbeats 1000000 in
theorem szNd (a : Option Addr) (len cap : Nat) (hl : len ≤ 9223372036854775807) (w : World) :
    Calls Tryz.prog 27 #[.slice a len cap, .int .i64 1048576] w fun e w' => e = .returned (.int .i64 (if len ≤ 1048576 then 1048576 - (len : Int) else -1)) ∧ w' = w := by
  by_cases h : len ≤ 1048576
  · have d0 : ¬ (1048576 : Int) - (len : Int) < 0 := by omega
    rw [if_pos h]
    go_enter Tryz.func27, Tryz.ntmps27
    go_wp2
    go_ret
    exact ⟨rfl, rfl⟩
  · have d0 : (1048576 : Int) - (len : Int) < 0 := by omega
    rw [if_neg h]
    go_enter Tryz.func27, Tryz.ntmps27
    go_wp2
    go_ret
    exact ⟨rfl, rfl⟩
set_option maxRecDepth 20000 in
set_option maxHeartbeats 1000000 in
theorem toNd (x y : Int) (w : World) :
    Calls Tryz.prog 59 #[.agg #[.int .i64 x, .int .i64 y]] w fun e w' => e = .returned (.agg #[.int .i64 x, .int .i64 y]) ∧ Below w.heap.size w w' := by
  obtain ⟨W, hW⟩ : ∃ W, W = (((w.alloc (.cells #[.int .i64 x, .int .i64 y] 116)).alloc (.cells #[.int .i64 0, .int .i64 0] 109)).alloc (.cells #[.int .i64 0, .int .i64 0] 109)) := ⟨_, rfl⟩
  have A0 : RowAt W w.heap.size 116 #[.int .i64 x, .int .i64 y] := by rw [hW]; exact ((RowAt.new _ _ _).alloc _).alloc _
  have R0 : RowAt W (w.heap.size + 1) 109 #[.int .i64 0, .int .i64 0] := by rw [hW]; exact (RowAt.next _ _ _ (by rw [size_al])).alloc _
  have O0 : RowAt W (w.heap.size + 1 + 1) 109 #[.int .i64 0, .int .i64 0] := by rw [hW]; exact RowAt.next _ _ _ (by simp only [size_al])
  have B0 : Below w.heap.size w W := by rw [hW]; exact balN (balN (balN (Below.refl _ _) _) _) _
  obtain ⟨W2, hW2⟩ : ∃ W2, W2 = (W.setCell ⟨w.heap.size + 1 + 1, 0, none⟩ (.int .i64 x)).setCell ⟨w.heap.size + 1 + 1, 1, none⟩ (.int .i64 y) := ⟨_, rfl⟩
  have R2 : Hid (RowAt W2 (w.heap.size + 1) 109 #[.int .i64 0, .int .i64 0]) := by rw [hW2]; exact (R0.other _ _ (by simp)).other _ _ (by simp)
  have O2 : Hid (RowAt W2 (w.heap.size + 1 + 1) 109 #[.int .i64 x, .int .i64 y]) := by rw [hW2]; exact (O0.set 0 _).set 1 _
  have B2 : Hid (Below w.heap.size w W2) := by rw [hW2]; exact (B0.setCell (by simp; omega) _).setCell (by simp; omega) _
  have a0 := A0.cell 0
  have a1 : (W.setCell ⟨w.heap.size + 1 + 1, 0, none⟩ (.int .i64 x)).cell? ⟨w.heap.size, 1, none⟩ = some (.int .i64 y) := (A0.other ⟨w.heap.size + 1 + 1, 0, none⟩ (.int .i64 x) (by simp; omega)).cell 1
  have o0 := O0.cell 0
  have f0 := O0.free 0
  have O1 := O0.set 0 (.int .i64 x)
  have o1 : (W.setCell ⟨w.heap.size + 1 + 1, 0, none⟩ (.int .i64 x)).cell? ⟨w.heap.size + 1 + 1, 1, none⟩ = some (.int .i64 0) := O1.cell 1
  have f1 := O1.free 1
  have HW := hid hW
  have HW2 := hid hW2
  clear hW hW2 A0 R0 O0 B0 O1
  go_enter Tryz.func59, Tryz.ntmps59
  go_upto_region 2 with fail
  rw [show (((w.alloc (.cells #[.int .i64 x, .int .i64 y] 116)).alloc (.cells #[.int .i64 0, .int .i64 0] 109)).alloc (.cells #[.int .i64 0, .int .i64 0] 109)) = W from HW.out.symm]
  go_upto_region 4 with fail
  rw [← HW2.out]
  clear a0 a1 o0 f0 o1 f1
  have q0 := O2.out.cell 0
  have q1 := O2.out.cell 1
  go_wp2_with (refine wpList_store_row rfl 109 (.tmp 2) (.tmp 10) rfl (w.heap.size + 1) #[.int .i64 x, .int .i64 y] rfl rfl _ _ R2.out (by kernel_rfl) rfl (onePr _ _) ?_)
  refine bodyPost_ret (v := .agg #[.int .i64 x, .int .i64 y]) ?_ rfl ⟨rfl, below_setRow B2.out _ _ (by omega)⟩
  exact results_cell_row Tryz.results59 _ _ (w.heap.size + 1) _ _ _ _ rfl (R2.out.setRow _) Tryz.underlying109 rfl (by kernel_rfl)
theorem Tryz.infoNd : (Tryz.prog.info? 109).map (fun i => (i.zero, i.size, i.bytes)) = some (some (.agg #[.int .i64 0, .int .i64 0]), 2, 16) := by kernel_rfl
theorem mkNd (w : World) (n : Nat) (hn : n ≤ 1048576) : (Instr.makeSlice 36 (.int .i64 n) (.int .i64 n)).run Tryz.prog w = .ok (.slice (some ⟨w.heap.size, 0, none⟩) n n) (w.alloc (.cells (madeCells #[.int .i64 0, .int .i64 0] (n * 2)) 109)) := by
  obtain ⟨i0, hi, hz0, hz1, hz2⟩ := info_parts Tryz.infoNd
  have := run_make (P := Tryz.prog) w 36 109 i0 _ Tryz.underlying36 hi hz0 .i64 .i64 n n (by omega) (Int.le_refl _) (by rw [hz2]; omega) (by omega)
  rw [this, hz1]
  simp only [Int.toNat_natCast, Value.cells]
theorem prF_put (x y : Nat → Int) (k p : Nat) : putF (putF (prF (fun i => if i < k then x i else 0) (fun i => if i < k then y i else 0)) (k * 2) (.int .i64 (x k))) (k * 2 + 1) (.int .i64 (y k)) p = prF (fun i => if i < k + 1 then x i else 0) (fun i => if i < k + 1 then y i else 0) p := by
  unfold putF prF
  dsimp only
  by_cases e1 : p = k * 2 + 1
  · subst e1
    rw [if_pos rfl, if_neg (by omega), show (k * 2 + 1) / 2 = k by omega, if_pos (by omega)]
  · rw [if_neg e1]
    by_cases e0 : p = k * 2
    · subst e0
      rw [if_pos rfl, if_pos (by omega), show k * 2 / 2 = k by omega, if_pos (by omega)]
    · rw [if_neg e0]
      by_cases e2 : p / 2 < k
      · have e3 : p / 2 < k + 1 := by omega
        simp only [if_pos e2, if_pos e3]
      · have e3 : ¬ p / 2 < k + 1 := by omega
        simp only [if_neg e2, if_neg e3]
set_option maxRecDepth 20000 in
set_option maxHeartbeats 2000000 in
theorem toNds (a : Option Addr) (len cap : Nat) (x y : Nat → Int) (hl : len ≤ 1048576) (w : World) (h : Prs w a len cap x y) :
    Calls Tryz.prog 39 #[.slice a len cap] w fun e w' => e = .returned (.slice (some ⟨w.heap.size, 0, none⟩) len len) ∧ FRow w' w.heap.size 109 (len * 2) (prF x y) ∧ Below w.heap.size w w' := by
  have hmk := fun w => mkNd w len hl
  have HH := hid h
  clear h
  go_enter Tryz.func39, Tryz.ntmps39
  go_wp2_with fail
  obtain ⟨W0, hW0⟩ : ∃ W0, W0 = w.alloc (.cells (madeCells #[.int .i64 0, .int .i64 0] (len * 2)) 109) := ⟨_, rfl⟩
  have F0 : Hid (FRow W0 w.heap.size 109 (len * 2) (prF (fun i => if i < 0 then x i else 0) (fun i => if i < 0 then y i else 0))) := by
    rw [hW0]
    refine FRow.of (RowAt.new _ _ _) (by simp [madeCells]) fun p hp => ?_
    have h2 : p % 2 < 2 := Nat.mod_lt _ (by decide)
    simp [madeCells, hp, prF]
    rcases (show p % 2 = 0 ∨ p % 2 = 1 by omega) with e | e <;> rw [e] <;> rfl
  have B0 : Hid (Below w.heap.size w W0) := by rw [hW0]; exact (Below.refl _ _).alloc (Nat.le_refl _) _
  rw [← hW0]
  clear hW0 hmk
  go_loopw [4] (fun q wr => ∃ (k : Nat), k ≤ len ∧ q = .int .i64 k ∧ FRow wr w.heap.size 109 (len * 2) (prF (fun i => if i < k then x i else 0) (fun i => if i < k then y i else 0)) ∧ Below w.heap.size w wr) (fun q _ => len - (intOf q).toNat)
  case atStart => exact ⟨0, Nat.zero_le _, rfl, F0.out, B0.out⟩
  case round =>
    obtain ⟨k, hk, rfl, hF, hB⟩ := hrel
    have HF := hid hF
    have HB := hid hB
    clear hF hB F0 B0
    by_cases hlt : k < len
    · have hlt' : (k : Int) < (len : Int) := by omega
      have k0 : (0 : Int) ≤ (k : Int) := by omega
      rcases (HH.out.below HB.out).2 with h00 | ⟨b, off, rfl, hbl, hc⟩
      · omega
      obtain ⟨c0, c1⟩ := hc k hlt
      obtain ⟨X, hX⟩ : ∃ X, X = x k := ⟨_, rfl⟩
      obtain ⟨Y, hY⟩ : ∃ Y, Y = y k := ⟨_, rfl⟩
      rw [← hX] at c0
      rw [← hY] at c1
      have HX := hid hX
      have HY := hid hY
      clear hc hX hY
      go_wp2_with fail
      refine (toNd X Y wr).mono ?_
      rintro e w2 ⟨rfl, hb2⟩
      have F2 := hid (HF.out.below hb2 HF.out.lt)
      have B2 := hid (HB.out.trans (hb2.mono HB.out.size))
      have q0 := F2.out.cell (show k * 2 < len * 2 by omega)
      have q1 := F2.out.cell (show k * 2 + 1 < len * 2 by omega)
      rw [prF0] at q0
      rw [prF1] at q1
      have f0 := F2.out.free (k * 2)
      have F3 : FRow (w2.setCell ⟨w.heap.size, k * 2, none⟩ (.int .i64 X)) w.heap.size 109 (len * 2) _ := F2.out.set (k * 2) (.int .i64 X)
      have f1 := F3.free (k * 2 + 1)
      have F4 : Hid (FRow ((w2.setCell ⟨w.heap.size, k * 2, none⟩ (.int .i64 X)).setCell ⟨w.heap.size, k * 2 + 1, none⟩ (.int .i64 Y)) w.heap.size 109 (len * 2) (prF (fun i => if i < k + 1 then x i else 0) (fun i => if i < k + 1 then y i else 0))) := (F3.set (k * 2 + 1) (.int .i64 Y)).congr fun p _ => by rw [HX.out, HY.out]; exact prF_put x y k p
      have B4 : Hid (Below w.heap.size w ((w2.setCell ⟨w.heap.size, k * 2, none⟩ (.int .i64 X)).setCell ⟨w.heap.size, k * 2 + 1, none⟩ (.int .i64 Y))) := (B2.out.setCell (Nat.le_refl _) _).setCell (Nat.le_refl _) _
      clear hb2 F3
      go_wp2
      go_roundw
      case rel => exact ⟨k + 1, by omega, by go_num, F4.out, B4.out⟩
      case measure => simp [intOf]; omega
    · have hlt' : ¬ (k : Int) < (len : Int) := by omega
      have hke : k = len := by omega
      go_wp2
      go_ret
      refine ⟨rfl, HF.out.congr fun p hp => ?_, HB.out⟩
      unfold prF
      dsimp only
      rw [if_pos (show p / 2 < k by omega), if_pos (show p / 2 < k by omega)]
set_option maxRecDepth 20000 in
set_option maxHeartbeats 1000000 in
theorem eqNd (x y : Int) (w : World) :
    Calls Tryz.prog 72 #[.agg #[.int .i64 x, .int .i64 y], .agg #[.int .i64 x, .int .i64 y]] w fun e w' => e = .returned (.bool true) ∧ Below w.heap.size w w' := by
  have d0 : (x != x) = false := by simp
  have d1 : (y != y) = false := by simp
  go_enter Tryz.func72, Tryz.ntmps72
  go_wp2
  go_ret
  exact ⟨rfl, balN (balN (Below.refl _ _) _) _⟩
set_option maxRecDepth 20000 in
set_option maxHeartbeats 2000000 in
theorem eqNds (a : Option Addr) (n cap : Nat) (a' : Option Addr) (cap' : Nat) (x y : Nat → Int) (hl : n ≤ 1048576) (w : World) (h : Prs w a n cap x y) (h' : Prs w a' n cap' x y) :
    Calls Tryz.prog 50 #[.slice a n cap, .slice a' n cap'] w fun e w' => e = .returned (.bool true) ∧ Below w.heap.size w w' := by
  have HH := hid h
  have HH' := hid h'
  have dn : ((n : Int) != (n : Int)) = false := by simp
  clear h h'
  go_enter Tryz.func50, Tryz.ntmps50
  go_wp2_with fail
  go_loopw [5] (fun q wr => ∃ (k : Nat), k ≤ n ∧ q = .int .i64 k ∧ Below w.heap.size w wr) (fun q _ => n - (intOf q).toNat)
  case atStart => exact ⟨0, Nat.zero_le _, rfl, Below.refl _ _⟩
  case round =>
    obtain ⟨k, hk, rfl, hB⟩ := hrel
    have HB := hid hB
    clear hB
    by_cases hlt : k < n
    · have hlt' : (k : Int) < (n : Int) := by omega
      have k0 : (0 : Int) ≤ (k : Int) := by omega
      rcases (HH.out.below HB.out).2 with h00 | ⟨b, off, rfl, hbl, hc⟩
      · omega
      rcases (HH'.out.below HB.out).2 with h00 | ⟨b', off', rfl, hbl', hc'⟩
      · omega
      obtain ⟨c0, c1⟩ := hc k hlt
      obtain ⟨e0, e1⟩ := hc' k hlt
      obtain ⟨X, hX⟩ : ∃ X, X = x k := ⟨_, rfl⟩
      obtain ⟨Y, hY⟩ : ∃ Y, Y = y k := ⟨_, rfl⟩
      rw [← hX] at c0 e0
      rw [← hY] at c1 e1
      clear hc hc' hX hY
      go_wp2_with fail
      go_region_held3 (fun wx => wx.cell? ⟨b, off + k * 2, none⟩ = some (.int .i64 X) ∧ wx.cell? ⟨b, off + k * 2 + 1, none⟩ = some (.int .i64 Y) ∧ wx.cell? ⟨b', off' + k * 2, none⟩ = some (.int .i64 X) ∧ wx.cell? ⟨b', off' + k * 2 + 1, none⟩ = some (.int .i64 Y)) (first | exact ⟨y0, y1, z0, z1⟩ | exact ⟨c0, c1, e0, e1⟩ | (go_keep; done)) ((go_at_call 72; refine (eqNd X Y _).mono ?_; rintro e w2 ⟨rfl, hb2⟩; have y0 := (hb2.cell (p := ⟨b, off + k * 2, none⟩) hbl).trans c0; have y1 := (hb2.cell (p := ⟨b, off + k * 2 + 1, none⟩) hbl).trans c1; have z0 := (hb2.cell (p := ⟨b', off' + k * 2, none⟩) hbl').trans e0; have z1 := (hb2.cell (p := ⟨b', off' + k * 2 + 1, none⟩) hbl').trans e1))
      have N2 : Hid (Below w.heap.size w w2) := HB.out.drew.trans (hb2.mono HB.out.size)
      clear hb2 y0 y1 z0 z1 c0 c1 e0 e1 HB
      go_wp2
      go_roundw
      case rel => exact ⟨k + 1, by omega, by go_num, N2.out⟩
      case measure => simp [intOf]; omega
    · have hlt' : ¬ (k : Int) < (n : Int) := by omega
      go_wp2
      go_ret
      exact ⟨rfl, HB.out⟩
end Go.Proofs.YtokjfffcciddhaaGreatDoor
