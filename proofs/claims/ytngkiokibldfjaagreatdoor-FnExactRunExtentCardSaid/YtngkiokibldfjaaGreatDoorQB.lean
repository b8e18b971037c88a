import Derived.Test.YtngkiokibldfjaaGreatDoorLawEx
import Derived.Test.YtngkiokibldfjaaGreatDoorPI
namespace Go.Proofs.YtngkiokibldfjaaGreatDoor
open Go.RowKit
/-! Rows of operations: what the laws do with them. -/
def op0 : Op := ⟨0, ⟨#[]⟩, ⟨#[]⟩, 0, 0, 0⟩
/-- the first k of them, then empty ones -/
def opTo (o : Nat → Op) (k i : Nat) : Op := if i < k then o i else op0
theorem Tryz.infoOp : (Tryz.prog.info? 27).map (fun i => (i.zero, i.size, i.bytes)) = some (some (.agg #[.int .i64 0, .string ⟨#[]⟩, .string ⟨#[]⟩, .int .i64 0, .int .i64 0, .int .i64 0]), 6, 64) := by kernel_rfl
theorem mkOps (w : World) (n : Nat) (hn : n ≤ 1048576) : (Instr.makeSlice 24 (.int .i64 n) (.int .i64 n)).run Tryz.prog w = .ok (.slice (some ⟨w.heap.size, 0, none⟩) n n) (w.alloc (.cells (madeCells #[.int .i64 0, .string ⟨#[]⟩, .string ⟨#[]⟩, .int .i64 0, .int .i64 0, .int .i64 0] (n * 6)) 27)) := by
  obtain ⟨i0, hi, hz0, hz1, hz2⟩ := info_parts Tryz.infoOp
  have := run_make (P := Tryz.prog) w 24 27 i0 _ Tryz.underlying24 hi hz0 .i64 .i64 n n (by omega) (Int.le_refl _) (by rw [hz2]; omega) (by omega)
  rw [this, hz1]
  simp only [Int.toNat_natCast, Value.cells]
theorem opTo_put (o : Nat → Op) (k p : Nat) : putF (putF (putF (putF (putF (putF (exF (opTo o k)) (k * 6) (.int .i64 (o k).kd)) (k * 6 + 1) (.string (o k).ky)) (k * 6 + 2) (.string (o k).dt)) (k * 6 + 3) (.int .i64 (o k).kp)) (k * 6 + 4) (.int .i64 (o k).at_)) (k * 6 + 5) (.int .i64 (o k).tn) p = exF (opTo o (k + 1)) p := by
  by_cases e : p / 6 = k
  · have hk : opTo o (k + 1) k = o k := by unfold opTo; rw [if_pos (by omega)]
    have : p = k * 6 ∨ p = k * 6 + 1 ∨ p = k * 6 + 2 ∨ p = k * 6 + 3 ∨ p = k * 6 + 4 ∨ p = k * 6 + 5 := by omega
    rcases this with e | e | e | e | e | e <;> subst e
    · rw [exF0, hk]; unfold putF; rw [if_neg (by omega), if_neg (by omega), if_neg (by omega), if_neg (by omega), if_neg (by omega), if_pos rfl]
    · rw [exF1, hk]; unfold putF; rw [if_neg (by omega), if_neg (by omega), if_neg (by omega), if_neg (by omega), if_pos rfl]
    · rw [exF2, hk]; unfold putF; rw [if_neg (by omega), if_neg (by omega), if_neg (by omega), if_pos rfl]
    · rw [exF3, hk]; unfold putF; rw [if_neg (by omega), if_neg (by omega), if_pos rfl]
    · rw [exF4, hk]; unfold putF; rw [if_neg (by omega), if_pos rfl]
    · rw [exF5, hk]; unfold putF; rw [if_pos rfl]
  · have hk : opTo o (k + 1) (p / 6) = opTo o k (p / 6) := by
      unfold opTo
      by_cases h : p / 6 < k
      · rw [if_pos (by omega), if_pos h]
      · rw [if_neg (by omega), if_neg h]
    unfold putF
    rw [if_neg (by omega), if_neg (by omega), if_neg (by omega), if_neg (by omega), if_neg (by omega), if_neg (by omega)]
    unfold exF
    rw [hk]
set_option maxRecDepth 20000 in
set_option maxHeartbeats 4000000 in
theorem toOps (a : Option Addr) (len cap : Nat) (o : Nat → Op) (hl : len ≤ 1048576) (w : World) (h : Exs w a len cap o) :
    Calls Tryz.prog 16 #[.slice a len cap] w fun e w' => e = .returned (.slice (some ⟨w.heap.size, 0, none⟩) len len) ∧ FRow w' w.heap.size 27 (len * 6) (exF o) ∧ Below w.heap.size w w' := by
  have hmk := fun w => mkOps w len hl
  have HH := hid h
  clear h
  go_enter Tryz.func16, Tryz.ntmps16
  go_wp2_with fail
  obtain ⟨W0, hW0⟩ : ∃ W0, W0 = w.alloc (.cells (madeCells #[.int .i64 0, .string ⟨#[]⟩, .string ⟨#[]⟩, .int .i64 0, .int .i64 0, .int .i64 0] (len * 6)) 27) := ⟨_, rfl⟩
  have F0 : Hid (FRow W0 w.heap.size 27 (len * 6) (exF (opTo o 0))) := by
    rw [hW0]
    refine FRow.of (RowAt.new _ _ _) (by simp [madeCells]) fun p hp => ?_
    have h2 : p % 6 < 6 := Nat.mod_lt _ (by decide)
    have h3 : opTo o 0 (p / 6) = op0 := by unfold opTo; rw [if_neg (by omega)]
    simp [madeCells, hp, exF, h3, op0]
    rcases (show p % 6 = 0 ∨ p % 6 = 1 ∨ p % 6 = 2 ∨ p % 6 = 3 ∨ p % 6 = 4 ∨ p % 6 = 5 by omega) with e | e | e | e | e | e <;> rw [e] <;> rfl
  have B0 : Hid (Below w.heap.size w W0) := by rw [hW0]; exact (Below.refl _ _).alloc (Nat.le_refl _) _
  rw [← hW0]
  clear hW0 hmk
  go_loopw [4] (fun q wr => ∃ (k : Nat), k ≤ len ∧ q = .int .i64 k ∧ FRow wr w.heap.size 27 (len * 6) (exF (opTo o k)) ∧ Below w.heap.size w wr) (fun q _ => len - (intOf q).toNat)
  case atStart => exact ⟨0, Nat.zero_le _, rfl, F0.out, B0.out⟩
  case round =>
    obtain ⟨k, hk, rfl, hF, hB⟩ := hrel
    have HF := hid hF
    have HB := hid hB
    clear hF hB F0 B0
    by_cases hlt : k < len
    · have hlt' : (k : Int) < (len : Int) := by omega
      have k0 : (0 : Int) ≤ (k : Int) := by omega
      rcases (HH.out.below HB.out).2 with h00 | ⟨b, off, rfl, hbl, hc⟩
      · omega
      obtain ⟨c0, c1, c2, c3, c4, c5⟩ := hc k hlt
      have HP := hid (opTo_put o k)
      obtain ⟨I, hI⟩ : ∃ v, v = (o k).kd := ⟨_, rfl⟩
      obtain ⟨K, hK⟩ : ∃ v, v = (o k).ky := ⟨_, rfl⟩
      obtain ⟨D, hD⟩ : ∃ v, v = (o k).dt := ⟨_, rfl⟩
      obtain ⟨X, hX⟩ : ∃ v, v = (o k).kp := ⟨_, rfl⟩
      obtain ⟨Y, hY⟩ : ∃ v, v = (o k).at_ := ⟨_, rfl⟩
      obtain ⟨Z, hZ⟩ : ∃ v, v = (o k).tn := ⟨_, rfl⟩
      rw [← hI] at c0 HP
      rw [← hK] at c1 HP
      rw [← hD] at c2 HP
      rw [← hX] at c3 HP
      rw [← hY] at c4 HP
      rw [← hZ] at c5 HP
      clear hc hI hK hD hX hY hZ
      go_wp2_with fail
      refine (toOp I K D X Y Z wr).mono ?_
      rintro e w2 ⟨rfl, hb2⟩
      have F2 := hid (HF.out.below hb2 HF.out.lt)
      have B2 := hid (HB.out.trans (hb2.mono HB.out.size))
      clear hb2 HF HB
      have q0 := (F2.out).cell (show k * 6 < len * 6 by omega)
      rw [exF0] at q0
      have q1 := (F2.out).cell (show k * 6 + 1 < len * 6 by omega)
      rw [exF1] at q1
      have q2 := (F2.out).cell (show k * 6 + 2 < len * 6 by omega)
      rw [exF2] at q2
      have q3 := (F2.out).cell (show k * 6 + 3 < len * 6 by omega)
      rw [exF3] at q3
      have q4 := (F2.out).cell (show k * 6 + 4 < len * 6 by omega)
      rw [exF4] at q4
      have q5 := (F2.out).cell (show k * 6 + 5 < len * 6 by omega)
      rw [exF5] at q5
      have f0 := F2.out.free (k * 6)
      have G1 : FRow (w2.setCell ⟨w.heap.size, k * 6, none⟩ (.int .i64 I)) w.heap.size 27 (len * 6) (putF (exF (opTo o k)) (k * 6) (.int .i64 I)) := F2.out.set (k * 6) (.int .i64 I)
      have f1 := G1.free (k * 6 + 1)
      have G2 : FRow ((w2.setCell ⟨w.heap.size, k * 6, none⟩ (.int .i64 I)).setCell ⟨w.heap.size, k * 6 + 1, none⟩ (.string K)) w.heap.size 27 (len * 6) (putF (putF (exF (opTo o k)) (k * 6) (.int .i64 I)) (k * 6 + 1) (.string K)) := G1.set (k * 6 + 1) (.string K)
      have f2 := G2.free (k * 6 + 2)
      have G3 : FRow (((w2.setCell ⟨w.heap.size, k * 6, none⟩ (.int .i64 I)).setCell ⟨w.heap.size, k * 6 + 1, none⟩ (.string K)).setCell ⟨w.heap.size, k * 6 + 2, none⟩ (.string D)) w.heap.size 27 (len * 6) (putF (putF (putF (exF (opTo o k)) (k * 6) (.int .i64 I)) (k * 6 + 1) (.string K)) (k * 6 + 2) (.string D)) := G2.set (k * 6 + 2) (.string D)
      have f3 := G3.free (k * 6 + 3)
      have G4 : FRow ((((w2.setCell ⟨w.heap.size, k * 6, none⟩ (.int .i64 I)).setCell ⟨w.heap.size, k * 6 + 1, none⟩ (.string K)).setCell ⟨w.heap.size, k * 6 + 2, none⟩ (.string D)).setCell ⟨w.heap.size, k * 6 + 3, none⟩ (.int .i64 X)) w.heap.size 27 (len * 6) (putF (putF (putF (putF (exF (opTo o k)) (k * 6) (.int .i64 I)) (k * 6 + 1) (.string K)) (k * 6 + 2) (.string D)) (k * 6 + 3) (.int .i64 X)) := G3.set (k * 6 + 3) (.int .i64 X)
      have f4 := G4.free (k * 6 + 4)
      have G5 : FRow (((((w2.setCell ⟨w.heap.size, k * 6, none⟩ (.int .i64 I)).setCell ⟨w.heap.size, k * 6 + 1, none⟩ (.string K)).setCell ⟨w.heap.size, k * 6 + 2, none⟩ (.string D)).setCell ⟨w.heap.size, k * 6 + 3, none⟩ (.int .i64 X)).setCell ⟨w.heap.size, k * 6 + 4, none⟩ (.int .i64 Y)) w.heap.size 27 (len * 6) (putF (putF (putF (putF (putF (exF (opTo o k)) (k * 6) (.int .i64 I)) (k * 6 + 1) (.string K)) (k * 6 + 2) (.string D)) (k * 6 + 3) (.int .i64 X)) (k * 6 + 4) (.int .i64 Y)) := G4.set (k * 6 + 4) (.int .i64 Y)
      have f5 := G5.free (k * 6 + 5)
      have G6 : FRow ((((((w2.setCell ⟨w.heap.size, k * 6, none⟩ (.int .i64 I)).setCell ⟨w.heap.size, k * 6 + 1, none⟩ (.string K)).setCell ⟨w.heap.size, k * 6 + 2, none⟩ (.string D)).setCell ⟨w.heap.size, k * 6 + 3, none⟩ (.int .i64 X)).setCell ⟨w.heap.size, k * 6 + 4, none⟩ (.int .i64 Y)).setCell ⟨w.heap.size, k * 6 + 5, none⟩ (.int .i64 Z)) w.heap.size 27 (len * 6) (putF (putF (putF (putF (putF (putF (exF (opTo o k)) (k * 6) (.int .i64 I)) (k * 6 + 1) (.string K)) (k * 6 + 2) (.string D)) (k * 6 + 3) (.int .i64 X)) (k * 6 + 4) (.int .i64 Y)) (k * 6 + 5) (.int .i64 Z)) := G5.set (k * 6 + 5) (.int .i64 Z)
      have F4 : Hid (FRow ((((((w2.setCell ⟨w.heap.size, k * 6, none⟩ (.int .i64 I)).setCell ⟨w.heap.size, k * 6 + 1, none⟩ (.string K)).setCell ⟨w.heap.size, k * 6 + 2, none⟩ (.string D)).setCell ⟨w.heap.size, k * 6 + 3, none⟩ (.int .i64 X)).setCell ⟨w.heap.size, k * 6 + 4, none⟩ (.int .i64 Y)).setCell ⟨w.heap.size, k * 6 + 5, none⟩ (.int .i64 Z)) w.heap.size 27 (len * 6) (exF (opTo o (k + 1)))) := G6.congr fun p _ => HP.out p
      have B4 : Hid (Below w.heap.size w ((((((w2.setCell ⟨w.heap.size, k * 6, none⟩ (.int .i64 I)).setCell ⟨w.heap.size, k * 6 + 1, none⟩ (.string K)).setCell ⟨w.heap.size, k * 6 + 2, none⟩ (.string D)).setCell ⟨w.heap.size, k * 6 + 3, none⟩ (.int .i64 X)).setCell ⟨w.heap.size, k * 6 + 4, none⟩ (.int .i64 Y)).setCell ⟨w.heap.size, k * 6 + 5, none⟩ (.int .i64 Z))) := (((((B2.out.setCell (Nat.le_refl _) _).setCell (Nat.le_refl _) _).setCell (Nat.le_refl _) _).setCell (Nat.le_refl _) _).setCell (Nat.le_refl _) _).setCell (Nat.le_refl _) _
      clear G1 G2 G3 G4 G5 G6 HP F2 B2
      go_wp2
      go_roundw
      case rel => exact ⟨k + 1, by omega, by go_num, F4.out, B4.out⟩
      case measure => simp [intOf]; omega
    · have hlt' : ¬ (k : Int) < (len : Int) := by omega
      have hke : k = len := by omega
      go_wp2
      go_ret
      refine ⟨rfl, HF.out.congr fun p hp => ?_, HB.out⟩
      unfold exF
      rw [show opTo o k (p / 6) = o (p / 6) by unfold opTo; rw [if_pos (by omega)]]
end Go.Proofs.YtngkiokibldfjaaGreatDoor
namespace Go.Proofs.YtngkiokibldfjaaGreatDoor
open Go.RowKit
/-! Two rows of operations alike. -/
set_option maxRecDepth 20000 in
set_option maxHeartbeats 4000000 in
theorem eqOps (a : Option Addr) (n cap : Nat) (a' : Option Addr) (cap' : Nat) (o : Nat → Op) (hl : n ≤ 1048576) (w : World) (h : Exs w a n cap o) (h' : Exs w a' n cap' o) :
    Calls Tryz.prog 18 #[.slice a n cap, .slice a' n cap'] w fun e w' => e = .returned (.bool true) ∧ Below w.heap.size w w' := by
  have HH := hid h
  have HH' := hid h'
  have dn : ((n : Int) != (n : Int)) = false := by simp
  clear h h'
  go_enter Tryz.func18, Tryz.ntmps18
  go_wp2_with fail
  go_loopw [5] (fun q wr => ∃ (k : Nat), k ≤ n ∧ q = .int .i64 k ∧ Below w.heap.size w wr) (fun q _ => n - (intOf q).toNat)
  case atStart => exact ⟨0, Nat.zero_le _, rfl, Below.refl _ _⟩
  case round =>
    obtain ⟨k, hk, rfl, hB⟩ := hrel
    have HB := hid hB
    clear hB
    by_cases hlt : k < n
    · have hlt' : (k : Int) < (n : Int) := by omega
      have k0 : (0 : Int) ≤ (k : Int) := by omega
      rcases (HH.out.below HB.out).2 with h00 | ⟨b, off, rfl, hbl, hc⟩
      · omega
      rcases (HH'.out.below HB.out).2 with h00 | ⟨b', off', rfl, hbl', hc'⟩
      · omega
      obtain ⟨c0, c1, c2, c3, c4, c5⟩ := hc k hlt
      obtain ⟨e0, e1, e2, e3, e4, e5⟩ := hc' k hlt
      obtain ⟨I, hI⟩ : ∃ v, v = (o k).kd := ⟨_, rfl⟩
      obtain ⟨K, hK⟩ : ∃ v, v = (o k).ky := ⟨_, rfl⟩
      obtain ⟨D, hD⟩ : ∃ v, v = (o k).dt := ⟨_, rfl⟩
      obtain ⟨X, hX⟩ : ∃ v, v = (o k).kp := ⟨_, rfl⟩
      obtain ⟨Y, hY⟩ : ∃ v, v = (o k).at_ := ⟨_, rfl⟩
      obtain ⟨Z, hZ⟩ : ∃ v, v = (o k).tn := ⟨_, rfl⟩
      rw [← hI] at c0 e0
      rw [← hK] at c1 e1
      rw [← hD] at c2 e2
      rw [← hX] at c3 e3
      rw [← hY] at c4 e4
      rw [← hZ] at c5 e5
      clear hc hc' hI hK hD hX hY hZ
      go_wp2_with fail
      go_region_held3 (fun wx => (wx.cell? ⟨b, off + k * 6, none⟩ = some (.int .i64 I) ∧ wx.cell? ⟨b, off + k * 6 + 1, none⟩ = some (.string K) ∧ wx.cell? ⟨b, off + k * 6 + 2, none⟩ = some (.string D) ∧ wx.cell? ⟨b, off + k * 6 + 3, none⟩ = some (.int .i64 X) ∧ wx.cell? ⟨b, off + k * 6 + 4, none⟩ = some (.int .i64 Y) ∧ wx.cell? ⟨b, off + k * 6 + 5, none⟩ = some (.int .i64 Z)) ∧ wx.cell? ⟨b', off' + k * 6, none⟩ = some (.int .i64 I) ∧ wx.cell? ⟨b', off' + k * 6 + 1, none⟩ = some (.string K) ∧ wx.cell? ⟨b', off' + k * 6 + 2, none⟩ = some (.string D) ∧ wx.cell? ⟨b', off' + k * 6 + 3, none⟩ = some (.int .i64 X) ∧ wx.cell? ⟨b', off' + k * 6 + 4, none⟩ = some (.int .i64 Y) ∧ wx.cell? ⟨b', off' + k * 6 + 5, none⟩ = some (.int .i64 Z))
        (first | exact ⟨⟨c0, c1, c2, c3, c4, c5⟩, e0, e1, e2, e3, e4, e5⟩ | exact ⟨⟨(hb2.cell hbl).trans c0, (hb2.cell hbl).trans c1, (hb2.cell hbl).trans c2, (hb2.cell hbl).trans c3, (hb2.cell hbl).trans c4, (hb2.cell hbl).trans c5⟩, (hb2.cell hbl').trans e0, (hb2.cell hbl').trans e1, (hb2.cell hbl').trans e2, (hb2.cell hbl').trans e3, (hb2.cell hbl').trans e4, (hb2.cell hbl').trans e5⟩)
        ((go_at_call 41; refine (eqOp I K D X Y Z _).mono ?_; rintro e w2 ⟨rfl, hb2⟩))
      have N2 : Hid (Below w.heap.size w w2) := HB.out.drew.trans (hb2.mono HB.out.size)
      clear hb2 c0 c1 c2 c3 c4 c5 e0 e1 e2 e3 e4 e5 HB
      go_wp2
      go_roundw
      case rel => exact ⟨k + 1, by omega, by go_num, N2.out⟩
      case measure => simp [intOf]; omega
    · have hlt' : ¬ (k : Int) < (n : Int) := by omega
      go_wp2
      go_ret
      exact ⟨rfl, HB.out⟩
end Go.Proofs.YtngkiokibldfjaaGreatDoor
namespace Go.Proofs.YtngkiokibldfjaaGreatDoor
open Go.RowKit
/-! The marks on a row of operations: what they are does not matter. -/
set_option maxRecDepth 20000 in
set_option maxHeartbeats 4000000 in
theorem markOps (b n cap k0 : Nat) (t : TypeId) (N : Nat) (hN : n * 6 ≤ N) (f : Nat → Value) (h1 : 1 ≤ k0) (hl : n ≤ 1048576) (hk : k0 ≤ 1048576) (w : World) (h : FRow w b t N f) :
    Calls Tryz.prog 19 #[.slice (some ⟨b, 0, none⟩) n cap, .int .i64 k0] w fun e w' => e = .returned (.int .i64 ((k0 + n * 6 : Nat) : Int)) ∧ w.grownBy w' (some b) := by
  have HH := hid h
  clear h
  go_enter Tryz.func19, Tryz.ntmps19
  go_wp2_with fail
  go_loopw [5, 1] (fun x y wr => ∃ (k : Nat) (g : Nat → Value), k ≤ n ∧ x = .int .i64 k ∧ y = .int .i64 ((k0 + k * 6 : Nat) : Int) ∧ FRow wr b t N g ∧ w.grownBy wr (some b)) (fun x _ _ => n - (intOf x).toNat)
  case atStart => exact ⟨0, f, Nat.zero_le _, rfl, rfl, HH.out, below_grown (Below.refl _ _) _⟩
  case round =>
    obtain ⟨k, g, hkl, rfl, rfl, hF, hG⟩ := hrel
    have HF := hid hF
    have HG := hid hG
    clear hF hG HH
    by_cases hlt : k < n
    · have hlt' : (k : Int) < (n : Int) := by omega
      have i0 : (0 : Int) ≤ (k : Int) := by omega
      obtain ⟨q, hq⟩ : ∃ q, q = k0 + k * 6 := ⟨_, rfl⟩
      have hq1 : q ≤ 8388608 := by omega
      have M1 := fun w => hid (markT (q + 1) (by omega) (by omega) w)
      have M2 := fun w => hid (markT (q + 2) (by omega) (by omega) w)
      generalize markB (q + 1) = m1 at M1
      generalize markB (q + 2) = m2 at M2
      rw [show k0 + k * 6 = q by omega]
      have HQ := hid hq
      rw [show ((q + 1 : Nat) : Int) = (q : Int) + 1 by omega] at M1
      rw [show ((q + 2 : Nat) : Int) = (q : Int) + 1 + 1 by omega] at M2
      clear hq
      obtain ⟨W1, hW1⟩ : ∃ W1, W1 = wr.setCell ⟨b, k * 6, none⟩ (.int .i64 (q : Int)) := ⟨_, rfl⟩
      have F1 : Hid (FRow W1 b t N (putF g (k * 6) (.int .i64 (q : Int)))) := by rw [hW1]; exact HF.out.set (k * 6) _
      have G1 : Hid (w.grownBy W1 (some b)) := by rw [hW1]; exact grown_trans HG.out grown_set
      have y0 := HF.out.cell (p := k * 6) (by omega)
      have g0 := HF.out.free (k * 6)
      generalize g (k * 6) = v0 at y0
      generalize putF g (k * 6) (.int .i64 (q : Int)) = g1 at F1
      have HW1 := hid hW1
      have lt1 := F1.out.lt
      clear hW1 HF HG
      go_upto_region 5 with fail
      rw [← HW1.out]
      clear y0 g0 HW1
      go_wp2_with fail
      refine (M1 _).out.mono ?_
      rintro e u1 ⟨rfl, hb1⟩
      have F2 : Hid (FRow u1 b t N g1) := F1.out.below hb1 lt1
      have G2 : Hid (w.grownBy u1 (some b)) := grown_trans G1.out (below_grown hb1 _)
      clear hb1 F1 G1 lt1
      obtain ⟨W2, hW2⟩ : ∃ W1, W1 = u1.setCell ⟨b, k * 6 + 1, none⟩ (.string m1) := ⟨_, rfl⟩
      have F3 : Hid (FRow W2 b t N (putF g1 (k * 6 + 1) (.string m1))) := by rw [hW2]; exact F2.out.set (k * 6 + 1) _
      have G3 : Hid (w.grownBy W2 (some b)) := by rw [hW2]; exact grown_trans G2.out grown_set
      have y1 := F2.out.cell (p := k * 6 + 1) (by omega)
      have f1 := F2.out.free (k * 6 + 1)
      generalize g1 (k * 6 + 1) = v1 at y1
      generalize putF g1 (k * 6 + 1) (.string m1) = g2 at F3
      have HW2 := hid hW2
      have lt2 := F3.out.lt
      clear hW2 F2 G2
      go_upto_region 7 with fail
      rw [← HW2.out]
      clear y1 f1 HW2
      go_wp2_with fail
      refine (M2 _).out.mono ?_
      rintro e u2 ⟨rfl, hb2⟩
      have F4 : Hid (FRow u2 b t N g2) := F3.out.below hb2 lt2
      have G4 : Hid (w.grownBy u2 (some b)) := grown_trans G3.out (below_grown hb2 _)
      clear hb2 F3 G3 lt2
      obtain ⟨W3, hW3⟩ : ∃ W1, W1 = u2.setCell ⟨b, k * 6 + 2, none⟩ (.string m2) := ⟨_, rfl⟩
      have F5 : Hid (FRow W3 b t N (putF g2 (k * 6 + 2) (.string m2))) := by rw [hW3]; exact F4.out.set (k * 6 + 2) _
      have G5 : Hid (w.grownBy W3 (some b)) := by rw [hW3]; exact grown_trans G4.out grown_set
      have y2 := F4.out.cell (p := k * 6 + 2) (by omega)
      have f2 := F4.out.free (k * 6 + 2)
      generalize g2 (k * 6 + 2) = v2 at y2
      generalize putF g2 (k * 6 + 2) (.string m2) = g3 at F5
      have HW3 := hid hW3
      clear hW3 F4 G4
      go_upto_region 9 with fail
      rw [← HW3.out]
      clear y2 f2 HW3
      obtain ⟨W4, hW4⟩ : ∃ W1, W1 = W3.setCell ⟨b, k * 6 + 3, none⟩ (.int .i64 ((q : Int) + 1 + 1 + 1)) := ⟨_, rfl⟩
      have F6 : Hid (FRow W4 b t N (putF g3 (k * 6 + 3) (.int .i64 ((q : Int) + 1 + 1 + 1)))) := by rw [hW4]; exact F5.out.set (k * 6 + 3) _
      have G6 : Hid (w.grownBy W4 (some b)) := by rw [hW4]; exact grown_trans G5.out grown_set
      have y3 := F5.out.cell (p := k * 6 + 3) (by omega)
      have f3 := F5.out.free (k * 6 + 3)
      generalize g3 (k * 6 + 3) = v3 at y3
      generalize putF g3 (k * 6 + 3) (.int .i64 ((q : Int) + 1 + 1 + 1)) = g4 at F6
      have HW4 := hid hW4
      clear hW4 F5 G5
      go_upto_region 11 with fail
      rw [← HW4.out]
      clear y3 f3 HW4
      obtain ⟨W5, hW5⟩ : ∃ W1, W1 = W4.setCell ⟨b, k * 6 + 4, none⟩ (.int .i64 ((q : Int) + 1 + 1 + 1 + 1)) := ⟨_, rfl⟩
      have F7 : Hid (FRow W5 b t N (putF g4 (k * 6 + 4) (.int .i64 ((q : Int) + 1 + 1 + 1 + 1)))) := by rw [hW5]; exact F6.out.set (k * 6 + 4) _
      have G7 : Hid (w.grownBy W5 (some b)) := by rw [hW5]; exact grown_trans G6.out grown_set
      have y4 := F6.out.cell (p := k * 6 + 4) (by omega)
      have f4 := F6.out.free (k * 6 + 4)
      generalize g4 (k * 6 + 4) = v4 at y4
      generalize putF g4 (k * 6 + 4) (.int .i64 ((q : Int) + 1 + 1 + 1 + 1)) = g5 at F7
      have HW5 := hid hW5
      clear hW5 F6 G6
      go_upto_region 13 with fail
      rw [← HW5.out]
      clear y4 f4 HW5
      have F8 : Hid (FRow (W5.setCell ⟨b, k * 6 + 5, none⟩ (.int .i64 ((q : Int) + 1 + 1 + 1 + 1 + 1))) b t N (putF g5 (k * 6 + 5) (.int .i64 ((q : Int) + 1 + 1 + 1 + 1 + 1)))) := F7.out.set (k * 6 + 5) _
      have G8 : Hid (w.grownBy (W5.setCell ⟨b, k * 6 + 5, none⟩ (.int .i64 ((q : Int) + 1 + 1 + 1 + 1 + 1))) (some b)) := grown_trans G7.out grown_set
      have y5 := F7.out.cell (p := k * 6 + 5) (by omega)
      have f5 := F7.out.free (k * 6 + 5)
      generalize g5 (k * 6 + 5) = v5 at y5
      clear F7 G7
      go_wp2
      go_roundw
      case rel => exact ⟨k + 1, _, by omega, by go_num, by rw [show k0 + (k + 1) * 6 = q + 5 + 1 by have := HQ.out; omega]; go_num, F8.out, G8.out⟩
      case measure => simp [intOf]; omega
    · have hke : k = n := by omega
      subst hke
      have hlt' : ¬ (k : Int) < (k : Int) := by omega
      go_wp2
      go_ret
      exact ⟨rfl, HG.out⟩
end Go.Proofs.YtngkiokibldfjaaGreatDoor
namespace Go.Proofs.YtngkiokibldfjaaGreatDoor
open Go.RowKit
/-! An extent: what the laws do with it. -/
set_option maxRecDepth 20000 in
set_option maxHeartbeats 1000000 in
theorem szExt (d : ByteArray) (s : Int) (l : Int) (hl : l ≤ 1048576) (hl0 : 0 ≤ l) (hd : d.size ≤ 9223372036854775807) (w : World) :
    Calls Tryz.prog 13 #[.agg #[.string d, .int .i64 s], .int .i64 l] w fun e w' => e = .returned (.int .i64 (if (d.size : Int) ≤ l then l - d.size else -1)) ∧ Below w.heap.size w w' := by
  by_cases h1 : l - (d.size : Int) < 0
  · rw [if_neg (by omega)]
    go_enter Tryz.func13, Tryz.ntmps13
    go_wp2
    go_ret
    exact ⟨rfl, (Below.refl _ _).alloc (Nat.le_refl _) _⟩
  · rw [if_pos (by omega)]
    go_enter Tryz.func13, Tryz.ntmps13
    go_wp2
    go_ret
    exact ⟨rfl, (Below.refl _ _).alloc (Nat.le_refl _) _⟩
set_option maxRecDepth 20000 in
set_option maxHeartbeats 1000000 in
theorem eqExt (d : ByteArray) (s : Int) (w : World) :
    Calls Tryz.prog 39 #[.agg #[.string d, .int .i64 s], .agg #[.string d, .int .i64 s]] w fun e w' => e = .returned (.bool true) ∧ Below w.heap.size w w' := by
  have d0 : (s != s) = false := by simp
  go_enter Tryz.func39, Tryz.ntmps39
  go_wp2
  go_ret
  exact ⟨rfl, ((Below.refl _ _).alloc (Nat.le_refl _) _).alloc (by simp) _⟩
theorem oneExt (d : ByteArray) (s : Int) : (#[.string d, .int .i64 s] : Array Value).all (·.oneCell') = true := by simp [Value.oneCell']
set_option maxRecDepth 20000 in
set_option maxHeartbeats 2000000 in
theorem toExt (d : ByteArray) (s : Int) (w : World) :
    Calls Tryz.prog 15 #[.agg #[.string d, .int .i64 s]] w fun e w' => e = .returned (.agg #[.string d, .int .i64 s]) ∧ Below w.heap.size w w' := by
  obtain ⟨W0, hW0⟩ : ∃ W, W = (((w.alloc (.cells #[.string d, .int .i64 s] 46)).alloc (.cells #[.string ⟨#[]⟩, .int .i64 0] 30)).alloc (.cells #[.string ⟨#[]⟩, .int .i64 0] 30)) := ⟨_, rfl⟩
  have A0 : RowAt W0 w.heap.size 46 #[.string d, .int .i64 s] := by rw [hW0]; exact ((RowAt.new _ _ _).alloc _).alloc _
  have R0 : RowAt W0 (w.heap.size + 1) 30 #[.string ⟨#[]⟩, .int .i64 0] := by rw [hW0]; exact (RowAt.next _ _ _ (by rw [size_al])).alloc _
  have O0 : RowAt W0 (w.heap.size + 1 + 1) 30 #[.string ⟨#[]⟩, .int .i64 0] := by rw [hW0]; exact RowAt.next _ _ _ (by simp only [size_al])
  have B0 : Below w.heap.size w W0 := by rw [hW0]; exact balE (balE (balE (Below.refl _ _) _) _) _
  obtain ⟨W1, hW1⟩ : ∃ W, W = W0.setCell ⟨w.heap.size + 1 + 1, 0, none⟩ (.string d) := ⟨_, rfl⟩
  have A1 : RowAt W1 w.heap.size 46 #[.string d, .int .i64 s] := by rw [hW1]; exact A0.other _ _ (by simp; omega)
  have R1 : RowAt W1 (w.heap.size + 1) 30 #[.string ⟨#[]⟩, .int .i64 0] := by rw [hW1]; exact R0.other _ _ (by simp)
  have O1 : RowAt W1 (w.heap.size + 1 + 1) 30 #[.string d, .int .i64 0] := by rw [hW1]; exact O0.set 0 _
  have B1 : Below w.heap.size w W1 := by rw [hW1]; exact B0.setCell (by simp; omega) _
  have a0 : W0.cell? ⟨w.heap.size, 0, none⟩ = some (.string d) := A0.cell 0
  have o0 : W0.cell? ⟨w.heap.size + 1 + 1, 0, none⟩ = some (.string ⟨#[]⟩) := O0.cell 0
  have f0 := O0.free 0
  obtain ⟨W2, hW2⟩ : ∃ W, W = W1.setCell ⟨w.heap.size + 1 + 1, 1, none⟩ (.int .i64 s) := ⟨_, rfl⟩
  have A2 : RowAt W2 w.heap.size 46 #[.string d, .int .i64 s] := by rw [hW2]; exact A1.other _ _ (by simp; omega)
  have R2 : RowAt W2 (w.heap.size + 1) 30 #[.string ⟨#[]⟩, .int .i64 0] := by rw [hW2]; exact R1.other _ _ (by simp)
  have O2 : RowAt W2 (w.heap.size + 1 + 1) 30 #[.string d, .int .i64 s] := by rw [hW2]; exact O1.set 1 _
  have B2 : Below w.heap.size w W2 := by rw [hW2]; exact B1.setCell (by simp; omega) _
  have a1 : W1.cell? ⟨w.heap.size, 1, none⟩ = some (.int .i64 s) := A1.cell 1
  have o1 : W1.cell? ⟨w.heap.size + 1 + 1, 1, none⟩ = some (.int .i64 0) := O1.cell 1
  have f1 := O1.free 1
  have HW0 := hid hW0
  have HW1 := hid hW1
  have HW2 := hid hW2
  have q0 : W2.cell? ⟨w.heap.size + 1 + 1, 0, none⟩ = some (.string d) := O2.cell 0
  have q1 : W2.cell? ⟨w.heap.size + 1 + 1, 1, none⟩ = some (.int .i64 s) := O2.cell 1
  have HR := hid R2
  have HB := hid B2
  clear hW0 A0 R0 O0 B0 hW1 A1 R1 O1 B1 hW2 A2 R2 O2 B2
  go_enter Tryz.func15, Tryz.ntmps15
  go_upto_region 2 with fail
  rw [← HW0.out]
  go_upto_region 3 with fail
  rw [← HW1.out]
  clear a0 o0 f0
  go_upto_region 4 with fail
  rw [← HW2.out]
  clear a1 o1 f1
  go_wp2_with (refine wpList_store_row rfl 30 (.tmp 2) (.tmp 10) rfl (w.heap.size + 1) #[.string d, .int .i64 s] rfl rfl _ _ HR.out (by kernel_rfl) rfl (oneExt _ _) ?_)
  refine bodyPost_ret (v := .agg #[.string d, .int .i64 s]) ?_ rfl ⟨rfl, below_setRow HB.out _ _ (by omega)⟩
  exact results_cell_row Tryz.results15 _ _ (w.heap.size + 1) _ _ _ _ rfl (HR.out.setRow _) Tryz.underlying30 rfl (by kernel_rfl)
end Go.Proofs.YtngkiokibldfjaaGreatDoor
