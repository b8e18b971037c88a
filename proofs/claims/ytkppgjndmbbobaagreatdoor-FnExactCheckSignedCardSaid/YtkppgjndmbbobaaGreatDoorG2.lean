import Derived.Test.YtkppgjndmbbobaaGreatDoorG1
import Derived.Test.YtkppgjndmbbobaaGreatDoorG1
import Derived.Test.YtkppgjndmbbobaaGreatDoorG1
import Derived.WalkLawsBesides
import Derived.WalkSpells
import Derived.OpenShut
import Derived.BigQuiet
import Derived.Deep.QuietTactic
import Derived.Deep.RegionHeld3
import Derived.Deep.CutRange
import Derived.Test.YtkppgjndmbbobaaGreatDoorBase
namespace Go.Proofs.YtkppgjndmbbobaaGreatDoor
open Go.RowKit
/-! AccessKey: what the laws do with one (by lawrow.py). -/
structure Ak where
  id : ByteArray
  sec : ByteArray
def Ak.row (o : Ak) : Array Value := #[.string (o).id, .string (o).sec]
/-- the cells of a row of them -/
def akF (o : Nat → Ak) (p : Nat) : Value :=
  if p % 2 = 0 then .string (o (p / 2)).id else .string (o (p / 2)).sec
theorem akF0 (o : Nat → Ak) (k : Nat) : akF o (k * 2) = .string (o k).id := by unfold akF; rw [if_pos (by omega), show (k * 2) / 2 = k by omega]
theorem akF1 (o : Nat → Ak) (k : Nat) : akF o (k * 2 + 1) = .string (o k).sec := by unfold akF; rw [if_neg (by omega), show (k * 2 + 1) / 2 = k by omega]
/-- a slice of them that is read -/
def Aks (w : World) (a : Option Addr) (n cap : Nat) (o : Nat → Ak) : Prop :=
  n ≤ cap ∧ (n = 0 ∨ ∃ b off, a = some ⟨b, off, none⟩ ∧ b < w.heap.size ∧ ∀ k, k < n → w.cell? ⟨b, off + k * 2, none⟩ = some (.string (o k).id) ∧ w.cell? ⟨b, off + k * 2 + 1, none⟩ = some (.string (o k).sec))
theorem Aks.below {w w' : World} {a : Option Addr} {n cap : Nat} {o : Nat → Ak} (h : Aks w a n cap o) (hb : Below w.heap.size w w') : Aks w' a n cap o := by
  refine ⟨h.1, ?_⟩
  rcases h.2 with h0 | ⟨b, off, rfl, h1, h2⟩
  · exact Or.inl h0
  · refine Or.inr ⟨b, off, rfl, Nat.lt_of_lt_of_le h1 hb.size, fun k hk => ?_⟩
    obtain ⟨c0, c1⟩ := h2 k hk
    exact ⟨(hb.cell (p := ⟨b, _, none⟩) h1).trans c0, (hb.cell (p := ⟨b, _, none⟩) h1).trans c1⟩
theorem Aks.of_row {w : World} {b : Nat} {t : TypeId} {n : Nat} {o : Nat → Ak} (h : FRow w b t (n * 2) (akF o)) : Aks w (some ⟨b, 0, none⟩) n n o := by
  refine ⟨Nat.le_refl _, Or.inr ⟨b, 0, rfl, h.lt, fun k hk => ?_⟩⟩
  have g0 := h.cell (show k * 2 < n * 2 by omega)
  have g1 := h.cell (show k * 2 + 1 < n * 2 by omega)
  rw [akF0] at g0
  rw [akF1] at g1
  simp only [Nat.zero_add]
  exact ⟨g0, g1⟩
/-- how much the laws count them -/
def szAk (o : Nat → Ak) : Nat → Nat
  | 0 => 0
  | k + 1 => szAk o k + (o k).id.size + (o k).sec.size
theorem szAk_mono (o : Nat → Ak) {j k : Nat} (h : j ≤ k) : szAk o j ≤ szAk o k := by
  induction k with
  | zero => rw [Nat.le_zero.mp h]; exact Nat.le_refl _
  | succ k ih => rcases Nat.lt_or_ge j (k + 1) with h1 | h1
                 · have := ih (by omega); show _ ≤ szAk o k + _ + _; omega
                 · rw [show j = k + 1 by omega]; exact Nat.le_refl _
theorem balAk {w w' : World} (h : Below w.heap.size w w') (o : Obj) : Below w.heap.size w (w'.alloc o) := h.alloc h.size o
set_option maxRecDepth 20000 in
set_option maxHeartbeats 1000000 in
theorem eqAk (p0 : ByteArray) (p1 : ByteArray) (w : World) :
    Calls Tryz.prog 67 #[.agg #[.string p0, .string p1], .agg #[.string p0, .string p1]] w fun e w' => e = .returned (.bool true) ∧ Below w.heap.size w w' := by
  go_enter Tryz.func67, Tryz.ntmps67
  go_wp2
  go_ret
  exact ⟨rfl, ((Below.refl _ _).alloc (Nat.le_refl _) _).alloc (by simp) _⟩
set_option maxRecDepth 20000 in
set_option maxHeartbeats 1000000 in
theorem sz1Ak (p0 : ByteArray) (p1 : ByteArray) (l : Int) (hl : l ≤ 1048576) (hl0 : 0 ≤ l) (h0 : p0.size ≤ 9223372036854775807) (h1 : p1.size ≤ 9223372036854775807) (w : World) :
    Calls Tryz.prog 17 #[.agg #[.string p0, .string p1], .int .i64 l] w fun e w' => e = .returned (.int .i64 (if (p0.size : Int) + p1.size ≤ l then l - p0.size - p1.size else -1)) ∧ Below w.heap.size w w' := by
  by_cases g0 : l - (p0.size : Int) < 0
  · rw [if_neg (by omega)]
    go_enter Tryz.func17, Tryz.ntmps17
    go_wp2
    go_ret
    exact ⟨rfl, (Below.refl _ _).alloc (Nat.le_refl _) _⟩
  ·
    by_cases g1 : l - (p0.size : Int) - (p1.size : Int) < 0
    · rw [if_neg (by omega)]
      go_enter Tryz.func17, Tryz.ntmps17
      go_wp2
      go_ret
      exact ⟨rfl, (Below.refl _ _).alloc (Nat.le_refl _) _⟩
    · rw [if_pos (by omega)]
      go_enter Tryz.func17, Tryz.ntmps17
      go_wp2
      go_ret
      exact ⟨rfl, (Below.refl _ _).alloc (Nat.le_refl _) _⟩
theorem oneAk (p0 : ByteArray) (p1 : ByteArray) : (#[.string p0, .string p1] : Array Value).all (·.oneCell') = true := by simp [Value.oneCell']
set_option maxRecDepth 20000 in
set_option maxHeartbeats 2000000 in
theorem to1Ak (p0 : ByteArray) (p1 : ByteArray) (w : World) :
    Calls Tryz.prog 20 #[.agg #[.string p0, .string p1]] w fun e w' => e = .returned (.agg #[.string p0, .string p1]) ∧ Below w.heap.size w w' := by
  obtain ⟨W0, hW0⟩ : ∃ W, W = (((w.alloc (.cells #[.string p0, .string p1] 45)).alloc (.cells #[.string ⟨#[]⟩, .string ⟨#[]⟩] 27)).alloc (.cells #[.string ⟨#[]⟩, .string ⟨#[]⟩] 27)) := ⟨_, rfl⟩
  have A0 : RowAt W0 w.heap.size 45 #[.string p0, .string p1] := by rw [hW0]; exact ((RowAt.new _ _ _).alloc _).alloc _
  have R0 : RowAt W0 (w.heap.size + 1) 27 #[.string ⟨#[]⟩, .string ⟨#[]⟩] := by rw [hW0]; exact (RowAt.next _ _ _ (by rw [size_al])).alloc _
  have O0 : RowAt W0 (w.heap.size + 1 + 1) 27 #[.string ⟨#[]⟩, .string ⟨#[]⟩] := by rw [hW0]; exact RowAt.next _ _ _ (by simp only [size_al])
  have B0 : Below w.heap.size w W0 := by rw [hW0]; exact balAk (balAk (balAk (Below.refl _ _) _) _) _
  obtain ⟨W1, hW1⟩ : ∃ W, W = W0.setCell ⟨w.heap.size + 1 + 1, 0, none⟩ (.string p0) := ⟨_, rfl⟩
  have A1 : RowAt W1 w.heap.size 45 #[.string p0, .string p1] := by rw [hW1]; exact A0.other _ _ (by simp; omega)
  have R1 : RowAt W1 (w.heap.size + 1) 27 #[.string ⟨#[]⟩, .string ⟨#[]⟩] := by rw [hW1]; exact R0.other _ _ (by simp)
  have O1 : RowAt W1 (w.heap.size + 1 + 1) 27 #[.string p0, .string ⟨#[]⟩] := by rw [hW1]; exact O0.set 0 _
  have B1 : Below w.heap.size w W1 := by rw [hW1]; exact B0.setCell (by simp; omega) _
  have a0 : W0.cell? ⟨w.heap.size, 0, none⟩ = some (.string p0) := A0.cell 0
  have o0 : W0.cell? ⟨w.heap.size + 1 + 1, 0, none⟩ = some (.string ⟨#[]⟩) := O0.cell 0
  have f0 := O0.free 0
  obtain ⟨W2, hW2⟩ : ∃ W, W = W1.setCell ⟨w.heap.size + 1 + 1, 1, none⟩ (.string p1) := ⟨_, rfl⟩
  have A2 : RowAt W2 w.heap.size 45 #[.string p0, .string p1] := by rw [hW2]; exact A1.other _ _ (by simp; omega)
  have R2 : RowAt W2 (w.heap.size + 1) 27 #[.string ⟨#[]⟩, .string ⟨#[]⟩] := by rw [hW2]; exact R1.other _ _ (by simp)
  have O2 : RowAt W2 (w.heap.size + 1 + 1) 27 #[.string p0, .string p1] := by rw [hW2]; exact O1.set 1 _
  have B2 : Below w.heap.size w W2 := by rw [hW2]; exact B1.setCell (by simp; omega) _
  have a1 : W1.cell? ⟨w.heap.size, 1, none⟩ = some (.string p1) := A1.cell 1
  have o1 : W1.cell? ⟨w.heap.size + 1 + 1, 1, none⟩ = some (.string ⟨#[]⟩) := O1.cell 1
  have f1 := O1.free 1
  have HW0 := hid hW0
  have HW1 := hid hW1
  have HW2 := hid hW2
  have q0 : W2.cell? ⟨w.heap.size + 1 + 1, 0, none⟩ = some (.string p0) := O2.cell 0
  have q1 : W2.cell? ⟨w.heap.size + 1 + 1, 1, none⟩ = some (.string p1) := O2.cell 1
  have HR := hid R2
  have HB := hid B2
  clear hW0 A0 R0 O0 B0 hW1 A1 R1 O1 B1 hW2 A2 R2 O2 B2
  go_enter Tryz.func20, Tryz.ntmps20
  go_upto_region 2 with fail
  rw [← HW0.out]
  go_upto_region 3 with fail
  rw [← HW1.out]
  clear a0 o0 f0
  go_upto_region 4 with fail
  rw [← HW2.out]
  clear a1 o1 f1
  go_wp2_with (refine wpList_store_row rfl 27 (.tmp 2) (.tmp 10) rfl (w.heap.size + 1) #[.string p0, .string p1] rfl rfl _ _ HR.out (by kernel_rfl) rfl (oneAk _ _) ?_)
  refine bodyPost_ret (v := .agg #[.string p0, .string p1]) ?_ rfl ⟨rfl, below_setRow HB.out _ _ (by omega)⟩
  exact results_cell_row Tryz.results20 _ _ (w.heap.size + 1) _ _ _ _ rfl (HR.out.setRow _) Tryz.underlying27 rfl (by kernel_rfl)
end Go.Proofs.YtkppgjndmbbobaaGreatDoor
namespace Go.Proofs.YtkppgjndmbbobaaGreatDoor
open Go.RowKit
/-! Rows of AccessKey: what the laws do with them (by lawrow.py). -/
def ak0 : Ak := ⟨⟨#[]⟩, ⟨#[]⟩⟩
/-- the first k of them, then empty ones -/
def akTo (o : Nat → Ak) (k i : Nat) : Ak := if i < k then o i else ak0
theorem Tryz.infoAk : (Tryz.prog.info? 27).map (fun i => (i.zero, i.size, i.bytes)) = some (some (.agg #[.string ⟨#[]⟩, .string ⟨#[]⟩]), 2, 32) := by kernel_rfl
theorem mkAk (w : World) (n : Nat) (hn : n ≤ 1048576) : (Instr.makeSlice 33 (.int .i64 n) (.int .i64 n)).run Tryz.prog w = .ok (.slice (some ⟨w.heap.size, 0, none⟩) n n) (w.alloc (.cells (madeCells #[.string ⟨#[]⟩, .string ⟨#[]⟩] (n * 2)) 27)) := by
  obtain ⟨i0, hi, hz0, hz1, hz2⟩ := info_parts Tryz.infoAk
  have := run_make (P := Tryz.prog) w 33 27 i0 _ Tryz.underlying33 hi hz0 .i64 .i64 n n (by omega) (Int.le_refl _) (by rw [hz2]; omega) (by omega)
  rw [this, hz1]
  simp only [Int.toNat_natCast, Value.cells]
theorem akTo_put (o : Nat → Ak) (k p : Nat) : putF (putF (akF (akTo o k)) (k * 2) (.string (o k).id)) (k * 2 + 1) (.string (o k).sec) p = akF (akTo o (k + 1)) p := by
  by_cases e : p / 2 = k
  · have hk : akTo o (k + 1) k = o k := by unfold akTo; rw [if_pos (by omega)]
    have : p = k * 2 ∨ p = k * 2 + 1 := by omega
    rcases this with e | e <;> subst e
    · rw [akF0, hk]; unfold putF; rw [if_neg (by omega), if_pos rfl]
    · rw [akF1, hk]; unfold putF; rw [if_pos rfl]
  · have hk : akTo o (k + 1) (p / 2) = akTo o k (p / 2) := by
      unfold akTo
      by_cases h : p / 2 < k
      · rw [if_pos (by omega), if_pos h]
      · rw [if_neg (by omega), if_neg h]
    unfold putF
    rw [if_neg (by omega), if_neg (by omega)]
    unfold akF
    rw [hk]
set_option maxRecDepth 20000 in
set_option maxHeartbeats 4000000 in
theorem toAks (a : Option Addr) (len cap : Nat) (o : Nat → Ak) (hl : len ≤ 1048576) (w : World) (h : Aks w a len cap o) :
    Calls Tryz.prog 28 #[.slice a len cap] w fun e w' => e = .returned (.slice (some ⟨w.heap.size, 0, none⟩) len len) ∧ FRow w' w.heap.size 27 (len * 2) (akF o) ∧ Below w.heap.size w w' := by
  have hmk := fun w => mkAk w len hl
  have HH := hid h
  clear h
  go_enter Tryz.func28, Tryz.ntmps28
  go_wp2_with fail
  obtain ⟨W0, hW0⟩ : ∃ W0, W0 = w.alloc (.cells (madeCells #[.string ⟨#[]⟩, .string ⟨#[]⟩] (len * 2)) 27) := ⟨_, rfl⟩
  have F0 : Hid (FRow W0 w.heap.size 27 (len * 2) (akF (akTo o 0))) := by
    rw [hW0]
    refine FRow.of (RowAt.new _ _ _) (by simp [madeCells]) fun p hp => ?_
    have h2 : p % 2 < 2 := Nat.mod_lt _ (by decide)
    have h3 : akTo o 0 (p / 2) = ak0 := by unfold akTo; rw [if_neg (by omega)]
    simp [madeCells, hp, akF, h3, ak0]
    rcases (show p % 2 = 0 ∨ p % 2 = 1 by omega) with e | e <;> rw [e] <;> rfl
  have B0 : Hid (Below w.heap.size w W0) := by rw [hW0]; exact (Below.refl _ _).alloc (Nat.le_refl _) _
  rw [← hW0]
  clear hW0 hmk
  go_loopw [4] (fun q wr => ∃ (k : Nat), k ≤ len ∧ q = .int .i64 k ∧ FRow wr w.heap.size 27 (len * 2) (akF (akTo o k)) ∧ Below w.heap.size w wr) (fun q _ => len - (intOf q).toNat)
  case atStart => exact ⟨0, Nat.zero_le _, rfl, F0.out, B0.out⟩
  case round =>
    obtain ⟨k, hk, rfl, hF, hB⟩ := hrel
    have HF := hid hF
    have HB := hid hB
    clear hF hB F0 B0
    by_cases hlt : k < len
    · have hlt' : (k : Int) < (len : Int) := by omega
      have k0 : (0 : Int) ≤ (k : Int) := by omega
      rcases (HH.out.below HB.out).2 with h00 | ⟨b, off, rfl, hbl, hc⟩
      · omega
      obtain ⟨c0, c1⟩ := hc k hlt
      have HP := hid (akTo_put o k)
      obtain ⟨X0, hX0⟩ : ∃ v, v = (o k).id := ⟨_, rfl⟩
      obtain ⟨X1, hX1⟩ : ∃ v, v = (o k).sec := ⟨_, rfl⟩
      rw [← hX0] at c0 HP
      rw [← hX1] at c1 HP
      clear hc hX0 hX1
      go_wp2_with fail
      refine (to1Ak X0 X1 wr).mono ?_
      rintro e w2 ⟨rfl, hb2⟩
      have F2 := hid (HF.out.below hb2 HF.out.lt)
      have B2 := hid (HB.out.trans (hb2.mono HB.out.size))
      clear hb2 HF HB
      have q0 := (F2.out).cell (show k * 2 < len * 2 by omega)
      rw [akF0] at q0
      have q1 := (F2.out).cell (show k * 2 + 1 < len * 2 by omega)
      rw [akF1] at q1
      have f0 := F2.out.free (k * 2)
      have G1 : FRow (w2.setCell ⟨w.heap.size, k * 2, none⟩ (.string X0)) w.heap.size 27 (len * 2) (putF (akF (akTo o k)) (k * 2) (.string X0)) := F2.out.set (k * 2) (.string X0)
      have f1 := G1.free (k * 2 + 1)
      have G2 : FRow ((w2.setCell ⟨w.heap.size, k * 2, none⟩ (.string X0)).setCell ⟨w.heap.size, k * 2 + 1, none⟩ (.string X1)) w.heap.size 27 (len * 2) (putF (putF (akF (akTo o k)) (k * 2) (.string X0)) (k * 2 + 1) (.string X1)) := G1.set (k * 2 + 1) (.string X1)
      have F4 : Hid (FRow ((w2.setCell ⟨w.heap.size, k * 2, none⟩ (.string X0)).setCell ⟨w.heap.size, k * 2 + 1, none⟩ (.string X1)) w.heap.size 27 (len * 2) (akF (akTo o (k + 1)))) := G2.congr fun p _ => HP.out p
      have B4 : Hid (Below w.heap.size w ((w2.setCell ⟨w.heap.size, k * 2, none⟩ (.string X0)).setCell ⟨w.heap.size, k * 2 + 1, none⟩ (.string X1))) := ((B2.out.setCell (Nat.le_refl _) _).setCell (Nat.le_refl _) _)
      clear G1 G2 HP F2 B2
      go_wp2
      go_roundw
      case rel => exact ⟨k + 1, by omega, by go_num, F4.out, B4.out⟩
      case measure => simp [intOf]; omega
    · have hlt' : ¬ (k : Int) < (len : Int) := by omega
      have hke : k = len := by omega
      go_wp2
      go_ret
      refine ⟨rfl, HF.out.congr fun p hp => ?_, HB.out⟩
      unfold akF
      rw [show akTo o k (p / 2) = o (p / 2) by unfold akTo; rw [if_pos (by omega)]]
set_option maxRecDepth 20000 in
set_option maxHeartbeats 4000000 in
theorem szAks (a : Option Addr) (n cap : Nat) (o : Nat → Ak) (l : Nat) (hl : l ≤ 1048576) (hn : n ≤ 9223372036854775807) (hs : ∀ k, k < n → (o k).id.size ≤ 9223372036854775807 ∧ (o k).sec.size ≤ 9223372036854775807) (w : World) (h : Aks w a n cap o) :
    Calls Tryz.prog 27 #[.slice a n cap, .int .i64 l] w fun e w' => e = .returned (.int .i64 (if n + szAk o n ≤ l then ((l - n - szAk o n : Nat) : Int) else -1)) ∧ Below w.heap.size w w' := by
  have HH := hid h
  have HS := hid hs
  clear h hs
  obtain ⟨RV, hRV⟩ : ∃ v : Int, v = if n + szAk o n ≤ l then ((l - n - szAk o n : Nat) : Int) else -1 := ⟨_, rfl⟩
  rw [← hRV]
  by_cases h0 : (l : Int) - (n : Int) < 0
  · rw [if_neg (by omega)] at hRV
    subst hRV
    go_enter Tryz.func27, Tryz.ntmps27
    go_wp2
    go_ret
    exact ⟨rfl, Below.refl _ _⟩
  obtain ⟨m, hm⟩ : ∃ m : Nat, m = l - n := ⟨_, rfl⟩
  have hme : (l : Int) - (n : Int) = m := by omega
  have HM := hid hm
  have hml : m + n = l ∧ True := ⟨by omega, trivial⟩
  clear hm
  go_enter Tryz.func27, Tryz.ntmps27
  go_wp2_with fail
  go_loopw [5, 1] (fun q y wr => ∃ (k : Nat), k ≤ n ∧ q = .int .i64 k ∧ szAk o k ≤ m ∧ y = .int .i64 ((m - szAk o k : Nat) : Int) ∧ Below w.heap.size w wr) (fun q _ _ => n - (intOf q).toNat)
  case atStart => exact ⟨0, Nat.zero_le _, rfl, Nat.zero_le _, by simp [szAk], Below.refl _ _⟩
  case round =>
    obtain ⟨k, hk, rfl, hz, rfl, hB⟩ := hrel
    have HB := hid hB
    clear hB
    by_cases hlt : k < n
    · have hlt' : (k : Int) < (n : Int) := by omega
      have k0 : (0 : Int) ≤ (k : Int) := by omega
      rcases (HH.out.below HB.out).2 with h00 | ⟨b, off, rfl, hbl, hc⟩
      · omega
      obtain ⟨c0, c1⟩ := hc k hlt
      obtain ⟨s0, s1⟩ := HS.out k hlt
      have hz1 : szAk o (k + 1) = szAk o k + (o k).id.size + (o k).sec.size := rfl
      have hzn := szAk_mono o (show k + 1 ≤ n by omega)
      obtain ⟨X0, hX0⟩ : ∃ v, v = (o k).id := ⟨_, rfl⟩
      obtain ⟨X1, hX1⟩ : ∃ v, v = (o k).sec := ⟨_, rfl⟩
      rw [← hX0] at c0 s0 hz1
      rw [← hX1] at c1 s1 hz1
      clear hc hX0 hX1
      obtain ⟨r, hr⟩ : ∃ r, r = m - szAk o k := ⟨_, rfl⟩
      rw [← hr]
      by_cases hfit : X0.size + X1.size ≤ r
      · obtain ⟨v, hv⟩ : ∃ v : Nat, v = r - X0.size - X1.size := ⟨_, rfl⟩
        have hpos : ¬ (v : Int) < 0 := by omega
        have hv1 : v ≤ 1048576 := by omega
        have Z1 : Hid (szAk o (k + 1) ≤ m ∧ m - szAk o (k + 1) = v) := by constructor <;> omega
        have hif : (if (X0.size : Int) + X1.size ≤ (r : Int) then (r : Int) - X0.size - X1.size else -1) = (v : Int) := by rw [if_pos (by omega)]; omega
        have S := sz1Ak X0 X1 r (by omega) (by omega) s0 s1 wr
        rw [hif] at S
        have HS2 := hid S
        have HRV := hid hRV
        have HR2 := hid hr
        clear S hif hRV hr hz1 hv
        go_wp2_with fail
        refine HS2.out.mono ?_
        rintro e w2 ⟨rfl, hb2⟩
        have B2 := hid (HB.out.trans (hb2.mono HB.out.size))
        clear hb2 HB c0 c1 hfit hz hzn s0 s1
        go_wp2
        go_roundw
        case rel => exact ⟨k + 1, by omega, by go_num, Z1.out.1, by rw [Z1.out.2], B2.out⟩
        case measure => simp [intOf]; omega
      · have hneg : (-1 : Int) < 0 := by omega
        have hif : (if (X0.size : Int) + X1.size ≤ (r : Int) then (r : Int) - X0.size - X1.size else -1) = -1 := if_neg (by omega)
        rw [if_neg (by omega)] at hRV
        have S := sz1Ak X0 X1 r (by omega) (by omega) s0 s1 wr
        rw [hif] at S
        have HS2 := hid S
        have HRV := hid hRV
        have HR2 := hid hr
        clear S hif hRV hr hz1
        go_wp2_with fail
        refine HS2.out.mono ?_
        rintro e w2 ⟨rfl, hb2⟩
        have B2 := hid (HB.out.trans (hb2.mono HB.out.size))
        clear hb2 HB
        go_wp2
        go_ret
        exact ⟨by rw [HRV.out]; rfl, B2.out⟩
    · have hlt' : ¬ (k : Int) < (n : Int) := by omega
      have hke : k = n := by omega
      subst hke
      rw [if_pos (by omega)] at hRV
      have HRV := hid hRV
      clear hRV
      go_wp2
      go_ret
      exact ⟨by rw [HRV.out, ← HM.out]; rfl, HB.out⟩
set_option maxRecDepth 20000 in
set_option maxHeartbeats 4000000 in
theorem eqAks (a : Option Addr) (n cap : Nat) (a' : Option Addr) (cap' : Nat) (o : Nat → Ak) (hl : n ≤ 1048576) (w : World) (h : Aks w a n cap o) (h' : Aks w a' n cap' o) :
    Calls Tryz.prog 30 #[.slice a n cap, .slice a' n cap'] w fun e w' => e = .returned (.bool true) ∧ Below w.heap.size w w' := by
  have HH := hid h
  have HH' := hid h'
  have dn : ((n : Int) != (n : Int)) = false := by simp
  clear h h'
  go_enter Tryz.func30, Tryz.ntmps30
  go_wp2_with fail
  go_loopw [5] (fun q wr => ∃ (k : Nat), k ≤ n ∧ q = .int .i64 k ∧ Below w.heap.size w wr) (fun q _ => n - (intOf q).toNat)
  case atStart => exact ⟨0, Nat.zero_le _, rfl, Below.refl _ _⟩
  case round =>
    obtain ⟨k, hk, rfl, hB⟩ := hrel
    have HB := hid hB
    clear hB
    by_cases hlt : k < n
    · have hlt' : (k : Int) < (n : Int) := by omega
      have k0 : (0 : Int) ≤ (k : Int) := by omega
      rcases (HH.out.below HB.out).2 with h00 | ⟨b, off, rfl, hbl, hc⟩
      · omega
      rcases (HH'.out.below HB.out).2 with h00 | ⟨b', off', rfl, hbl', hc'⟩
      · omega
      obtain ⟨c0, c1⟩ := hc k hlt
      obtain ⟨e0, e1⟩ := hc' k hlt
      obtain ⟨X0, hX0⟩ : ∃ v, v = (o k).id := ⟨_, rfl⟩
      obtain ⟨X1, hX1⟩ : ∃ v, v = (o k).sec := ⟨_, rfl⟩
      rw [← hX0] at c0 e0
      rw [← hX1] at c1 e1
      clear hc hc' hX0 hX1
      go_wp2_with fail
      go_region_held3 (fun wx => (wx.cell? ⟨b, off + k * 2, none⟩ = some (.string X0) ∧ wx.cell? ⟨b, off + k * 2 + 1, none⟩ = some (.string X1)) ∧ wx.cell? ⟨b', off' + k * 2, none⟩ = some (.string X0) ∧ wx.cell? ⟨b', off' + k * 2 + 1, none⟩ = some (.string X1))
        (first | exact ⟨⟨c0, c1⟩, e0, e1⟩ | exact ⟨⟨(hb2.cell hbl).trans c0, (hb2.cell hbl).trans c1⟩, (hb2.cell hbl').trans e0, (hb2.cell hbl').trans e1⟩)
        ((go_at_call 67; refine (eqAk X0 X1 _).mono ?_; rintro e w2 ⟨rfl, hb2⟩))
      have N2 : Hid (Below w.heap.size w w2) := HB.out.drew.trans (hb2.mono HB.out.size)
      clear hb2 c0 e0 c1 e1 HB
      go_wp2
      go_roundw
      case rel => exact ⟨k + 1, by omega, by go_num, N2.out⟩
      case measure => simp [intOf]; omega
    · have hlt' : ¬ (k : Int) < (n : Int) := by omega
      go_wp2
      go_ret
      exact ⟨rfl, HB.out⟩
end Go.Proofs.YtkppgjndmbbobaaGreatDoor
namespace Go.Proofs.YtkppgjndmbbobaaGreatDoor
open Go.RowKit
/-! Pair: what the laws do with one (by lawrow.py). -/
structure Hp where
  nm : ByteArray
  vl : ByteArray
def Hp.row (o : Hp) : Array Value := #[.string (o).nm, .string (o).vl]
/-- the cells of a row of them -/
def hpF (o : Nat → Hp) (p : Nat) : Value :=
  if p % 2 = 0 then .string (o (p / 2)).nm else .string (o (p / 2)).vl
theorem hpF0 (o : Nat → Hp) (k : Nat) : hpF o (k * 2) = .string (o k).nm := by unfold hpF; rw [if_pos (by omega), show (k * 2) / 2 = k by omega]
theorem hpF1 (o : Nat → Hp) (k : Nat) : hpF o (k * 2 + 1) = .string (o k).vl := by unfold hpF; rw [if_neg (by omega), show (k * 2 + 1) / 2 = k by omega]
/-- a slice of them that is read -/
def Hps (w : World) (a : Option Addr) (n cap : Nat) (o : Nat → Hp) : Prop :=
  n ≤ cap ∧ (n = 0 ∨ ∃ b off, a = some ⟨b, off, none⟩ ∧ b < w.heap.size ∧ ∀ k, k < n → w.cell? ⟨b, off + k * 2, none⟩ = some (.string (o k).nm) ∧ w.cell? ⟨b, off + k * 2 + 1, none⟩ = some (.string (o k).vl))
theorem Hps.below {w w' : World} {a : Option Addr} {n cap : Nat} {o : Nat → Hp} (h : Hps w a n cap o) (hb : Below w.heap.size w w') : Hps w' a n cap o := by
  refine ⟨h.1, ?_⟩
  rcases h.2 with h0 | ⟨b, off, rfl, h1, h2⟩
  · exact Or.inl h0
  · refine Or.inr ⟨b, off, rfl, Nat.lt_of_lt_of_le h1 hb.size, fun k hk => ?_⟩
    obtain ⟨c0, c1⟩ := h2 k hk
    exact ⟨(hb.cell (p := ⟨b, _, none⟩) h1).trans c0, (hb.cell (p := ⟨b, _, none⟩) h1).trans c1⟩
theorem Hps.of_row {w : World} {b : Nat} {t : TypeId} {n : Nat} {o : Nat → Hp} (h : FRow w b t (n * 2) (hpF o)) : Hps w (some ⟨b, 0, none⟩) n n o := by
  refine ⟨Nat.le_refl _, Or.inr ⟨b, 0, rfl, h.lt, fun k hk => ?_⟩⟩
  have g0 := h.cell (show k * 2 < n * 2 by omega)
  have g1 := h.cell (show k * 2 + 1 < n * 2 by omega)
  rw [hpF0] at g0
  rw [hpF1] at g1
  simp only [Nat.zero_add]
  exact ⟨g0, g1⟩
/-- how much the laws count them -/
def szHp (o : Nat → Hp) : Nat → Nat
  | 0 => 0
  | k + 1 => szHp o k + (o k).nm.size + (o k).vl.size
theorem szHp_mono (o : Nat → Hp) {j k : Nat} (h : j ≤ k) : szHp o j ≤ szHp o k := by
  induction k with
  | zero => rw [Nat.le_zero.mp h]; exact Nat.le_refl _
  | succ k ih => rcases Nat.lt_or_ge j (k + 1) with h1 | h1
                 · have := ih (by omega); show _ ≤ szHp o k + _ + _; omega
                 · rw [show j = k + 1 by omega]; exact Nat.le_refl _
theorem balHp {w w' : World} (h : Below w.heap.size w w') (o : Obj) : Below w.heap.size w (w'.alloc o) := h.alloc h.size o
set_option maxRecDepth 20000 in
set_option maxHeartbeats 1000000 in
theorem eqHp (p0 : ByteArray) (p1 : ByteArray) (w : World) :
    Calls Tryz.prog 98 #[.agg #[.string p0, .string p1], .agg #[.string p0, .string p1]] w fun e w' => e = .returned (.bool true) ∧ Below w.heap.size w w' := by
  go_enter Tryz.func98, Tryz.ntmps98
  go_wp2
  go_ret
  exact ⟨rfl, ((Below.refl _ _).alloc (Nat.le_refl _) _).alloc (by simp) _⟩
set_option maxRecDepth 20000 in
set_option maxHeartbeats 1000000 in
theorem sz1Hp (p0 : ByteArray) (p1 : ByteArray) (l : Int) (hl : l ≤ 1048576) (hl0 : 0 ≤ l) (h0 : p0.size ≤ 9223372036854775807) (h1 : p1.size ≤ 9223372036854775807) (w : World) :
    Calls Tryz.prog 96 #[.agg #[.string p0, .string p1], .int .i64 l] w fun e w' => e = .returned (.int .i64 (if (p0.size : Int) + p1.size ≤ l then l - p0.size - p1.size else -1)) ∧ Below w.heap.size w w' := by
  by_cases g0 : l - (p0.size : Int) < 0
  · rw [if_neg (by omega)]
    go_enter Tryz.func96, Tryz.ntmps96
    go_wp2
    go_ret
    exact ⟨rfl, (Below.refl _ _).alloc (Nat.le_refl _) _⟩
  ·
    by_cases g1 : l - (p0.size : Int) - (p1.size : Int) < 0
    · rw [if_neg (by omega)]
      go_enter Tryz.func96, Tryz.ntmps96
      go_wp2
      go_ret
      exact ⟨rfl, (Below.refl _ _).alloc (Nat.le_refl _) _⟩
    · rw [if_pos (by omega)]
      go_enter Tryz.func96, Tryz.ntmps96
      go_wp2
      go_ret
      exact ⟨rfl, (Below.refl _ _).alloc (Nat.le_refl _) _⟩
theorem oneHp (p0 : ByteArray) (p1 : ByteArray) : (#[.string p0, .string p1] : Array Value).all (·.oneCell') = true := by simp [Value.oneCell']
set_option maxRecDepth 20000 in
set_option maxHeartbeats 2000000 in
theorem to1Hp (p0 : ByteArray) (p1 : ByteArray) (w : World) :
    Calls Tryz.prog 97 #[.agg #[.string p0, .string p1]] w fun e w' => e = .returned (.agg #[.string p0, .string p1]) ∧ Below w.heap.size w w' := by
  obtain ⟨W0, hW0⟩ : ∃ W, W = (((w.alloc (.cells #[.string p0, .string p1] 113)).alloc (.cells #[.string ⟨#[]⟩, .string ⟨#[]⟩] 66)).alloc (.cells #[.string ⟨#[]⟩, .string ⟨#[]⟩] 66)) := ⟨_, rfl⟩
  have A0 : RowAt W0 w.heap.size 113 #[.string p0, .string p1] := by rw [hW0]; exact ((RowAt.new _ _ _).alloc _).alloc _
  have R0 : RowAt W0 (w.heap.size + 1) 66 #[.string ⟨#[]⟩, .string ⟨#[]⟩] := by rw [hW0]; exact (RowAt.next _ _ _ (by rw [size_al])).alloc _
  have O0 : RowAt W0 (w.heap.size + 1 + 1) 66 #[.string ⟨#[]⟩, .string ⟨#[]⟩] := by rw [hW0]; exact RowAt.next _ _ _ (by simp only [size_al])
  have B0 : Below w.heap.size w W0 := by rw [hW0]; exact balHp (balHp (balHp (Below.refl _ _) _) _) _
  obtain ⟨W1, hW1⟩ : ∃ W, W = W0.setCell ⟨w.heap.size + 1 + 1, 0, none⟩ (.string p0) := ⟨_, rfl⟩
  have A1 : RowAt W1 w.heap.size 113 #[.string p0, .string p1] := by rw [hW1]; exact A0.other _ _ (by simp; omega)
  have R1 : RowAt W1 (w.heap.size + 1) 66 #[.string ⟨#[]⟩, .string ⟨#[]⟩] := by rw [hW1]; exact R0.other _ _ (by simp)
  have O1 : RowAt W1 (w.heap.size + 1 + 1) 66 #[.string p0, .string ⟨#[]⟩] := by rw [hW1]; exact O0.set 0 _
  have B1 : Below w.heap.size w W1 := by rw [hW1]; exact B0.setCell (by simp; omega) _
  have a0 : W0.cell? ⟨w.heap.size, 0, none⟩ = some (.string p0) := A0.cell 0
  have o0 : W0.cell? ⟨w.heap.size + 1 + 1, 0, none⟩ = some (.string ⟨#[]⟩) := O0.cell 0
  have f0 := O0.free 0
  obtain ⟨W2, hW2⟩ : ∃ W, W = W1.setCell ⟨w.heap.size + 1 + 1, 1, none⟩ (.string p1) := ⟨_, rfl⟩
  have A2 : RowAt W2 w.heap.size 113 #[.string p0, .string p1] := by rw [hW2]; exact A1.other _ _ (by simp; omega)
  have R2 : RowAt W2 (w.heap.size + 1) 66 #[.string ⟨#[]⟩, .string ⟨#[]⟩] := by rw [hW2]; exact R1.other _ _ (by simp)
  have O2 : RowAt W2 (w.heap.size + 1 + 1) 66 #[.string p0, .string p1] := by rw [hW2]; exact O1.set 1 _
  have B2 : Below w.heap.size w W2 := by rw [hW2]; exact B1.setCell (by simp; omega) _
  have a1 : W1.cell? ⟨w.heap.size, 1, none⟩ = some (.string p1) := A1.cell 1
  have o1 : W1.cell? ⟨w.heap.size + 1 + 1, 1, none⟩ = some (.string ⟨#[]⟩) := O1.cell 1
  have f1 := O1.free 1
  have HW0 := hid hW0
  have HW1 := hid hW1
  have HW2 := hid hW2
  have q0 : W2.cell? ⟨w.heap.size + 1 + 1, 0, none⟩ = some (.string p0) := O2.cell 0
  have q1 : W2.cell? ⟨w.heap.size + 1 + 1, 1, none⟩ = some (.string p1) := O2.cell 1
  have HR := hid R2
  have HB := hid B2
  clear hW0 A0 R0 O0 B0 hW1 A1 R1 O1 B1 hW2 A2 R2 O2 B2
  go_enter Tryz.func97, Tryz.ntmps97
  go_upto_region 2 with fail
  rw [← HW0.out]
  go_upto_region 3 with fail
  rw [← HW1.out]
  clear a0 o0 f0
  go_upto_region 4 with fail
  rw [← HW2.out]
  clear a1 o1 f1
  go_wp2_with (refine wpList_store_row rfl 66 (.tmp 2) (.tmp 10) rfl (w.heap.size + 1) #[.string p0, .string p1] rfl rfl _ _ HR.out (by kernel_rfl) rfl (oneHp _ _) ?_)
  refine bodyPost_ret (v := .agg #[.string p0, .string p1]) ?_ rfl ⟨rfl, below_setRow HB.out _ _ (by omega)⟩
  exact results_cell_row Tryz.results97 _ _ (w.heap.size + 1) _ _ _ _ rfl (HR.out.setRow _) Tryz.underlying66 rfl (by kernel_rfl)
end Go.Proofs.YtkppgjndmbbobaaGreatDoor
namespace Go.Proofs.YtkppgjndmbbobaaGreatDoor
open Go.RowKit
/-! Rows of Pair: what the laws do with them (by lawrow.py). -/
def hp0 : Hp := ⟨⟨#[]⟩, ⟨#[]⟩⟩
/-- the first k of them, then empty ones -/
def hpTo (o : Nat → Hp) (k i : Nat) : Hp := if i < k then o i else hp0
theorem Tryz.infoHp : (Tryz.prog.info? 66).map (fun i => (i.zero, i.size, i.bytes)) = some (some (.agg #[.string ⟨#[]⟩, .string ⟨#[]⟩]), 2, 32) := by kernel_rfl
theorem mkHp (w : World) (n : Nat) (hn : n ≤ 1048576) : (Instr.makeSlice 23 (.int .i64 n) (.int .i64 n)).run Tryz.prog w = .ok (.slice (some ⟨w.heap.size, 0, none⟩) n n) (w.alloc (.cells (madeCells #[.string ⟨#[]⟩, .string ⟨#[]⟩] (n * 2)) 66)) := by
  obtain ⟨i0, hi, hz0, hz1, hz2⟩ := info_parts Tryz.infoHp
  have := run_make (P := Tryz.prog) w 23 66 i0 _ Tryz.underlying23 hi hz0 .i64 .i64 n n (by omega) (Int.le_refl _) (by rw [hz2]; omega) (by omega)
  rw [this, hz1]
  simp only [Int.toNat_natCast, Value.cells]
theorem hpTo_put (o : Nat → Hp) (k p : Nat) : putF (putF (hpF (hpTo o k)) (k * 2) (.string (o k).nm)) (k * 2 + 1) (.string (o k).vl) p = hpF (hpTo o (k + 1)) p := by
  by_cases e : p / 2 = k
  · have hk : hpTo o (k + 1) k = o k := by unfold hpTo; rw [if_pos (by omega)]
    have : p = k * 2 ∨ p = k * 2 + 1 := by omega
    rcases this with e | e <;> subst e
    · rw [hpF0, hk]; unfold putF; rw [if_neg (by omega), if_pos rfl]
    · rw [hpF1, hk]; unfold putF; rw [if_pos rfl]
  · have hk : hpTo o (k + 1) (p / 2) = hpTo o k (p / 2) := by
      unfold hpTo
      by_cases h : p / 2 < k
      · rw [if_pos (by omega), if_pos h]
      · rw [if_neg (by omega), if_neg h]
    unfold putF
    rw [if_neg (by omega), if_neg (by omega)]
    unfold hpF
    rw [hk]
set_option maxRecDepth 20000 in
set_option maxHeartbeats 4000000 in
theorem toHps (a : Option Addr) (len cap : Nat) (o : Nat → Hp) (hl : len ≤ 1048576) (w : World) (h : Hps w a len cap o) :
    Calls Tryz.prog 62 #[.slice a len cap] w fun e w' => e = .returned (.slice (some ⟨w.heap.size, 0, none⟩) len len) ∧ FRow w' w.heap.size 66 (len * 2) (hpF o) ∧ Below w.heap.size w w' := by
  have hmk := fun w => mkHp w len hl
  have HH := hid h
  clear h
  go_enter Tryz.func62, Tryz.ntmps62
  go_wp2_with fail
  obtain ⟨W0, hW0⟩ : ∃ W0, W0 = w.alloc (.cells (madeCells #[.string ⟨#[]⟩, .string ⟨#[]⟩] (len * 2)) 66) := ⟨_, rfl⟩
  have F0 : Hid (FRow W0 w.heap.size 66 (len * 2) (hpF (hpTo o 0))) := by
    rw [hW0]
    refine FRow.of (RowAt.new _ _ _) (by simp [madeCells]) fun p hp => ?_
    have h2 : p % 2 < 2 := Nat.mod_lt _ (by decide)
    have h3 : hpTo o 0 (p / 2) = hp0 := by unfold hpTo; rw [if_neg (by omega)]
    simp [madeCells, hp, hpF, h3, hp0]
    rcases (show p % 2 = 0 ∨ p % 2 = 1 by omega) with e | e <;> rw [e] <;> rfl
  have B0 : Hid (Below w.heap.size w W0) := by rw [hW0]; exact (Below.refl _ _).alloc (Nat.le_refl _) _
  rw [← hW0]
  clear hW0 hmk
  go_loopw [4] (fun q wr => ∃ (k : Nat), k ≤ len ∧ q = .int .i64 k ∧ FRow wr w.heap.size 66 (len * 2) (hpF (hpTo o k)) ∧ Below w.heap.size w wr) (fun q _ => len - (intOf q).toNat)
  case atStart => exact ⟨0, Nat.zero_le _, rfl, F0.out, B0.out⟩
  case round =>
    obtain ⟨k, hk, rfl, hF, hB⟩ := hrel
    have HF := hid hF
    have HB := hid hB
    clear hF hB F0 B0
    by_cases hlt : k < len
    · have hlt' : (k : Int) < (len : Int) := by omega
      have k0 : (0 : Int) ≤ (k : Int) := by omega
      rcases (HH.out.below HB.out).2 with h00 | ⟨b, off, rfl, hbl, hc⟩
      · omega
      obtain ⟨c0, c1⟩ := hc k hlt
      have HP := hid (hpTo_put o k)
      obtain ⟨X0, hX0⟩ : ∃ v, v = (o k).nm := ⟨_, rfl⟩
      obtain ⟨X1, hX1⟩ : ∃ v, v = (o k).vl := ⟨_, rfl⟩
      rw [← hX0] at c0 HP
      rw [← hX1] at c1 HP
      clear hc hX0 hX1
      go_wp2_with fail
      refine (to1Hp X0 X1 wr).mono ?_
      rintro e w2 ⟨rfl, hb2⟩
      have F2 := hid (HF.out.below hb2 HF.out.lt)
      have B2 := hid (HB.out.trans (hb2.mono HB.out.size))
      clear hb2 HF HB
      have q0 := (F2.out).cell (show k * 2 < len * 2 by omega)
      rw [hpF0] at q0
      have q1 := (F2.out).cell (show k * 2 + 1 < len * 2 by omega)
      rw [hpF1] at q1
      have f0 := F2.out.free (k * 2)
      have G1 : FRow (w2.setCell ⟨w.heap.size, k * 2, none⟩ (.string X0)) w.heap.size 66 (len * 2) (putF (hpF (hpTo o k)) (k * 2) (.string X0)) := F2.out.set (k * 2) (.string X0)
      have f1 := G1.free (k * 2 + 1)
      have G2 : FRow ((w2.setCell ⟨w.heap.size, k * 2, none⟩ (.string X0)).setCell ⟨w.heap.size, k * 2 + 1, none⟩ (.string X1)) w.heap.size 66 (len * 2) (putF (putF (hpF (hpTo o k)) (k * 2) (.string X0)) (k * 2 + 1) (.string X1)) := G1.set (k * 2 + 1) (.string X1)
      have F4 : Hid (FRow ((w2.setCell ⟨w.heap.size, k * 2, none⟩ (.string X0)).setCell ⟨w.heap.size, k * 2 + 1, none⟩ (.string X1)) w.heap.size 66 (len * 2) (hpF (hpTo o (k + 1)))) := G2.congr fun p _ => HP.out p
      have B4 : Hid (Below w.heap.size w ((w2.setCell ⟨w.heap.size, k * 2, none⟩ (.string X0)).setCell ⟨w.heap.size, k * 2 + 1, none⟩ (.string X1))) := ((B2.out.setCell (Nat.le_refl _) _).setCell (Nat.le_refl _) _)
      clear G1 G2 HP F2 B2
      go_wp2
      go_roundw
      case rel => exact ⟨k + 1, by omega, by go_num, F4.out, B4.out⟩
      case measure => simp [intOf]; omega
    · have hlt' : ¬ (k : Int) < (len : Int) := by omega
      have hke : k = len := by omega
      go_wp2
      go_ret
      refine ⟨rfl, HF.out.congr fun p hp => ?_, HB.out⟩
      unfold hpF
      rw [show hpTo o k (p / 2) = o (p / 2) by unfold hpTo; rw [if_pos (by omega)]]
set_option maxRecDepth 20000 in
set_option maxHeartbeats 4000000 in
theorem szHps (a : Option Addr) (n cap : Nat) (o : Nat → Hp) (l : Nat) (hl : l ≤ 1048576) (hn : n ≤ 9223372036854775807) (hs : ∀ k, k < n → (o k).nm.size ≤ 9223372036854775807 ∧ (o k).vl.size ≤ 9223372036854775807) (w : World) (h : Hps w a n cap o) :
    Calls Tryz.prog 61 #[.slice a n cap, .int .i64 l] w fun e w' => e = .returned (.int .i64 (if n + szHp o n ≤ l then ((l - n - szHp o n : Nat) : Int) else -1)) ∧ Below w.heap.size w w' := by
  have HH := hid h
  have HS := hid hs
  clear h hs
  obtain ⟨RV, hRV⟩ : ∃ v : Int, v = if n + szHp o n ≤ l then ((l - n - szHp o n : Nat) : Int) else -1 := ⟨_, rfl⟩
  rw [← hRV]
  by_cases h0 : (l : Int) - (n : Int) < 0
  · rw [if_neg (by omega)] at hRV
    subst hRV
    go_enter Tryz.func61, Tryz.ntmps61
    go_wp2
    go_ret
    exact ⟨rfl, Below.refl _ _⟩
  obtain ⟨m, hm⟩ : ∃ m : Nat, m = l - n := ⟨_, rfl⟩
  have hme : (l : Int) - (n : Int) = m := by omega
  have HM := hid hm
  have hml : m + n = l ∧ True := ⟨by omega, trivial⟩
  clear hm
  go_enter Tryz.func61, Tryz.ntmps61
  go_wp2_with fail
  go_loopw [5, 1] (fun q y wr => ∃ (k : Nat), k ≤ n ∧ q = .int .i64 k ∧ szHp o k ≤ m ∧ y = .int .i64 ((m - szHp o k : Nat) : Int) ∧ Below w.heap.size w wr) (fun q _ _ => n - (intOf q).toNat)
  case atStart => exact ⟨0, Nat.zero_le _, rfl, Nat.zero_le _, by simp [szHp], Below.refl _ _⟩
  case round =>
    obtain ⟨k, hk, rfl, hz, rfl, hB⟩ := hrel
    have HB := hid hB
    clear hB
    by_cases hlt : k < n
    · have hlt' : (k : Int) < (n : Int) := by omega
      have k0 : (0 : Int) ≤ (k : Int) := by omega
      rcases (HH.out.below HB.out).2 with h00 | ⟨b, off, rfl, hbl, hc⟩
      · omega
      obtain ⟨c0, c1⟩ := hc k hlt
      obtain ⟨s0, s1⟩ := HS.out k hlt
      have hz1 : szHp o (k + 1) = szHp o k + (o k).nm.size + (o k).vl.size := rfl
      have hzn := szHp_mono o (show k + 1 ≤ n by omega)
      obtain ⟨X0, hX0⟩ : ∃ v, v = (o k).nm := ⟨_, rfl⟩
      obtain ⟨X1, hX1⟩ : ∃ v, v = (o k).vl := ⟨_, rfl⟩
      rw [← hX0] at c0 s0 hz1
      rw [← hX1] at c1 s1 hz1
      clear hc hX0 hX1
      obtain ⟨r, hr⟩ : ∃ r, r = m - szHp o k := ⟨_, rfl⟩
      rw [← hr]
      by_cases hfit : X0.size + X1.size ≤ r
      · obtain ⟨v, hv⟩ : ∃ v : Nat, v = r - X0.size - X1.size := ⟨_, rfl⟩
        have hpos : ¬ (v : Int) < 0 := by omega
        have hv1 : v ≤ 1048576 := by omega
        have Z1 : Hid (szHp o (k + 1) ≤ m ∧ m - szHp o (k + 1) = v) := by constructor <;> omega
        have hif : (if (X0.size : Int) + X1.size ≤ (r : Int) then (r : Int) - X0.size - X1.size else -1) = (v : Int) := by rw [if_pos (by omega)]; omega
        have S := sz1Hp X0 X1 r (by omega) (by omega) s0 s1 wr
        rw [hif] at S
        have HS2 := hid S
        have HRV := hid hRV
        have HR2 := hid hr
        clear S hif hRV hr hz1 hv
        go_wp2_with fail
        refine HS2.out.mono ?_
        rintro e w2 ⟨rfl, hb2⟩
        have B2 := hid (HB.out.trans (hb2.mono HB.out.size))
        clear hb2 HB c0 c1 hfit hz hzn s0 s1
        go_wp2
        go_roundw
        case rel => exact ⟨k + 1, by omega, by go_num, Z1.out.1, by rw [Z1.out.2], B2.out⟩
        case measure => simp [intOf]; omega
      · have hneg : (-1 : Int) < 0 := by omega
        have hif : (if (X0.size : Int) + X1.size ≤ (r : Int) then (r : Int) - X0.size - X1.size else -1) = -1 := if_neg (by omega)
        rw [if_neg (by omega)] at hRV
        have S := sz1Hp X0 X1 r (by omega) (by omega) s0 s1 wr
        rw [hif] at S
        have HS2 := hid S
        have HRV := hid hRV
        have HR2 := hid hr
        clear S hif hRV hr hz1
        go_wp2_with fail
        refine HS2.out.mono ?_
        rintro e w2 ⟨rfl, hb2⟩
        have B2 := hid (HB.out.trans (hb2.mono HB.out.size))
        clear hb2 HB
        go_wp2
        go_ret
        exact ⟨by rw [HRV.out]; rfl, B2.out⟩
    · have hlt' : ¬ (k : Int) < (n : Int) := by omega
      have hke : k = n := by omega
      subst hke
      rw [if_pos (by omega)] at hRV
      have HRV := hid hRV
      clear hRV
      go_wp2
      go_ret
      exact ⟨by rw [HRV.out, ← HM.out]; rfl, HB.out⟩
set_option maxRecDepth 20000 in
set_option maxHeartbeats 4000000 in
theorem eqHps (a : Option Addr) (n cap : Nat) (a' : Option Addr) (cap' : Nat) (o : Nat → Hp) (hl : n ≤ 1048576) (w : World) (h : Hps w a n cap o) (h' : Hps w a' n cap' o) :
    Calls Tryz.prog 63 #[.slice a n cap, .slice a' n cap'] w fun e w' => e = .returned (.bool true) ∧ Below w.heap.size w w' := by
  have HH := hid h
  have HH' := hid h'
  have dn : ((n : Int) != (n : Int)) = false := by simp
  clear h h'
  go_enter Tryz.func63, Tryz.ntmps63
  go_wp2_with fail
  go_loopw [5] (fun q wr => ∃ (k : Nat), k ≤ n ∧ q = .int .i64 k ∧ Below w.heap.size w wr) (fun q _ => n - (intOf q).toNat)
  case atStart => exact ⟨0, Nat.zero_le _, rfl, Below.refl _ _⟩
  case round =>
    obtain ⟨k, hk, rfl, hB⟩ := hrel
    have HB := hid hB
    clear hB
    by_cases hlt : k < n
    · have hlt' : (k : Int) < (n : Int) := by omega
      have k0 : (0 : Int) ≤ (k : Int) := by omega
      rcases (HH.out.below HB.out).2 with h00 | ⟨b, off, rfl, hbl, hc⟩
      · omega
      rcases (HH'.out.below HB.out).2 with h00 | ⟨b', off', rfl, hbl', hc'⟩
      · omega
      obtain ⟨c0, c1⟩ := hc k hlt
      obtain ⟨e0, e1⟩ := hc' k hlt
      obtain ⟨X0, hX0⟩ : ∃ v, v = (o k).nm := ⟨_, rfl⟩
      obtain ⟨X1, hX1⟩ : ∃ v, v = (o k).vl := ⟨_, rfl⟩
      rw [← hX0] at c0 e0
      rw [← hX1] at c1 e1
      clear hc hc' hX0 hX1
      go_wp2_with fail
      go_region_held3 (fun wx => (wx.cell? ⟨b, off + k * 2, none⟩ = some (.string X0) ∧ wx.cell? ⟨b, off + k * 2 + 1, none⟩ = some (.string X1)) ∧ wx.cell? ⟨b', off' + k * 2, none⟩ = some (.string X0) ∧ wx.cell? ⟨b', off' + k * 2 + 1, none⟩ = some (.string X1))
        (first | exact ⟨⟨c0, c1⟩, e0, e1⟩ | exact ⟨⟨(hb2.cell hbl).trans c0, (hb2.cell hbl).trans c1⟩, (hb2.cell hbl').trans e0, (hb2.cell hbl').trans e1⟩)
        ((go_at_call 98; refine (eqHp X0 X1 _).mono ?_; rintro e w2 ⟨rfl, hb2⟩))
      have N2 : Hid (Below w.heap.size w w2) := HB.out.drew.trans (hb2.mono HB.out.size)
      clear hb2 c0 e0 c1 e1 HB
      go_wp2
      go_roundw
      case rel => exact ⟨k + 1, by omega, by go_num, N2.out⟩
      case measure => simp [intOf]; omega
    · have hlt' : ¬ (k : Int) < (n : Int) := by omega
      go_wp2
      go_ret
      exact ⟨rfl, HB.out⟩
end Go.Proofs.YtkppgjndmbbobaaGreatDoor
namespace Go.Proofs.YtkppgjndmbbobaaGreatDoor
open Go.RowKit
/-! Requests: what the laws do with one. -/
/-- a slice of pairs; a request -/
structure PS where
  ad : Option Addr
  n : Nat
  cap : Nat
  o : Nat → Hp
structure Rq where
  mt : ByteArray
  pt : ByteArray
  qs : PS
  hs : PS
  bd : ByteArray
def Rq.v (r : Rq) : Value := .agg #[.string r.mt, .string r.pt, .slice r.qs.ad r.qs.n r.qs.cap, .slice r.hs.ad r.hs.n r.hs.cap, .string r.bd]
/-- what a request's slices read as -/
structure RqIn (w : World) (r : Rq) : Prop where
  qs : Hps w r.qs.ad r.qs.n r.qs.cap r.qs.o
  hs : Hps w r.hs.ad r.hs.n r.hs.cap r.hs.o
theorem RqIn.below {w w' : World} {r : Rq} (h : RqIn w r) (hb : Below w.heap.size w w') : RqIn w' r := ⟨h.qs.below hb, h.hs.below hb⟩
def PSB (s : PS) (B : Nat) : Prop := s.n ≤ B ∧ ∀ i, i < s.n → (s.o i).nm.size ≤ B ∧ (s.o i).vl.size ≤ B
structure RqB (r : Rq) (B : Nat) : Prop where
  mt : r.mt.size ≤ B
  pt : r.pt.size ≤ B
  qs : PSB r.qs B
  hs : PSB r.hs B
  bd : r.bd.size ≤ B
theorem szHp_at (o : Nat → Hp) {i n : Nat} (h : i < n) : (o i).nm.size + (o i).vl.size ≤ szHp o n := by
  have h1 := szHp_mono o (show i + 1 ≤ n by omega)
  have h2 : szHp o (i + 1) = szHp o i + (o i).nm.size + (o i).vl.size := rfl
  omega
theorem szPB (s : PS) (L : Int) (h0 : 0 ≤ L) (h1 : L ≤ 1048576) (hb : PSB s 9223372036854775807) (w : World) (h : Hps w s.ad s.n s.cap s.o) :
    Calls Tryz.prog 61 #[.slice s.ad s.n s.cap, .int .i64 L] w fun e w' => (∃ z : Int, e = .returned (.int .i64 z) ∧ z ≤ 1048576 ∧ (z < 0 ∨ PSB s 1048576)) ∧ Below w.heap.size w w' := by
  obtain ⟨l, rfl⟩ := Int.eq_ofNat_of_zero_le h0
  refine (szHps s.ad s.n s.cap s.o l (by omega) hb.1 hb.2 w h).mono ?_
  rintro e w' ⟨rfl, hb2⟩
  refine ⟨⟨_, rfl, ?_, ?_⟩, hb2⟩
  · split <;> omega
  · by_cases hf : s.n + szHp s.o s.n ≤ l
    · exact .inr ⟨by omega, fun i hi => by have := szHp_at s.o hi; omega⟩
    · rw [if_neg hf]; exact .inl (by decide)
set_option maxRecDepth 20000 in
set_option maxHeartbeats 4000000 in
theorem szRq (r : Rq) (L : Int) (h0 : 0 ≤ L) (h1 : L ≤ 1048576) (hs : RqB r 9223372036854775807) (w : World) (h : RqIn w r) :
    Calls Tryz.prog 16 #[.agg #[.string r.mt, .string r.pt, .slice r.qs.ad r.qs.n r.qs.cap, .slice r.hs.ad r.hs.n r.hs.cap, .string r.bd], .int .i64 L] w fun e w' => (∃ z : Int, e = .returned (.int .i64 z) ∧ z ≤ 1048576 ∧ (z < 0 ∨ RqB r 1048576)) ∧ Below w.heap.size w w' := by
  obtain ⟨mt, pt, ⟨a1, n1, c1, o1⟩, ⟨a2, n2, c2, o2⟩, bd⟩ := r
  dsimp only
  obtain ⟨W0, hW0⟩ : ∃ W, W = w.alloc (.cells #[.string mt, .string pt, .slice a1 n1 c1, .slice a2 n2 c2, .string bd] 44) := ⟨_, rfl⟩
  have A0 : Hid (RowAt W0 w.heap.size 44 #[.string mt, .string pt, .slice a1 n1 c1, .slice a2 n2 c2, .string bd]) := by rw [hW0]; exact RowAt.new _ _ _
  have B0 : Hid (Below w.heap.size w W0) := by rw [hW0]; exact balHp (Below.refl _ _) _
  have S1 := fun L h0 h1 => hid (szPB ⟨a1, n1, c1, o1⟩ L h0 h1 hs.qs W0 (h.qs.below B0.out))
  have S2 := fun L h0 h1 wx (hb : Below W0.heap.size W0 wx) => hid (szPB ⟨a2, n2, c2, o2⟩ L h0 h1 hs.hs wx ((h.hs.below B0.out).below hb))
  have hm := hs.mt
  have hp := hs.pt
  have hb := hs.bd
  dsimp only at hm hp hb
  have z0 : Hid (w.heap.size < W0.heap.size) := A0.out.lt
  clear h hs
  by_cases m1 : L - (mt.size : Int) < 0
  · go_enter Tryz.func16, Tryz.ntmps16
    go_wp2_with fail
    rw [← hW0]
    go_ret
    exact ⟨⟨-1, rfl, by decide, .inl (by decide)⟩, B0.out⟩
  by_cases m2 : L - (mt.size : Int) - (pt.size : Int) < 0
  · go_enter Tryz.func16, Tryz.ntmps16
    go_wp2_with fail
    rw [← hW0]
    go_ret
    exact ⟨⟨-1, rfl, by decide, .inl (by decide)⟩, B0.out⟩
  go_enter Tryz.func16, Tryz.ntmps16
  go_wp2_with fail
  rw [← hW0]
  clear hW0
  refine (S1 _ (by omega) (by omega)).out.mono ?_
  rintro e w2 ⟨⟨z1, rfl, hz1, hq1⟩, hb1⟩
  have B1 := hid hb1
  clear hb1
  by_cases hn1 : z1 < 0
  · clear hq1
    go_wp2
    go_ret
    exact ⟨⟨-1, rfl, by decide, .inl (by decide)⟩, B0.out.trans (B1.out.mono B0.out.size)⟩
  have Q1 := hid (hq1.resolve_left hn1)
  clear hq1
  have x3 := (B1.out.cell (p := ⟨w.heap.size, 3, none⟩) z0.out).trans (A0.out.cell 3)
  go_wp2_with fail
  refine (S2 z1 (by omega) hz1 _ B1.out).out.mono ?_
  rintro e w3 ⟨⟨z2, rfl, hz2, hq2⟩, hb2⟩
  have B2 := hid (B1.out.trans (hb2.mono B1.out.size))
  clear hb2 x3
  by_cases hn2 : z2 < 0
  · clear hq2
    go_wp2
    go_ret
    exact ⟨⟨-1, rfl, by decide, .inl (by decide)⟩, B0.out.trans (B2.out.mono B0.out.size)⟩
  have Q2 := hid (hq2.resolve_left hn2)
  clear hq2
  have x4 := (B2.out.cell (p := ⟨w.heap.size, 4, none⟩) z0.out).trans (A0.out.cell 4)
  by_cases hn3 : z2 - (bd.size : Int) < 0
  · go_wp2
    go_ret
    exact ⟨⟨-1, rfl, by decide, .inl (by decide)⟩, B0.out.trans (B2.out.mono B0.out.size)⟩
  go_wp2
  go_ret
  exact ⟨⟨z2 - (bd.size : Int), rfl, by omega, .inr ⟨by dsimp only; omega, by dsimp only; omega, Q1.out, Q2.out, by dsimp only; omega⟩⟩, B0.out.trans (B2.out.mono B0.out.size)⟩
/-- two requests that read alike -/
structure RqEq (r r' : Rq) : Prop where
  mt : r.mt = r'.mt
  pt : r.pt = r'.pt
  n1 : r.qs.n = r'.qs.n
  o1 : r.qs.o = r'.qs.o
  n2 : r.hs.n = r'.hs.n
  o2 : r.hs.o = r'.hs.o
  bd : r.bd = r'.bd
theorem eqPB (s s' : PS) (hn : s.n = s'.n) (ho : s.o = s'.o) (hl : s.n ≤ 1048576) (w : World) (h : Hps w s.ad s.n s.cap s.o) (h' : Hps w s'.ad s'.n s'.cap s'.o) :
    Calls Tryz.prog 63 #[.slice s.ad s.n s.cap, .slice s'.ad s'.n s'.cap] w fun e w' => e = .returned (.bool true) ∧ Below w.heap.size w w' := by
  rw [← hn, ← ho] at h'
  rw [← hn]
  exact eqHps s.ad s.n s.cap s'.ad s'.cap s.o hl w h h'
set_option maxRecDepth 20000 in
set_option maxHeartbeats 4000000 in
theorem eqRq (r r' : Rq) (he : RqEq r r') (hs : RqB r 1048576) (w : World) (h : RqIn w r) (h' : RqIn w r') :
    Calls Tryz.prog 22 #[.agg #[.string r.mt, .string r.pt, .slice r.qs.ad r.qs.n r.qs.cap, .slice r.hs.ad r.hs.n r.hs.cap, .string r.bd], .agg #[.string r'.mt, .string r'.pt, .slice r'.qs.ad r'.qs.n r'.qs.cap, .slice r'.hs.ad r'.hs.n r'.hs.cap, .string r'.bd]] w fun e w' => e = .returned (.bool true) ∧ Below w.heap.size w w' := by
  obtain ⟨mt, pt, ⟨a1, n1, c1, o1⟩, ⟨a2, n2, c2, o2⟩, bd⟩ := r
  obtain ⟨mt', pt', ⟨b1, m1, e1, p1⟩, ⟨b2, m2, e2, p2⟩, bd'⟩ := r'
  obtain ⟨q1, q2, q3, q4, q5, q6, q7⟩ := he
  dsimp only at q1 q2 q3 q4 q5 q6 q7 ⊢
  subst q1 q2 q3 q4 q5 q6 q7
  obtain ⟨W0, hW0⟩ : ∃ W, W = (w.alloc (.cells #[.string mt, .string pt, .slice a1 n1 c1, .slice a2 n2 c2, .string bd] 25)).alloc (.cells #[.string mt, .string pt, .slice b1 n1 e1, .slice b2 n2 e2, .string bd] 25) := ⟨_, rfl⟩
  have A0 : Hid (RowAt W0 w.heap.size 25 #[.string mt, .string pt, .slice a1 n1 c1, .slice a2 n2 c2, .string bd]) := by rw [hW0]; exact (RowAt.new _ _ _).alloc _
  have A1 : Hid (RowAt W0 (w.heap.size + 1) 25 #[.string mt, .string pt, .slice b1 n1 e1, .slice b2 n2 e2, .string bd]) := by rw [hW0]; exact RowAt.next _ _ _ (by rw [size_al])
  have B0 : Hid (Below w.heap.size w W0) := by rw [hW0]; exact balHp (balHp (Below.refl _ _) _) _
  have z1 : Hid (w.heap.size + 1 < W0.heap.size) := A1.out.lt
  have z0 : Hid (w.heap.size < W0.heap.size) := A0.out.lt
  have K1 := fun wx (hb : Below W0.heap.size W0 wx) => hid (eqPB ⟨a1, n1, c1, o1⟩ ⟨b1, n1, e1, o1⟩ rfl rfl hs.qs.1 wx ((h.qs.below B0.out).below hb) ((h'.qs.below B0.out).below hb))
  have K2 := fun wx (hb : Below W0.heap.size W0 wx) => hid (eqPB ⟨a2, n2, c2, o2⟩ ⟨b2, n2, e2, o2⟩ rfl rfl hs.hs.1 wx ((h.hs.below B0.out).below hb) ((h'.hs.below B0.out).below hb))
  have x0 := A0.out.cell 0
  have y0 := A1.out.cell 0
  have x1 := A0.out.cell 1
  have y1 := A1.out.cell 1
  have x2 := A0.out.cell 2
  have y2 := A1.out.cell 2
  clear h h' hs
  go_enter Tryz.func22, Tryz.ntmps22
  go_wp2_with fail
  rw [← hW0]
  clear hW0 x0 y0 x1 y1 x2 y2
  refine (K1 _ (Below.refl _ _)).out.mono ?_
  rintro e w1 ⟨rfl, hb1⟩
  have BB := hid hb1
  clear hb1
  have x3 := (BB.out.cell (p := ⟨w.heap.size, 3, none⟩) z0.out).trans (A0.out.cell 3)
  have y3 := (BB.out.cell (p := ⟨w.heap.size + 1, 3, none⟩) z1.out).trans (A1.out.cell 3)
  go_wp2_with fail
  refine (K2 _ BB.out).out.mono ?_
  rintro e w2 ⟨rfl, hb2⟩
  have BN := hid (BB.out.trans (hb2.mono BB.out.size))
  clear hb2 BB x3 y3
  have x4 := (BN.out.cell (p := ⟨w.heap.size, 4, none⟩) z0.out).trans (A0.out.cell 4)
  have y4 := (BN.out.cell (p := ⟨w.heap.size + 1, 4, none⟩) z1.out).trans (A1.out.cell 4)
  go_wp2
  go_ret
  exact ⟨rfl, B0.out.trans (BN.out.mono B0.out.size)⟩
end Go.Proofs.YtkppgjndmbbobaaGreatDoor
namespace Go.Proofs.YtkppgjndmbbobaaGreatDoor
open Go.RowKit
/-! Requests made anew. -/
structure RqMade (w : World) (lo : Nat) (r : Rq) : Prop where
  qs : ∃ g, r.qs.ad = some ⟨g, 0, none⟩ ∧ r.qs.cap = r.qs.n ∧ lo ≤ g ∧ FRow w g 66 (r.qs.n * 2) (hpF r.qs.o)
  hs : ∃ g, r.hs.ad = some ⟨g, 0, none⟩ ∧ r.hs.cap = r.hs.n ∧ lo ≤ g ∧ FRow w g 66 (r.hs.n * 2) (hpF r.hs.o)
theorem RqMade.below {w w' : World} {lo : Nat} {r : Rq} (h : RqMade w lo r) (hb : Below w.heap.size w w') : RqMade w' lo r := by
  obtain ⟨⟨g1, a1, b1, c1, d1⟩, ⟨g2, a2, b2, c2, d2⟩⟩ := h
  exact ⟨⟨g1, a1, b1, c1, d1.below hb d1.lt⟩, ⟨g2, a2, b2, c2, d2.below hb d2.lt⟩⟩
theorem RqMade.mono {w : World} {lo lo' : Nat} {r : Rq} (h : RqMade w lo r) (hb : lo' ≤ lo) : RqMade w lo' r := by
  obtain ⟨⟨g1, a1, b1, c1, d1⟩, ⟨g2, a2, b2, c2, d2⟩⟩ := h
  exact ⟨⟨g1, a1, b1, by omega, d1⟩, ⟨g2, a2, b2, by omega, d2⟩⟩
theorem RqMade.in {w : World} {lo : Nat} {r : Rq} (h : RqMade w lo r) : RqIn w r := by
  obtain ⟨mt, pt, ⟨a1, n1, c1, o1⟩, ⟨a2, n2, c2, o2⟩, bd⟩ := r
  obtain ⟨⟨g1, x1, y1, _, d1⟩, ⟨g2, x2, y2, _, d2⟩⟩ := h
  dsimp only at x1 y1 d1 x2 y2 d2
  subst x1 y1 x2 y2
  exact ⟨Hps.of_row d1, Hps.of_row d2⟩
theorem frow_setRowH {w : World} {b : Nat} {t : TypeId} {n : Nat} {f : Nat → Value} (h : FRow w b t n f) {g : Nat} (c : Array Value) (hn : b ≠ g) : FRow (w.setRow g c) b t n f := by
  obtain ⟨cs, h1, h2, h3⟩ := h; exact ⟨cs, h1.otherRow g c hn, h2, h3⟩
set_option maxRecDepth 20000 in
set_option maxHeartbeats 4000000 in
theorem toRq (r : Rq) (hs : RqB r 1048576) (w : World) (h : RqIn w r) :
    Calls Tryz.prog 19 #[.agg #[.string r.mt, .string r.pt, .slice r.qs.ad r.qs.n r.qs.cap, .slice r.hs.ad r.hs.n r.hs.cap, .string r.bd]] w fun e w' => (∃ r' : Rq, e = .returned (.agg #[.string r'.mt, .string r'.pt, .slice r'.qs.ad r'.qs.n r'.qs.cap, .slice r'.hs.ad r'.hs.n r'.hs.cap, .string r'.bd]) ∧ RqEq r r' ∧ RqMade w' w.heap.size r') ∧ Below w.heap.size w w' := by
  obtain ⟨mt, pt, ⟨a1, n1, c1, o1⟩, ⟨a2, n2, c2, o2⟩, bd⟩ := r
  dsimp only
  obtain ⟨W1, hW1⟩ : ∃ W, W = ((w.alloc (.cells #[.string mt, .string pt, .slice a1 n1 c1, .slice a2 n2 c2, .string bd] 44)).alloc (.cells #[.string ⟨#[]⟩, .string ⟨#[]⟩, .slice none 0 0, .slice none 0 0, .string ⟨#[]⟩] 25)).alloc (.cells #[.string mt, .string pt, .slice none 0 0, .slice none 0 0, .string ⟨#[]⟩] 25) := ⟨_, rfl⟩
  have A1 : Hid (RowAt W1 w.heap.size 44 #[.string mt, .string pt, .slice a1 n1 c1, .slice a2 n2 c2, .string bd]) := by rw [hW1]; exact ((RowAt.new _ _ _).alloc _).alloc _
  have R1 : Hid (RowAt W1 (w.heap.size + 1) 25 #[.string ⟨#[]⟩, .string ⟨#[]⟩, .slice none 0 0, .slice none 0 0, .string ⟨#[]⟩]) := by rw [hW1]; exact (RowAt.next _ _ _ (by rw [size_al])).alloc _
  have O1 : Hid (RowAt W1 (w.heap.size + 1 + 1) 25 #[.string mt, .string pt, .slice none 0 0, .slice none 0 0, .string ⟨#[]⟩]) := by rw [hW1]; exact RowAt.next _ _ _ (by simp only [size_al])
  have B1 : Hid (Below w.heap.size w W1) := by rw [hW1]; exact (((Below.refl _ _).alloc (Nat.le_refl _) _).alloc (by simp) _).alloc (by simp; omega) _
  have Z1 : Hid (w.heap.size + 1 + 1 < W1.heap.size) := O1.out.lt
  have HH := hid h
  have HS := hid hs
  clear h hs
  go_enter Tryz.func19, Tryz.ntmps19
  go_wp2_with fail
  rw [← hW1]
  clear hW1
  refine (toHps a1 n1 c1 o1 HS.out.qs.1 W1 (HH.out.qs.below B1.out)).mono ?_
  rintro e v1 ⟨rfl, hF, hb⟩
  obtain ⟨g1, hg⟩ : ∃ g, g = W1.heap.size := ⟨_, rfl⟩
  rw [← hg] at hF
  have FN := hid hF
  have gz1 : Hid (w.heap.size + 1 + 1 < g1) := by rw [hg]; exact Z1.out
  have AN := hid (A1.out.below hb (by have := Z1.out; omega))
  have RN := hid (R1.out.below hb (by have := Z1.out; omega))
  have ON := hid (O1.out.below hb Z1.out)
  have BN := hid (B1.out.trans (hb.mono B1.out.size))
  rw [← hg]
  clear hF hb hg A1 R1 O1 B1
  have ok := ON.out.cell 2
  have fk := ON.out.free 2
  obtain ⟨W2, hW2⟩ : ∃ W, W = v1.setCell ⟨w.heap.size + 1 + 1, 2, none⟩ (.slice (some ⟨g1, 0, none⟩) n1 n1) := ⟨_, rfl⟩
  have A2 : Hid (RowAt W2 w.heap.size 44 #[.string mt, .string pt, .slice a1 n1 c1, .slice a2 n2 c2, .string bd]) := by rw [hW2]; exact AN.out.other _ _ (by dsimp only; omega)
  have R2 : Hid (RowAt W2 (w.heap.size + 1) 25 #[.string ⟨#[]⟩, .string ⟨#[]⟩, .slice none 0 0, .slice none 0 0, .string ⟨#[]⟩]) := by rw [hW2]; exact RN.out.other _ _ (by dsimp only; omega)
  have O2 : Hid (RowAt W2 (w.heap.size + 1 + 1) 25 #[.string mt, .string pt, .slice (some ⟨g1, 0, none⟩) n1 n1, .slice none 0 0, .string ⟨#[]⟩]) := by rw [hW2]; exact ON.out.set 2 _
  have B2 : Hid (Below w.heap.size w W2) := by rw [hW2]; exact BN.out.setCell (by dsimp only; omega) _
  have Z2 : Hid (w.heap.size + 1 + 1 < W2.heap.size) := O2.out.lt
  have G1 : Hid (FRow W2 g1 66 (n1 * 2) (hpF o1)) := by rw [hW2]; exact FN.out.other _ _ (by have := gz1.out; dsimp only; omega)
  clear FN
  clear AN RN ON BN
  go_upto_region 5 with fail
  rw [← hW2]
  clear hW2 ok fk
  have p3 := A2.out.cell 3
  go_wp2_with fail
  clear p3
  refine (toHps a2 n2 c2 o2 HS.out.hs.1 W2 (HH.out.hs.below B2.out)).mono ?_
  rintro e v2 ⟨rfl, hF, hb⟩
  obtain ⟨g2, hg⟩ : ∃ g, g = W2.heap.size := ⟨_, rfl⟩
  rw [← hg] at hF
  have FN := hid hF
  have gz2 : Hid (w.heap.size + 1 + 1 < g2) := by rw [hg]; exact Z2.out
  have AN := hid (A2.out.below hb (by have := Z2.out; omega))
  have RN := hid (R2.out.below hb (by have := Z2.out; omega))
  have ON := hid (O2.out.below hb Z2.out)
  have BN := hid (B2.out.trans (hb.mono B2.out.size))
  rw [← hg]
  replace G1 := hid (G1.out.below hb G1.out.lt)
  clear hF hb hg A2 R2 O2 B2
  have ok := ON.out.cell 3
  have fk := ON.out.free 3
  obtain ⟨W3, hW3⟩ : ∃ W, W = v2.setCell ⟨w.heap.size + 1 + 1, 3, none⟩ (.slice (some ⟨g2, 0, none⟩) n2 n2) := ⟨_, rfl⟩
  have A3 : Hid (RowAt W3 w.heap.size 44 #[.string mt, .string pt, .slice a1 n1 c1, .slice a2 n2 c2, .string bd]) := by rw [hW3]; exact AN.out.other _ _ (by dsimp only; omega)
  have R3 : Hid (RowAt W3 (w.heap.size + 1) 25 #[.string ⟨#[]⟩, .string ⟨#[]⟩, .slice none 0 0, .slice none 0 0, .string ⟨#[]⟩]) := by rw [hW3]; exact RN.out.other _ _ (by dsimp only; omega)
  have O3 : Hid (RowAt W3 (w.heap.size + 1 + 1) 25 #[.string mt, .string pt, .slice (some ⟨g1, 0, none⟩) n1 n1, .slice (some ⟨g2, 0, none⟩) n2 n2, .string ⟨#[]⟩]) := by rw [hW3]; exact ON.out.set 3 _
  have B3 : Hid (Below w.heap.size w W3) := by rw [hW3]; exact BN.out.setCell (by dsimp only; omega) _
  have Z3 : Hid (w.heap.size + 1 + 1 < W3.heap.size) := O3.out.lt
  replace G1 : Hid (FRow W3 g1 66 (n1 * 2) (hpF o1)) := by rw [hW3]; exact G1.out.other _ _ (by have := gz1.out; dsimp only; omega)
  have G2 : Hid (FRow W3 g2 66 (n2 * 2) (hpF o2)) := by rw [hW3]; exact FN.out.other _ _ (by have := gz2.out; dsimp only; omega)
  clear FN
  clear AN RN ON BN
  go_upto_region 6 with fail
  rw [← hW3]
  clear hW3 ok fk
  have px := A3.out.cell 4
  have AN := A3
  have RN := R3
  have ON := O3
  have BN := B3
  clear A3 R3 O3 B3
  have ok := ON.out.cell 4
  have fk := ON.out.free 4
  obtain ⟨W4, hW4⟩ : ∃ W, W = W3.setCell ⟨w.heap.size + 1 + 1, 4, none⟩ (.string bd) := ⟨_, rfl⟩
  have A4 : Hid (RowAt W4 w.heap.size 44 #[.string mt, .string pt, .slice a1 n1 c1, .slice a2 n2 c2, .string bd]) := by rw [hW4]; exact AN.out.other _ _ (by dsimp only; omega)
  have R4 : Hid (RowAt W4 (w.heap.size + 1) 25 #[.string ⟨#[]⟩, .string ⟨#[]⟩, .slice none 0 0, .slice none 0 0, .string ⟨#[]⟩]) := by rw [hW4]; exact RN.out.other _ _ (by dsimp only; omega)
  have O4 : Hid (RowAt W4 (w.heap.size + 1 + 1) 25 #[.string mt, .string pt, .slice (some ⟨g1, 0, none⟩) n1 n1, .slice (some ⟨g2, 0, none⟩) n2 n2, .string bd]) := by rw [hW4]; exact ON.out.set 4 _
  have B4 : Hid (Below w.heap.size w W4) := by rw [hW4]; exact BN.out.setCell (by dsimp only; omega) _
  have Z4 : Hid (w.heap.size + 1 + 1 < W4.heap.size) := O4.out.lt
  replace G1 : Hid (FRow W4 g1 66 (n1 * 2) (hpF o1)) := by rw [hW4]; exact G1.out.other _ _ (by have := gz1.out; dsimp only; omega)
  replace G2 : Hid (FRow W4 g2 66 (n2 * 2) (hpF o2)) := by rw [hW4]; exact G2.out.other _ _ (by have := gz2.out; dsimp only; omega)
  clear AN RN ON BN
  go_upto_region 7 with fail
  rw [← hW4]
  clear hW4 ok fk px
  have q0 := O4.out.cell 0
  have q1 := O4.out.cell 1
  have q2 := O4.out.cell 2
  have q3 := O4.out.cell 3
  have q4 := O4.out.cell 4
  go_wp2_with (refine wpList_store_row rfl 25 (.tmp 2) (.tmp 21) rfl (w.heap.size + 1) #[.string mt, .string pt, .slice (some ⟨g1, 0, none⟩) n1 n1, .slice (some ⟨g2, 0, none⟩) n2 n2, .string bd] rfl rfl _ _ R4.out (by kernel_rfl) rfl (by simp [Value.oneCell']) ?_)
  have r6 := R4.out.setRow #[.string mt, .string pt, .slice (some ⟨g1, 0, none⟩) n1 n1, .slice (some ⟨g2, 0, none⟩) n2 n2, .string bd]
  refine bodyPost_ret (v := .agg #[.string mt, .string pt, .slice (some ⟨g1, 0, none⟩) n1 n1, .slice (some ⟨g2, 0, none⟩) n2 n2, .string bd]) ?_ rfl ?_
  · exact results_cell_row Tryz.results19 _ _ (w.heap.size + 1) _ _ _ _ rfl r6 Tryz.underlying25 rfl (by kernel_rfl)
  · refine ⟨⟨⟨mt, pt, ⟨some ⟨g1, 0, none⟩, n1, n1, o1⟩, ⟨some ⟨g2, 0, none⟩, n2, n2, o2⟩, bd⟩, rfl, ⟨rfl, rfl, rfl, rfl, rfl, rfl, rfl⟩, ?_⟩, ?_⟩
    · exact ⟨⟨g1, rfl, rfl, by have := gz1.out; omega, frow_setRowH G1.out _ (by have := gz1.out; omega)⟩, ⟨g2, rfl, rfl, by have := gz2.out; omega, frow_setRowH G2.out _ (by have := gz2.out; omega)⟩⟩
    · exact below_setRow B4.out _ _ (by omega)
end Go.Proofs.YtkppgjndmbbobaaGreatDoor
namespace Go.Proofs.YtkppgjndmbbobaaGreatDoor
open Go.RowKit
/-! A proposition as a Bool. -/
open Classical in
noncomputable def pb (p : Prop) : Bool := decide p
theorem pb_t {p : Prop} (h : p) : pb p = true := by unfold pb; simpa using h
theorem pb_f {p : Prop} (h : ¬ p) : pb p = false := by unfold pb; simpa using h
theorem pb_iff {p : Prop} : pb p = true ↔ p := by unfold pb; simp
theorem pb_congr {p q : Prop} (h : p ↔ q) : pb p = pb q := by rw [propext h]
end Go.Proofs.YtkppgjndmbbobaaGreatDoor
