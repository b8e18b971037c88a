import Derived.Test.YtokjfffcciddhaaGreatDoorQA
import Derived.Test.YtokjfffcciddhaaGreatDoorQA
import Derived.Test.YtokjfffcciddhaaGreatDoorQA
import Derived.WalkLawsBesides
import Derived.WalkSpells
import Derived.OpenShut
import Derived.BigQuiet
import Derived.Deep.QuietTactic
import Derived.Deep.RegionHeld3
import Derived.Deep.CutRange
namespace Go.Proofs.YtokjfffcciddhaaGreatDoor
open Go.RowKit
/-! AccessKey: what the laws do with one (by lawrow.py). -/
structure Ak where
  id : ByteArray
  sec : ByteArray
def Ak.row (o : Ak) : Array Value := #[.string (o).id, .string (o).sec]
/-- the cells of a row of them -/
def akF (o : Nat → Ak) (p : Nat) : Value :=
  if p % 2 = 0 then .string (o (p / 2)).id else .string (o (p / 2)).sec
theorem akF0 (o : Nat → Ak) (k : Nat) : akF o (k * 2) = .string (o k).id := by unfold akF; rw [if_pos (by omega), show (k * 2) / 2 = k by omega]
theorem akF1 (o : Nat → Ak) (k : Nat) : akF o (k * 2 + 1) = .string (o k).sec := by unfold akF; rw [if_neg (by omega), show (k * 2 + 1) / 2 = k by omega]
/-- a slice of them that is read -/
def Aks (w : World) (a : Option Addr) (n cap : Nat) (o : Nat → Ak) : Prop :=
  n ≤ cap ∧ (n = 0 ∨ ∃ b off, a = some ⟨b, off, none⟩ ∧ b < w.heap.size ∧ ∀ k, k < n → w.cell? ⟨b, off + k * 2, none⟩ = some (.string (o k).id) ∧ w.cell? ⟨b, off + k * 2 + 1, none⟩ = some (.string (o k).sec))
theorem Aks.below {w w' : World} {a : Option Addr} {n cap : Nat} {o : Nat → Ak} (h : Aks w a n cap o) (hb : Below w.heap.size w w') : Aks w' a n cap o := by
  refine ⟨h.1, ?_⟩
  rcases h.2 with h0 | ⟨b, off, rfl, h1, h2⟩
  · exact Or.inl h0
  · refine Or.inr ⟨b, off, rfl, Nat.lt_of_lt_of_le h1 hb.size, fun k hk => ?_⟩
    obtain ⟨c0, c1⟩ := h2 k hk
    exact ⟨(hb.cell (p := ⟨b, _, none⟩) h1).trans c0, (hb.cell (p := ⟨b, _, none⟩) h1).trans c1⟩
theorem Aks.of_row {w : World} {b : Nat} {t : TypeId} {n : Nat} {o : Nat → Ak} (h : FRow w b t (n * 2) (akF o)) : Aks w (some ⟨b, 0, none⟩) n n o := by
  refine ⟨Nat.le_refl _, Or.inr ⟨b, 0, rfl, h.lt, fun k hk => ?_⟩⟩
  have g0 := h.cell (show k * 2 < n * 2 by omega)
  have g1 := h.cell (show k * 2 + 1 < n * 2 by omega)
  rw [akF0] at g0
  rw [akF1] at g1
  simp only [Nat.zero_add]
  exact ⟨g0, g1⟩
/-- how much the laws count them -/
def szAk (o : Nat → Ak) : Nat → Nat
  | 0 => 0
  | k + 1 => szAk o k + (o k).id.size + (o k).sec.size
theorem szAk_mono (o : Nat → Ak) {j k : Nat} (h : j ≤ k) : szAk o j ≤ szAk o k := by
  induction k with
  | zero => rw [Nat.le_zero.mp h]; exact Nat.le_refl _
  | succ k ih => rcases Nat.lt_or_ge j (k + 1) with h1 | h1
                 · have := ih (by omega); show _ ≤ szAk o k + _ + _; omega
                 · rw [show j = k + 1 by omega]; exact Nat.le_refl _
theorem balAk {w w' : World} (h : Below w.heap.size w w') (o : Obj) : Below w.heap.size w (w'.alloc o) := h.alloc h.size o
set_option maxRecDepth 20000 in
set_option maxHeartbeats 1000000 in
theorem eqAk (p0 : ByteArray) (p1 : ByteArray) (w : World) :
    Calls Tryz.prog 52 #[.agg #[.string p0, .string p1], .agg #[.string p0, .string p1]] w fun e w' => e = .returned (.bool true) ∧ Below w.heap.size w w' := by
  go_enter Tryz.func52, Tryz.ntmps52
  go_wp2
  go_ret
  exact ⟨rfl, ((Below.refl _ _).alloc (Nat.le_refl _) _).alloc (by simp) _⟩
set_option maxRecDepth 20000 in
set_option maxHeartbeats 1000000 in
theorem sz1Ak (p0 : ByteArray) (p1 : ByteArray) (l : Int) (hl : l ≤ 1048576) (hl0 : 0 ≤ l) (h0 : p0.size ≤ 9223372036854775807) (h1 : p1.size ≤ 9223372036854775807) (w : World) :
    Calls Tryz.prog 28 #[.agg #[.string p0, .string p1], .int .i64 l] w fun e w' => e = .returned (.int .i64 (if (p0.size : Int) + p1.size ≤ l then l - p0.size - p1.size else -1)) ∧ Below w.heap.size w w' := by
  by_cases g0 : l - (p0.size : Int) < 0
  · rw [if_neg (by omega)]
    go_enter Tryz.func28, Tryz.ntmps28
    go_wp2
    go_ret
    exact ⟨rfl, (Below.refl _ _).alloc (Nat.le_refl _) _⟩
  ·
    by_cases g1 : l - (p0.size : Int) - (p1.size : Int) < 0
    · rw [if_neg (by omega)]
      go_enter Tryz.func28, Tryz.ntmps28
      go_wp2
      go_ret
      exact ⟨rfl, (Below.refl _ _).alloc (Nat.le_refl _) _⟩
    · rw [if_pos (by omega)]
      go_enter Tryz.func28, Tryz.ntmps28
      go_wp2
      go_ret
      exact ⟨rfl, (Below.refl _ _).alloc (Nat.le_refl _) _⟩
theorem oneAk (p0 : ByteArray) (p1 : ByteArray) : (#[.string p0, .string p1] : Array Value).all (·.oneCell') = true := by simp [Value.oneCell']
set_option maxRecDepth 20000 in
set_option maxHeartbeats 2000000 in
theorem to1Ak (p0 : ByteArray) (p1 : ByteArray) (w : World) :
    Calls Tryz.prog 41 #[.agg #[.string p0, .string p1]] w fun e w' => e = .returned (.agg #[.string p0, .string p1]) ∧ Below w.heap.size w w' := by
  obtain ⟨W0, hW0⟩ : ∃ W, W = (((w.alloc (.cells #[.string p0, .string p1] 72)).alloc (.cells #[.string ⟨#[]⟩, .string ⟨#[]⟩] 61)).alloc (.cells #[.string ⟨#[]⟩, .string ⟨#[]⟩] 61)) := ⟨_, rfl⟩
  have A0 : RowAt W0 w.heap.size 72 #[.string p0, .string p1] := by rw [hW0]; exact ((RowAt.new _ _ _).alloc _).alloc _
  have R0 : RowAt W0 (w.heap.size + 1) 61 #[.string ⟨#[]⟩, .string ⟨#[]⟩] := by rw [hW0]; exact (RowAt.next _ _ _ (by rw [size_al])).alloc _
  have O0 : RowAt W0 (w.heap.size + 1 + 1) 61 #[.string ⟨#[]⟩, .string ⟨#[]⟩] := by rw [hW0]; exact RowAt.next _ _ _ (by simp only [size_al])
  have B0 : Below w.heap.size w W0 := by rw [hW0]; exact balAk (balAk (balAk (Below.refl _ _) _) _) _
  obtain ⟨W1, hW1⟩ : ∃ W, W = W0.setCell ⟨w.heap.size + 1 + 1, 0, none⟩ (.string p0) := ⟨_, rfl⟩
  have A1 : RowAt W1 w.heap.size 72 #[.string p0, .string p1] := by rw [hW1]; exact A0.other _ _ (by simp; omega)
  have R1 : RowAt W1 (w.heap.size + 1) 61 #[.string ⟨#[]⟩, .string ⟨#[]⟩] := by rw [hW1]; exact R0.other _ _ (by simp)
  have O1 : RowAt W1 (w.heap.size + 1 + 1) 61 #[.string p0, .string ⟨#[]⟩] := by rw [hW1]; exact O0.set 0 _
  have B1 : Below w.heap.size w W1 := by rw [hW1]; exact B0.setCell (by simp; omega) _
  have a0 : W0.cell? ⟨w.heap.size, 0, none⟩ = some (.string p0) := A0.cell 0
  have o0 : W0.cell? ⟨w.heap.size + 1 + 1, 0, none⟩ = some (.string ⟨#[]⟩) := O0.cell 0
  have f0 := O0.free 0
  obtain ⟨W2, hW2⟩ : ∃ W, W = W1.setCell ⟨w.heap.size + 1 + 1, 1, none⟩ (.string p1) := ⟨_, rfl⟩
  have A2 : RowAt W2 w.heap.size 72 #[.string p0, .string p1] := by rw [hW2]; exact A1.other _ _ (by simp; omega)
  have R2 : RowAt W2 (w.heap.size + 1) 61 #[.string ⟨#[]⟩, .string ⟨#[]⟩] := by rw [hW2]; exact R1.other _ _ (by simp)
  have O2 : RowAt W2 (w.heap.size + 1 + 1) 61 #[.string p0, .string p1] := by rw [hW2]; exact O1.set 1 _
  have B2 : Below w.heap.size w W2 := by rw [hW2]; exact B1.setCell (by simp; omega) _
  have a1 : W1.cell? ⟨w.heap.size, 1, none⟩ = some (.string p1) := A1.cell 1
  have o1 : W1.cell? ⟨w.heap.size + 1 + 1, 1, none⟩ = some (.string ⟨#[]⟩) := O1.cell 1
  have f1 := O1.free 1
  have HW0 := hid hW0
  have HW1 := hid hW1
  have HW2 := hid hW2
  have q0 : W2.cell? ⟨w.heap.size + 1 + 1, 0, none⟩ = some (.string p0) := O2.cell 0
  have q1 : W2.cell? ⟨w.heap.size + 1 + 1, 1, none⟩ = some (.string p1) := O2.cell 1
  have HR := hid R2
  have HB := hid B2
  clear hW0 A0 R0 O0 B0 hW1 A1 R1 O1 B1 hW2 A2 R2 O2 B2
  go_enter Tryz.func41, Tryz.ntmps41
  go_upto_region 2 with fail
  rw [← HW0.out]
  go_upto_region 3 with fail
  rw [← HW1.out]
  clear a0 o0 f0
  go_upto_region 4 with fail
  rw [← HW2.out]
  clear a1 o1 f1
  go_wp2_with (refine wpList_store_row rfl 61 (.tmp 2) (.tmp 10) rfl (w.heap.size + 1) #[.string p0, .string p1] rfl rfl _ _ HR.out (by kernel_rfl) rfl (oneAk _ _) ?_)
  refine bodyPost_ret (v := .agg #[.string p0, .string p1]) ?_ rfl ⟨rfl, below_setRow HB.out _ _ (by omega)⟩
  exact results_cell_row Tryz.results41 _ _ (w.heap.size + 1) _ _ _ _ rfl (HR.out.setRow _) Tryz.underlying61 rfl (by kernel_rfl)
end Go.Proofs.YtokjfffcciddhaaGreatDoor
namespace Go.Proofs.YtokjfffcciddhaaGreatDoor
open Go.RowKit
/-! Rows of AccessKey: what the laws do with them (by lawrow.py). -/
def ak0 : Ak := ⟨⟨#[]⟩, ⟨#[]⟩⟩
/-- the first k of them, then empty ones -/
def akTo (o : Nat → Ak) (k i : Nat) : Ak := if i < k then o i else ak0
theorem Tryz.infoAk : (Tryz.prog.info? 61).map (fun i => (i.zero, i.size, i.bytes)) = some (some (.agg #[.string ⟨#[]⟩, .string ⟨#[]⟩]), 2, 32) := by kernel_rfl
theorem mkAk (w : World) (n : Nat) (hn : n ≤ 1048576) : (Instr.makeSlice 40 (.int .i64 n) (.int .i64 n)).run Tryz.prog w = .ok (.slice (some ⟨w.heap.size, 0, none⟩) n n) (w.alloc (.cells (madeCells #[.string ⟨#[]⟩, .string ⟨#[]⟩] (n * 2)) 61)) := by
  obtain ⟨i0, hi, hz0, hz1, hz2⟩ := info_parts Tryz.infoAk
  have := run_make (P := Tryz.prog) w 40 61 i0 _ Tryz.underlying40 hi hz0 .i64 .i64 n n (by omega) (Int.le_refl _) (by rw [hz2]; omega) (by omega)
  rw [this, hz1]
  simp only [Int.toNat_natCast, Value.cells]
theorem akTo_put (o : Nat → Ak) (k p : Nat) : putF (putF (akF (akTo o k)) (k * 2) (.string (o k).id)) (k * 2 + 1) (.string (o k).sec) p = akF (akTo o (k + 1)) p := by
  by_cases e : p / 2 = k
  · have hk : akTo o (k + 1) k = o k := by unfold akTo; rw [if_pos (by omega)]
    have : p = k * 2 ∨ p = k * 2 + 1 := by omega
    rcases this with e | e <;> subst e
    · rw [akF0, hk]; unfold putF; rw [if_neg (by omega), if_pos rfl]
    · rw [akF1, hk]; unfold putF; rw [if_pos rfl]
  · have hk : akTo o (k + 1) (p / 2) = akTo o k (p / 2) := by
      unfold akTo
      by_cases h : p / 2 < k
      · rw [if_pos (by omega), if_pos h]
      · rw [if_neg (by omega), if_neg h]
    unfold putF
    rw [if_neg (by omega), if_neg (by omega)]
    unfold akF
    rw [hk]
set_option maxRecDepth 20000 in
set_option maxHeartbeats 4000000 in
theorem toAks (a : Option Addr) (len cap : Nat) (o : Nat → Ak) (hl : len ≤ 1048576) (w : World) (h : Aks w a len cap o) :
    Calls Tryz.prog 17 #[.slice a len cap] w fun e w' => e = .returned (.slice (some ⟨w.heap.size, 0, none⟩) len len) ∧ FRow w' w.heap.size 61 (len * 2) (akF o) ∧ Below w.heap.size w w' := by
  have hmk := fun w => mkAk w len hl
  have HH := hid h
  clear h
  go_enter Tryz.func17, Tryz.ntmps17
  go_wp2_with fail
  obtain ⟨W0, hW0⟩ : ∃ W0, W0 = w.alloc (.cells (madeCells #[.string ⟨#[]⟩, .string ⟨#[]⟩] (len * 2)) 61) := ⟨_, rfl⟩
  have F0 : Hid (FRow W0 w.heap.size 61 (len * 2) (akF (akTo o 0))) := by
    rw [hW0]
    refine FRow.of (RowAt.new _ _ _) (by simp [madeCells]) fun p hp => ?_
    have h2 : p % 2 < 2 := Nat.mod_lt _ (by decide)
    have h3 : akTo o 0 (p / 2) = ak0 := by unfold akTo; rw [if_neg (by omega)]
    simp [madeCells, hp, akF, h3, ak0]
    rcases (show p % 2 = 0 ∨ p % 2 = 1 by omega) with e | e <;> rw [e] <;> rfl
  have B0 : Hid (Below w.heap.size w W0) := by rw [hW0]; exact (Below.refl _ _).alloc (Nat.le_refl _) _
  rw [← hW0]
  clear hW0 hmk
  go_loopw [4] (fun q wr => ∃ (k : Nat), k ≤ len ∧ q = .int .i64 k ∧ FRow wr w.heap.size 61 (len * 2) (akF (akTo o k)) ∧ Below w.heap.size w wr) (fun q _ => len - (intOf q).toNat)
  case atStart => exact ⟨0, Nat.zero_le _, rfl, F0.out, B0.out⟩
  case round =>
    obtain ⟨k, hk, rfl, hF, hB⟩ := hrel
    have HF := hid hF
    have HB := hid hB
    clear hF hB F0 B0
    by_cases hlt : k < len
    · have hlt' : (k : Int) < (len : Int) := by omega
      have k0 : (0 : Int) ≤ (k : Int) := by omega
      rcases (HH.out.below HB.out).2 with h00 | ⟨b, off, rfl, hbl, hc⟩
      · omega
      obtain ⟨c0, c1⟩ := hc k hlt
      have HP := hid (akTo_put o k)
      obtain ⟨X0, hX0⟩ : ∃ v, v = (o k).id := ⟨_, rfl⟩
      obtain ⟨X1, hX1⟩ : ∃ v, v = (o k).sec := ⟨_, rfl⟩
      rw [← hX0] at c0 HP
      rw [← hX1] at c1 HP
      clear hc hX0 hX1
      go_wp2_with fail
      refine (to1Ak X0 X1 wr).mono ?_
      rintro e w2 ⟨rfl, hb2⟩
      have F2 := hid (HF.out.below hb2 HF.out.lt)
      have B2 := hid (HB.out.trans (hb2.mono HB.out.size))
      clear hb2 HF HB
      have q0 := (F2.out).cell (show k * 2 < len * 2 by omega)
      rw [akF0] at q0
      have q1 := (F2.out).cell (show k * 2 + 1 < len * 2 by omega)
      rw [akF1] at q1
      have f0 := F2.out.free (k * 2)
      have G1 : FRow (w2.setCell ⟨w.heap.size, k * 2, none⟩ (.string X0)) w.heap.size 61 (len * 2) (putF (akF (akTo o k)) (k * 2) (.string X0)) := F2.out.set (k * 2) (.string X0)
      have f1 := G1.free (k * 2 + 1)
      have G2 : FRow ((w2.setCell ⟨w.heap.size, k * 2, none⟩ (.string X0)).setCell ⟨w.heap.size, k * 2 + 1, none⟩ (.string X1)) w.heap.size 61 (len * 2) (putF (putF (akF (akTo o k)) (k * 2) (.string X0)) (k * 2 + 1) (.string X1)) := G1.set (k * 2 + 1) (.string X1)
      have F4 : Hid (FRow ((w2.setCell ⟨w.heap.size, k * 2, none⟩ (.string X0)).setCell ⟨w.heap.size, k * 2 + 1, none⟩ (.string X1)) w.heap.size 61 (len * 2) (akF (akTo o (k + 1)))) := G2.congr fun p _ => HP.out p
      have B4 : Hid (Below w.heap.size w ((w2.setCell ⟨w.heap.size, k * 2, none⟩ (.string X0)).setCell ⟨w.heap.size, k * 2 + 1, none⟩ (.string X1))) := ((B2.out.setCell (Nat.le_refl _) _).setCell (Nat.le_refl _) _)
      clear G1 G2 HP F2 B2
      go_wp2
      go_roundw
      case rel => exact ⟨k + 1, by omega, by go_num, F4.out, B4.out⟩
      case measure => simp [intOf]; omega
    · have hlt' : ¬ (k : Int) < (len : Int) := by omega
      have hke : k = len := by omega
      go_wp2
      go_ret
      refine ⟨rfl, HF.out.congr fun p hp => ?_, HB.out⟩
      unfold akF
      rw [show akTo o k (p / 2) = o (p / 2) by unfold akTo; rw [if_pos (by omega)]]
set_option maxRecDepth 20000 in
set_option maxHeartbeats 4000000 in
theorem szAks (a : Option Addr) (n cap : Nat) (o : Nat → Ak) (l : Nat) (hl : l ≤ 1048576) (hn : n ≤ 9223372036854775807) (hs : ∀ k, k < n → (o k).id.size ≤ 9223372036854775807 ∧ (o k).sec.size ≤ 9223372036854775807) (w : World) (h : Aks w a n cap o) :
    Calls Tryz.prog 10 #[.slice a n cap, .int .i64 l] w fun e w' => e = .returned (.int .i64 (if n + szAk o n ≤ l then ((l - n - szAk o n : Nat) : Int) else -1)) ∧ Below w.heap.size w w' := by
  have HH := hid h
  have HS := hid hs
  clear h hs
  obtain ⟨RV, hRV⟩ : ∃ v : Int, v = if n + szAk o n ≤ l then ((l - n - szAk o n : Nat) : Int) else -1 := ⟨_, rfl⟩
  rw [← hRV]
  by_cases h0 : (l : Int) - (n : Int) < 0
  · rw [if_neg (by omega)] at hRV
    subst hRV
    go_enter Tryz.func10, Tryz.ntmps10
    go_wp2
    go_ret
    exact ⟨rfl, Below.refl _ _⟩
  obtain ⟨m, hm⟩ : ∃ m : Nat, m = l - n := ⟨_, rfl⟩
  have hme : (l : Int) - (n : Int) = m := by omega
  have HM := hid hm
  have hml : m + n = l ∧ True := ⟨by omega, trivial⟩
  clear hm
  go_enter Tryz.func10, Tryz.ntmps10
  go_wp2_with fail
  go_loopw [5, 1] (fun q y wr => ∃ (k : Nat), k ≤ n ∧ q = .int .i64 k ∧ szAk o k ≤ m ∧ y = .int .i64 ((m - szAk o k : Nat) : Int) ∧ Below w.heap.size w wr) (fun q _ _ => n - (intOf q).toNat)
  case atStart => exact ⟨0, Nat.zero_le _, rfl, Nat.zero_le _, by simp [szAk], Below.refl _ _⟩
  case round =>
    obtain ⟨k, hk, rfl, hz, rfl, hB⟩ := hrel
    have HB := hid hB
    clear hB
    by_cases hlt : k < n
    · have hlt' : (k : Int) < (n : Int) := by omega
      have k0 : (0 : Int) ≤ (k : Int) := by omega
      rcases (HH.out.below HB.out).2 with h00 | ⟨b, off, rfl, hbl, hc⟩
      · omega
      obtain ⟨c0, c1⟩ := hc k hlt
      obtain ⟨s0, s1⟩ := HS.out k hlt
      have hz1 : szAk o (k + 1) = szAk o k + (o k).id.size + (o k).sec.size := rfl
      have hzn := szAk_mono o (show k + 1 ≤ n by omega)
      obtain ⟨X0, hX0⟩ : ∃ v, v = (o k).id := ⟨_, rfl⟩
      obtain ⟨X1, hX1⟩ : ∃ v, v = (o k).sec := ⟨_, rfl⟩
      rw [← hX0] at c0 s0 hz1
      rw [← hX1] at c1 s1 hz1
      clear hc hX0 hX1
      obtain ⟨r, hr⟩ : ∃ r, r = m - szAk o k := ⟨_, rfl⟩
      rw [← hr]
      by_cases hfit : X0.size + X1.size ≤ r
      · obtain ⟨v, hv⟩ : ∃ v : Nat, v = r - X0.size - X1.size := ⟨_, rfl⟩
        have hpos : ¬ (v : Int) < 0 := by omega
        have hv1 : v ≤ 1048576 := by omega
        have Z1 : Hid (szAk o (k + 1) ≤ m ∧ m - szAk o (k + 1) = v) := by constructor <;> omega
        have hif : (if (X0.size : Int) + X1.size ≤ (r : Int) then (r : Int) - X0.size - X1.size else -1) = (v : Int) := by rw [if_pos (by omega)]; omega
        have S := sz1Ak X0 X1 r (by omega) (by omega) s0 s1 wr
        rw [hif] at S
        have HS2 := hid S
        have HRV := hid hRV
        have HR2 := hid hr
        clear S hif hRV hr hz1 hv
        go_wp2_with fail
        refine HS2.out.mono ?_
        rintro e w2 ⟨rfl, hb2⟩
        have B2 := hid (HB.out.trans (hb2.mono HB.out.size))
        clear hb2 HB c0 c1 hfit hz hzn s0 s1
        go_wp2
        go_roundw
        case rel => exact ⟨k + 1, by omega, by go_num, Z1.out.1, by rw [Z1.out.2], B2.out⟩
        case measure => simp [intOf]; omega
      · have hneg : (-1 : Int) < 0 := by omega
        have hif : (if (X0.size : Int) + X1.size ≤ (r : Int) then (r : Int) - X0.size - X1.size else -1) = -1 := if_neg (by omega)
        rw [if_neg (by omega)] at hRV
        have S := sz1Ak X0 X1 r (by omega) (by omega) s0 s1 wr
        rw [hif] at S
        have HS2 := hid S
        have HRV := hid hRV
        have HR2 := hid hr
        clear S hif hRV hr hz1
        go_wp2_with fail
        refine HS2.out.mono ?_
        rintro e w2 ⟨rfl, hb2⟩
        have B2 := hid (HB.out.trans (hb2.mono HB.out.size))
        clear hb2 HB
        go_wp2
        go_ret
        exact ⟨by rw [HRV.out]; rfl, B2.out⟩
    · have hlt' : ¬ (k : Int) < (n : Int) := by omega
      have hke : k = n := by omega
      subst hke
      rw [if_pos (by omega)] at hRV
      have HRV := hid hRV
      clear hRV
      go_wp2
      go_ret
      exact ⟨by rw [HRV.out, ← HM.out]; rfl, HB.out⟩
set_option maxRecDepth 20000 in
set_option maxHeartbeats 4000000 in
theorem eqAks (a : Option Addr) (n cap : Nat) (a' : Option Addr) (cap' : Nat) (o : Nat → Ak) (hl : n ≤ 1048576) (w : World) (h : Aks w a n cap o) (h' : Aks w a' n cap' o) :
    Calls Tryz.prog 25 #[.slice a n cap, .slice a' n cap'] w fun e w' => e = .returned (.bool true) ∧ Below w.heap.size w w' := by
  have HH := hid h
  have HH' := hid h'
  have dn : ((n : Int) != (n : Int)) = false := by simp
  clear h h'
  go_enter Tryz.func25, Tryz.ntmps25
  go_wp2_with fail
  go_loopw [5] (fun q wr => ∃ (k : Nat), k ≤ n ∧ q = .int .i64 k ∧ Below w.heap.size w wr) (fun q _ => n - (intOf q).toNat)
  case atStart => exact ⟨0, Nat.zero_le _, rfl, Below.refl _ _⟩
  case round =>
    obtain ⟨k, hk, rfl, hB⟩ := hrel
    have HB := hid hB
    clear hB
    by_cases hlt : k < n
    · have hlt' : (k : Int) < (n : Int) := by omega
      have k0 : (0 : Int) ≤ (k : Int) := by omega
      rcases (HH.out.below HB.out).2 with h00 | ⟨b, off, rfl, hbl, hc⟩
      · omega
      rcases (HH'.out.below HB.out).2 with h00 | ⟨b', off', rfl, hbl', hc'⟩
      · omega
      obtain ⟨c0, c1⟩ := hc k hlt
      obtain ⟨e0, e1⟩ := hc' k hlt
      obtain ⟨X0, hX0⟩ : ∃ v, v = (o k).id := ⟨_, rfl⟩
      obtain ⟨X1, hX1⟩ : ∃ v, v = (o k).sec := ⟨_, rfl⟩
      rw [← hX0] at c0 e0
      rw [← hX1] at c1 e1
      clear hc hc' hX0 hX1
      go_wp2_with fail
      go_region_held3 (fun wx => (wx.cell? ⟨b, off + k * 2, none⟩ = some (.string X0) ∧ wx.cell? ⟨b, off + k * 2 + 1, none⟩ = some (.string X1)) ∧ wx.cell? ⟨b', off' + k * 2, none⟩ = some (.string X0) ∧ wx.cell? ⟨b', off' + k * 2 + 1, none⟩ = some (.string X1))
        (first | exact ⟨⟨c0, c1⟩, e0, e1⟩ | exact ⟨⟨(hb2.cell hbl).trans c0, (hb2.cell hbl).trans c1⟩, (hb2.cell hbl').trans e0, (hb2.cell hbl').trans e1⟩)
        ((go_at_call 52; refine (eqAk X0 X1 _).mono ?_; rintro e w2 ⟨rfl, hb2⟩))
      have N2 : Hid (Below w.heap.size w w2) := HB.out.drew.trans (hb2.mono HB.out.size)
      clear hb2 c0 e0 c1 e1 HB
      go_wp2
      go_roundw
      case rel => exact ⟨k + 1, by omega, by go_num, N2.out⟩
      case measure => simp [intOf]; omega
    · have hlt' : ¬ (k : Int) < (n : Int) := by omega
      go_wp2
      go_ret
      exact ⟨rfl, HB.out⟩
end Go.Proofs.YtokjfffcciddhaaGreatDoor
