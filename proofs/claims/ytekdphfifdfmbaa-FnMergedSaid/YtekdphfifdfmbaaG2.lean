import Derived.Test.YtekdphfifdfmbaaG1
import Derived.Test.YtekdphfifdfmbaaG1
import Derived.Test.YtekdphfifdfmbaaG1
import Derived.WalkLawsBesides
import Derived.WalkSpells
import Derived.OpenShut
import Derived.BigQuiet
import Derived.Deep.QuietTactic
import Derived.Deep.RegionHeld3
import Derived.Deep.CutRange
import Derived.Test.YtekdphfifdfmbaaProg
import Derived.Test.YtekdphfifdfmbaaBase
import Derived.Lib.Bytealg
namespace Go.Proofs.Ytekdphfifdfmbaa
open Go.RowKit
/-! RunEntry: what the laws do with one (by lawrow.py). -/
structure En where
  ky : ByteArray
  sq : Int
  gn : Bool
  tx : ByteArray
def En.row (o : En) : Array Value := #[.string (o).ky, .int .i64 (o).sq, .bool (o).gn, .string (o).tx]
/-- the cells of a row of them -/
def enF (o : Nat → En) (p : Nat) : Value :=
  if p % 4 = 0 then .string (o (p / 4)).ky else if p % 4 = 1 then .int .i64 (o (p / 4)).sq else if p % 4 = 2 then .bool (o (p / 4)).gn else .string (o (p / 4)).tx
theorem enF0 (o : Nat → En) (k : Nat) : enF o (k * 4) = .string (o k).ky := by unfold enF; rw [if_pos (by omega), show (k * 4) / 4 = k by omega]
theorem enF1 (o : Nat → En) (k : Nat) : enF o (k * 4 + 1) = .int .i64 (o k).sq := by unfold enF; rw [if_neg (by omega), if_pos (by omega), show (k * 4 + 1) / 4 = k by omega]
theorem enF2 (o : Nat → En) (k : Nat) : enF o (k * 4 + 2) = .bool (o k).gn := by unfold enF; rw [if_neg (by omega), if_neg (by omega), if_pos (by omega), show (k * 4 + 2) / 4 = k by omega]
theorem enF3 (o : Nat → En) (k : Nat) : enF o (k * 4 + 3) = .string (o k).tx := by unfold enF; rw [if_neg (by omega), if_neg (by omega), if_neg (by omega), show (k * 4 + 3) / 4 = k by omega]
/-- a slice of them that is read -/
def Ens (w : World) (a : Option Addr) (n cap : Nat) (o : Nat → En) : Prop :=
  n ≤ cap ∧ (n = 0 ∨ ∃ b off, a = some ⟨b, off, none⟩ ∧ b < w.heap.size ∧ ∀ k, k < n → w.cell? ⟨b, off + k * 4, none⟩ = some (.string (o k).ky) ∧ w.cell? ⟨b, off + k * 4 + 1, none⟩ = some (.int .i64 (o k).sq) ∧ w.cell? ⟨b, off + k * 4 + 2, none⟩ = some (.bool (o k).gn) ∧ w.cell? ⟨b, off + k * 4 + 3, none⟩ = some (.string (o k).tx))
theorem Ens.below {w w' : World} {a : Option Addr} {n cap : Nat} {o : Nat → En} (h : Ens w a n cap o) (hb : Below w.heap.size w w') : Ens w' a n cap o := by
  refine ⟨h.1, ?_⟩
  rcases h.2 with h0 | ⟨b, off, rfl, h1, h2⟩
  · exact Or.inl h0
  · refine Or.inr ⟨b, off, rfl, Nat.lt_of_lt_of_le h1 hb.size, fun k hk => ?_⟩
    obtain ⟨c0, c1, c2, c3⟩ := h2 k hk
    exact ⟨(hb.cell (p := ⟨b, _, none⟩) h1).trans c0, (hb.cell (p := ⟨b, _, none⟩) h1).trans c1, (hb.cell (p := ⟨b, _, none⟩) h1).trans c2, (hb.cell (p := ⟨b, _, none⟩) h1).trans c3⟩
theorem Ens.of_row {w : World} {b : Nat} {t : TypeId} {n : Nat} {o : Nat → En} (h : FRow w b t (n * 4) (enF o)) : Ens w (some ⟨b, 0, none⟩) n n o := by
  refine ⟨Nat.le_refl _, Or.inr ⟨b, 0, rfl, h.lt, fun k hk => ?_⟩⟩
  have g0 := h.cell (show k * 4 < n * 4 by omega)
  have g1 := h.cell (show k * 4 + 1 < n * 4 by omega)
  have g2 := h.cell (show k * 4 + 2 < n * 4 by omega)
  have g3 := h.cell (show k * 4 + 3 < n * 4 by omega)
  rw [enF0] at g0
  rw [enF1] at g1
  rw [enF2] at g2
  rw [enF3] at g3
  simp only [Nat.zero_add]
  exact ⟨g0, g1, g2, g3⟩
/-- how much the laws count them -/
def szEn (o : Nat → En) : Nat → Nat
  | 0 => 0
  | k + 1 => szEn o k + (o k).ky.size + (o k).tx.size
theorem szEn_mono (o : Nat → En) {j k : Nat} (h : j ≤ k) : szEn o j ≤ szEn o k := by
  induction k with
  | zero => rw [Nat.le_zero.mp h]; exact Nat.le_refl _
  | succ k ih => rcases Nat.lt_or_ge j (k + 1) with h1 | h1
                 · have := ih (by omega); show _ ≤ szEn o k + _ + _; omega
                 · rw [show j = k + 1 by omega]; exact Nat.le_refl _
theorem balEn {w w' : World} (h : Below w.heap.size w w') (o : Obj) : Below w.heap.size w (w'.alloc o) := h.alloc h.size o
set_option maxRecDepth 20000 in
set_option maxHeartbeats 1000000 in
theorem eqEn (p0 : ByteArray) (p1 : Int) (p2 : Bool) (p3 : ByteArray) (w : World) :
    Calls Try.prog 23 #[.agg #[.string p0, .int .i64 p1, .bool p2, .string p3], .agg #[.string p0, .int .i64 p1, .bool p2, .string p3]] w fun e w' => e = .returned (.bool true) ∧ Below w.heap.size w w' := by
  have d1 : (p1 != p1) = false := by simp
  have d2 : (p2 != p2) = false := by simp
  go_enter Try.func23, Try.ntmps23
  go_wp2
  go_ret
  exact ⟨rfl, ((Below.refl _ _).alloc (Nat.le_refl _) _).alloc (by simp) _⟩
set_option maxRecDepth 20000 in
set_option maxHeartbeats 1000000 in
theorem sz1En (p0 : ByteArray) (p1 : Int) (p2 : Bool) (p3 : ByteArray) (l : Int) (hl : l ≤ 1048576) (hl0 : 0 ≤ l) (h0 : p0.size ≤ 9223372036854775807) (h3 : p3.size ≤ 9223372036854775807) (w : World) :
    Calls Try.prog 81 #[.agg #[.string p0, .int .i64 p1, .bool p2, .string p3], .int .i64 l] w fun e w' => e = .returned (.int .i64 (if (p0.size : Int) + p3.size ≤ l then l - p0.size - p3.size else -1)) ∧ Below w.heap.size w w' := by
  by_cases g0 : l - (p0.size : Int) < 0
  · rw [if_neg (by omega)]
    go_enter Try.func81, Try.ntmps81
    go_wp2
    go_ret
    exact ⟨rfl, (Below.refl _ _).alloc (Nat.le_refl _) _⟩
  ·
    by_cases g3 : l - (p0.size : Int) - (p3.size : Int) < 0
    · rw [if_neg (by omega)]
      go_enter Try.func81, Try.ntmps81
      go_wp2
      go_ret
      exact ⟨rfl, (Below.refl _ _).alloc (Nat.le_refl _) _⟩
    · rw [if_pos (by omega)]
      go_enter Try.func81, Try.ntmps81
      go_wp2
      go_ret
      exact ⟨rfl, (Below.refl _ _).alloc (Nat.le_refl _) _⟩
theorem oneEn (p0 : ByteArray) (p1 : Int) (p2 : Bool) (p3 : ByteArray) : (#[.string p0, .int .i64 p1, .bool p2, .string p3] : Array Value).all (·.oneCell') = true := by simp [Value.oneCell']
set_option maxRecDepth 20000 in
set_option maxHeartbeats 2000000 in
theorem to1En (p0 : ByteArray) (p1 : Int) (p2 : Bool) (p3 : ByteArray) (w : World) :
    Calls Try.prog 82 #[.agg #[.string p0, .int .i64 p1, .bool p2, .string p3]] w fun e w' => e = .returned (.agg #[.string p0, .int .i64 p1, .bool p2, .string p3]) ∧ Below w.heap.size w w' := by
  obtain ⟨W0, hW0⟩ : ∃ W, W = (((w.alloc (.cells #[.string p0, .int .i64 p1, .bool p2, .string p3] 124)).alloc (.cells #[.string ⟨#[]⟩, .int .i64 0, .bool false, .string ⟨#[]⟩] 34)).alloc (.cells #[.string ⟨#[]⟩, .int .i64 0, .bool false, .string ⟨#[]⟩] 34)) := ⟨_, rfl⟩
  have A0 : RowAt W0 w.heap.size 124 #[.string p0, .int .i64 p1, .bool p2, .string p3] := by rw [hW0]; exact ((RowAt.new _ _ _).alloc _).alloc _
  have R0 : RowAt W0 (w.heap.size + 1) 34 #[.string ⟨#[]⟩, .int .i64 0, .bool false, .string ⟨#[]⟩] := by rw [hW0]; exact (RowAt.next _ _ _ (by rw [size_al])).alloc _
  have O0 : RowAt W0 (w.heap.size + 1 + 1) 34 #[.string ⟨#[]⟩, .int .i64 0, .bool false, .string ⟨#[]⟩] := by rw [hW0]; exact RowAt.next _ _ _ (by simp only [size_al])
  have B0 : Below w.heap.size w W0 := by rw [hW0]; exact balEn (balEn (balEn (Below.refl _ _) _) _) _
  obtain ⟨W1, hW1⟩ : ∃ W, W = W0.setCell ⟨w.heap.size + 1 + 1, 0, none⟩ (.string p0) := ⟨_, rfl⟩
  have A1 : RowAt W1 w.heap.size 124 #[.string p0, .int .i64 p1, .bool p2, .string p3] := by rw [hW1]; exact A0.other _ _ (by simp; omega)
  have R1 : RowAt W1 (w.heap.size + 1) 34 #[.string ⟨#[]⟩, .int .i64 0, .bool false, .string ⟨#[]⟩] := by rw [hW1]; exact R0.other _ _ (by simp)
  have O1 : RowAt W1 (w.heap.size + 1 + 1) 34 #[.string p0, .int .i64 0, .bool false, .string ⟨#[]⟩] := by rw [hW1]; exact O0.set 0 _
  have B1 : Below w.heap.size w W1 := by rw [hW1]; exact B0.setCell (by simp; omega) _
  have a0 : W0.cell? ⟨w.heap.size, 0, none⟩ = some (.string p0) := A0.cell 0
  have o0 : W0.cell? ⟨w.heap.size + 1 + 1, 0, none⟩ = some (.string ⟨#[]⟩) := O0.cell 0
  have f0 := O0.free 0
  obtain ⟨W2, hW2⟩ : ∃ W, W = W1.setCell ⟨w.heap.size + 1 + 1, 1, none⟩ (.int .i64 p1) := ⟨_, rfl⟩
  have A2 : RowAt W2 w.heap.size 124 #[.string p0, .int .i64 p1, .bool p2, .string p3] := by rw [hW2]; exact A1.other _ _ (by simp; omega)
  have R2 : RowAt W2 (w.heap.size + 1) 34 #[.string ⟨#[]⟩, .int .i64 0, .bool false, .string ⟨#[]⟩] := by rw [hW2]; exact R1.other _ _ (by simp)
  have O2 : RowAt W2 (w.heap.size + 1 + 1) 34 #[.string p0, .int .i64 p1, .bool false, .string ⟨#[]⟩] := by rw [hW2]; exact O1.set 1 _
  have B2 : Below w.heap.size w W2 := by rw [hW2]; exact B1.setCell (by simp; omega) _
  have a1 : W1.cell? ⟨w.heap.size, 1, none⟩ = some (.int .i64 p1) := A1.cell 1
  have o1 : W1.cell? ⟨w.heap.size + 1 + 1, 1, none⟩ = some (.int .i64 0) := O1.cell 1
  have f1 := O1.free 1
  obtain ⟨W3, hW3⟩ : ∃ W, W = W2.setCell ⟨w.heap.size + 1 + 1, 2, none⟩ (.bool p2) := ⟨_, rfl⟩
  have A3 : RowAt W3 w.heap.size 124 #[.string p0, .int .i64 p1, .bool p2, .string p3] := by rw [hW3]; exact A2.other _ _ (by simp; omega)
  have R3 : RowAt W3 (w.heap.size + 1) 34 #[.string ⟨#[]⟩, .int .i64 0, .bool false, .string ⟨#[]⟩] := by rw [hW3]; exact R2.other _ _ (by simp)
  have O3 : RowAt W3 (w.heap.size + 1 + 1) 34 #[.string p0, .int .i64 p1, .bool p2, .string ⟨#[]⟩] := by rw [hW3]; exact O2.set 2 _
  have B3 : Below w.heap.size w W3 := by rw [hW3]; exact B2.setCell (by simp; omega) _
  have a2 : W2.cell? ⟨w.heap.size, 2, none⟩ = some (.bool p2) := A2.cell 2
  have o2 : W2.cell? ⟨w.heap.size + 1 + 1, 2, none⟩ = some (.bool false) := O2.cell 2
  have f2 := O2.free 2
  obtain ⟨W4, hW4⟩ : ∃ W, W = W3.setCell ⟨w.heap.size + 1 + 1, 3, none⟩ (.string p3) := ⟨_, rfl⟩
  have A4 : RowAt W4 w.heap.size 124 #[.string p0, .int .i64 p1, .bool p2, .string p3] := by rw [hW4]; exact A3.other _ _ (by simp; omega)
  have R4 : RowAt W4 (w.heap.size + 1) 34 #[.string ⟨#[]⟩, .int .i64 0, .bool false, .string ⟨#[]⟩] := by rw [hW4]; exact R3.other _ _ (by simp)
  have O4 : RowAt W4 (w.heap.size + 1 + 1) 34 #[.string p0, .int .i64 p1, .bool p2, .string p3] := by rw [hW4]; exact O3.set 3 _
  have B4 : Below w.heap.size w W4 := by rw [hW4]; exact B3.setCell (by simp; omega) _
  have a3 : W3.cell? ⟨w.heap.size, 3, none⟩ = some (.string p3) := A3.cell 3
  have o3 : W3.cell? ⟨w.heap.size + 1 + 1, 3, none⟩ = some (.string ⟨#[]⟩) := O3.cell 3
  have f3 := O3.free 3
  have HW0 := hid hW0
  have HW1 := hid hW1
  have HW2 := hid hW2
  have HW3 := hid hW3
  have HW4 := hid hW4
  have q0 : W4.cell? ⟨w.heap.size + 1 + 1, 0, none⟩ = some (.string p0) := O4.cell 0
  have q1 : W4.cell? ⟨w.heap.size + 1 + 1, 1, none⟩ = some (.int .i64 p1) := O4.cell 1
  have q2 : W4.cell? ⟨w.heap.size + 1 + 1, 2, none⟩ = some (.bool p2) := O4.cell 2
  have q3 : W4.cell? ⟨w.heap.size + 1 + 1, 3, none⟩ = some (.string p3) := O4.cell 3
  have HR := hid R4
  have HB := hid B4
  clear hW0 A0 R0 O0 B0 hW1 A1 R1 O1 B1 hW2 A2 R2 O2 B2 hW3 A3 R3 O3 B3 hW4 A4 R4 O4 B4
  go_enter Try.func82, Try.ntmps82
  go_upto_region 2 with fail
  rw [← HW0.out]
  go_upto_region 3 with fail
  rw [← HW1.out]
  clear a0 o0 f0
  go_upto_region 4 with fail
  rw [← HW2.out]
  clear a1 o1 f1
  go_upto_region 5 with fail
  rw [← HW3.out]
  clear a2 o2 f2
  go_upto_region 6 with fail
  rw [← HW4.out]
  clear a3 o3 f3
  go_wp2_with (refine wpList_store_row rfl 34 (.tmp 2) (.tmp 16) rfl (w.heap.size + 1) #[.string p0, .int .i64 p1, .bool p2, .string p3] rfl rfl _ _ HR.out (by kernel_rfl) rfl (oneEn _ _ _ _) ?_)
  refine bodyPost_ret (v := .agg #[.string p0, .int .i64 p1, .bool p2, .string p3]) ?_ rfl ⟨rfl, below_setRow HB.out _ _ (by omega)⟩
  exact results_cell_row Try.results82 _ _ (w.heap.size + 1) _ _ _ _ rfl (HR.out.setRow _) Try.underlying34 rfl (by kernel_rfl)
end Go.Proofs.Ytekdphfifdfmbaa
namespace Go.Proofs.Ytekdphfifdfmbaa
open Go.RowKit
/-! Rows of RunEntry: what the laws do with them (by lawrow.py). -/
def en0 : En := ⟨⟨#[]⟩, 0, false, ⟨#[]⟩⟩
/-- the first k of them, then empty ones -/
def enTo (o : Nat → En) (k i : Nat) : En := if i < k then o i else en0
theorem Try.infoEn : (Try.prog.info? 34).map (fun i => (i.zero, i.size, i.bytes)) = some (some (.agg #[.string ⟨#[]⟩, .int .i64 0, .bool false, .string ⟨#[]⟩]), 4, 48) := by kernel_rfl
theorem mkEn (w : World) (n : Nat) (hn : n ≤ 1048576) : (Instr.makeSlice 26 (.int .i64 n) (.int .i64 n)).run Try.prog w = .ok (.slice (some ⟨w.heap.size, 0, none⟩) n n) (w.alloc (.cells (madeCells #[.string ⟨#[]⟩, .int .i64 0, .bool false, .string ⟨#[]⟩] (n * 4)) 34)) := by
  obtain ⟨i0, hi, hz0, hz1, hz2⟩ := info_parts Try.infoEn
  have := run_make (P := Try.prog) w 26 34 i0 _ Try.underlying26 hi hz0 .i64 .i64 n n (by omega) (Int.le_refl _) (by rw [hz2]; omega) (by omega)
  rw [this, hz1]
  simp only [Int.toNat_natCast, Value.cells]
theorem enTo_put (o : Nat → En) (k p : Nat) : putF (putF (putF (putF (enF (enTo o k)) (k * 4) (.string (o k).ky)) (k * 4 + 1) (.int .i64 (o k).sq)) (k * 4 + 2) (.bool (o k).gn)) (k * 4 + 3) (.string (o k).tx) p = enF (enTo o (k + 1)) p := by
  by_cases e : p / 4 = k
  · have hk : enTo o (k + 1) k = o k := by unfold enTo; rw [if_pos (by omega)]
    have : p = k * 4 ∨ p = k * 4 + 1 ∨ p = k * 4 + 2 ∨ p = k * 4 + 3 := by omega
    rcases this with e | e | e | e <;> subst e
    · rw [enF0, hk]; unfold putF; rw [if_neg (by omega), if_neg (by omega), if_neg (by omega), if_pos rfl]
    · rw [enF1, hk]; unfold putF; rw [if_neg (by omega), if_neg (by omega), if_pos rfl]
    · rw [enF2, hk]; unfold putF; rw [if_neg (by omega), if_pos rfl]
    · rw [enF3, hk]; unfold putF; rw [if_pos rfl]
  · have hk : enTo o (k + 1) (p / 4) = enTo o k (p / 4) := by
      unfold enTo
      by_cases h : p / 4 < k
      · rw [if_pos (by omega), if_pos h]
      · rw [if_neg (by omega), if_neg h]
    unfold putF
    rw [if_neg (by omega), if_neg (by omega), if_neg (by omega), if_neg (by omega)]
    unfold enF
    rw [hk]
set_option maxRecDepth 20000 in
set_option maxHeartbeats 4000000 in
theorem toEns (a : Option Addr) (len cap : Nat) (o : Nat → En) (hl : len ≤ 1048576) (w : World) (h : Ens w a len cap o) :
    Calls Try.prog 61 #[.slice a len cap] w fun e w' => e = .returned (.slice (some ⟨w.heap.size, 0, none⟩) len len) ∧ FRow w' w.heap.size 34 (len * 4) (enF o) ∧ Below w.heap.size w w' := by
  have hmk := fun w => mkEn w len hl
  have HH := hid h
  clear h
  go_enter Try.func61, Try.ntmps61
  go_wp2_with fail
  obtain ⟨W0, hW0⟩ : ∃ W0, W0 = w.alloc (.cells (madeCells #[.string ⟨#[]⟩, .int .i64 0, .bool false, .string ⟨#[]⟩] (len * 4)) 34) := ⟨_, rfl⟩
  have F0 : Hid (FRow W0 w.heap.size 34 (len * 4) (enF (enTo o 0))) := by
    rw [hW0]
    refine FRow.of (RowAt.new _ _ _) (by simp [madeCells]) fun p hp => ?_
    have h2 : p % 4 < 4 := Nat.mod_lt _ (by decide)
    have h3 : enTo o 0 (p / 4) = en0 := by unfold enTo; rw [if_neg (by omega)]
    simp [madeCells, hp, enF, h3, en0]
    rcases (show p % 4 = 0 ∨ p % 4 = 1 ∨ p % 4 = 2 ∨ p % 4 = 3 by omega) with e | e | e | e <;> rw [e] <;> rfl
  have B0 : Hid (Below w.heap.size w W0) := by rw [hW0]; exact (Below.refl _ _).alloc (Nat.le_refl _) _
  rw [← hW0]
  clear hW0 hmk
  go_loopw [4] (fun q wr => ∃ (k : Nat), k ≤ len ∧ q = .int .i64 k ∧ FRow wr w.heap.size 34 (len * 4) (enF (enTo o k)) ∧ Below w.heap.size w wr) (fun q _ => len - (intOf q).toNat)
  case atStart => exact ⟨0, Nat.zero_le _, rfl, F0.out, B0.out⟩
  case round =>
    obtain ⟨k, hk, rfl, hF, hB⟩ := hrel
    have HF := hid hF
    have HB := hid hB
    clear hF hB F0 B0
    by_cases hlt : k < len
    · have hlt' : (k : Int) < (len : Int) := by omega
      have k0 : (0 : Int) ≤ (k : Int) := by omega
      rcases (HH.out.below HB.out).2 with h00 | ⟨b, off, rfl, hbl, hc⟩
      · omega
      obtain ⟨c0, c1, c2, c3⟩ := hc k hlt
      have HP := hid (enTo_put o k)
      obtain ⟨X0, hX0⟩ : ∃ v, v = (o k).ky := ⟨_, rfl⟩
      obtain ⟨X1, hX1⟩ : ∃ v, v = (o k).sq := ⟨_, rfl⟩
      obtain ⟨X2, hX2⟩ : ∃ v, v = (o k).gn := ⟨_, rfl⟩
      obtain ⟨X3, hX3⟩ : ∃ v, v = (o k).tx := ⟨_, rfl⟩
      rw [← hX0] at c0 HP
      rw [← hX1] at c1 HP
      rw [← hX2] at c2 HP
      rw [← hX3] at c3 HP
      clear hc hX0 hX1 hX2 hX3
      go_wp2_with fail
      refine (to1En X0 X1 X2 X3 wr).mono ?_
      rintro e w2 ⟨rfl, hb2⟩
      have F2 := hid (HF.out.below hb2 HF.out.lt)
      have B2 := hid (HB.out.trans (hb2.mono HB.out.size))
      clear hb2 HF HB
      have q0 := (F2.out).cell (show k * 4 < len * 4 by omega)
      rw [enF0] at q0
      have q1 := (F2.out).cell (show k * 4 + 1 < len * 4 by omega)
      rw [enF1] at q1
      have q2 := (F2.out).cell (show k * 4 + 2 < len * 4 by omega)
      rw [enF2] at q2
      have q3 := (F2.out).cell (show k * 4 + 3 < len * 4 by omega)
      rw [enF3] at q3
      have f0 := F2.out.free (k * 4)
      have G1 : FRow (w2.setCell ⟨w.heap.size, k * 4, none⟩ (.string X0)) w.heap.size 34 (len * 4) (putF (enF (enTo o k)) (k * 4) (.string X0)) := F2.out.set (k * 4) (.string X0)
      have f1 := G1.free (k * 4 + 1)
      have G2 : FRow ((w2.setCell ⟨w.heap.size, k * 4, none⟩ (.string X0)).setCell ⟨w.heap.size, k * 4 + 1, none⟩ (.int .i64 X1)) w.heap.size 34 (len * 4) (putF (putF (enF (enTo o k)) (k * 4) (.string X0)) (k * 4 + 1) (.int .i64 X1)) := G1.set (k * 4 + 1) (.int .i64 X1)
      have f2 := G2.free (k * 4 + 2)
      have G3 : FRow (((w2.setCell ⟨w.heap.size, k * 4, none⟩ (.string X0)).setCell ⟨w.heap.size, k * 4 + 1, none⟩ (.int .i64 X1)).setCell ⟨w.heap.size, k * 4 + 2, none⟩ (.bool X2)) w.heap.size 34 (len * 4) (putF (putF (putF (enF (enTo o k)) (k * 4) (.string X0)) (k * 4 + 1) (.int .i64 X1)) (k * 4 + 2) (.bool X2)) := G2.set (k * 4 + 2) (.bool X2)
      have f3 := G3.free (k * 4 + 3)
      have G4 : FRow ((((w2.setCell ⟨w.heap.size, k * 4, none⟩ (.string X0)).setCell ⟨w.heap.size, k * 4 + 1, none⟩ (.int .i64 X1)).setCell ⟨w.heap.size, k * 4 + 2, none⟩ (.bool X2)).setCell ⟨w.heap.size, k * 4 + 3, none⟩ (.string X3)) w.heap.size 34 (len * 4) (putF (putF (putF (putF (enF (enTo o k)) (k * 4) (.string X0)) (k * 4 + 1) (.int .i64 X1)) (k * 4 + 2) (.bool X2)) (k * 4 + 3) (.string X3)) := G3.set (k * 4 + 3) (.string X3)
      have F4 : Hid (FRow ((((w2.setCell ⟨w.heap.size, k * 4, none⟩ (.string X0)).setCell ⟨w.heap.size, k * 4 + 1, none⟩ (.int .i64 X1)).setCell ⟨w.heap.size, k * 4 + 2, none⟩ (.bool X2)).setCell ⟨w.heap.size, k * 4 + 3, none⟩ (.string X3)) w.heap.size 34 (len * 4) (enF (enTo o (k + 1)))) := G4.congr fun p _ => HP.out p
      have B4 : Hid (Below w.heap.size w ((((w2.setCell ⟨w.heap.size, k * 4, none⟩ (.string X0)).setCell ⟨w.heap.size, k * 4 + 1, none⟩ (.int .i64 X1)).setCell ⟨w.heap.size, k * 4 + 2, none⟩ (.bool X2)).setCell ⟨w.heap.size, k * 4 + 3, none⟩ (.string X3))) := ((((B2.out.setCell (Nat.le_refl _) _).setCell (Nat.le_refl _) _).setCell (Nat.le_refl _) _).setCell (Nat.le_refl _) _)
      clear G1 G2 G3 G4 HP F2 B2
      go_wp2
      go_roundw
      case rel => exact ⟨k + 1, by omega, by go_num, F4.out, B4.out⟩
      case measure => simp [intOf]; omega
    · have hlt' : ¬ (k : Int) < (len : Int) := by omega
      have hke : k = len := by omega
      go_wp2
      go_ret
      refine ⟨rfl, HF.out.congr fun p hp => ?_, HB.out⟩
      unfold enF
      rw [show enTo o k (p / 4) = o (p / 4) by unfold enTo; rw [if_pos (by omega)]]
set_option maxRecDepth 20000 in
set_option maxHeartbeats 4000000 in
theorem szEns (a : Option Addr) (n cap : Nat) (o : Nat → En) (l : Nat) (hl : l ≤ 1048576) (hn : n ≤ 9223372036854775807) (hs : ∀ k, k < n → (o k).ky.size ≤ 9223372036854775807 ∧ (o k).tx.size ≤ 9223372036854775807) (w : World) (h : Ens w a n cap o) :
    Calls Try.prog 60 #[.slice a n cap, .int .i64 l] w fun e w' => e = .returned (.int .i64 (if n + szEn o n ≤ l then ((l - n - szEn o n : Nat) : Int) else -1)) ∧ Below w.heap.size w w' := by
  have HH := hid h
  have HS := hid hs
  clear h hs
  obtain ⟨RV, hRV⟩ : ∃ v : Int, v = if n + szEn o n ≤ l then ((l - n - szEn o n : Nat) : Int) else -1 := ⟨_, rfl⟩
  rw [← hRV]
  by_cases h0 : (l : Int) - (n : Int) < 0
  · rw [if_neg (by omega)] at hRV
    subst hRV
    go_enter Try.func60, Try.ntmps60
    go_wp2
    go_ret
    exact ⟨rfl, Below.refl _ _⟩
  obtain ⟨m, hm⟩ : ∃ m : Nat, m = l - n := ⟨_, rfl⟩
  have hme : (l : Int) - (n : Int) = m := by omega
  have HM := hid hm
  have hml : m + n = l ∧ True := ⟨by omega, trivial⟩
  clear hm
  go_enter Try.func60, Try.ntmps60
  go_wp2_with fail
  go_loopw [5, 1] (fun q y wr => ∃ (k : Nat), k ≤ n ∧ q = .int .i64 k ∧ szEn o k ≤ m ∧ y = .int .i64 ((m - szEn o k : Nat) : Int) ∧ Below w.heap.size w wr) (fun q _ _ => n - (intOf q).toNat)
  case atStart => exact ⟨0, Nat.zero_le _, rfl, Nat.zero_le _, by simp [szEn], Below.refl _ _⟩
  case round =>
    obtain ⟨k, hk, rfl, hz, rfl, hB⟩ := hrel
    have HB := hid hB
    clear hB
    by_cases hlt : k < n
    · have hlt' : (k : Int) < (n : Int) := by omega
      have k0 : (0 : Int) ≤ (k : Int) := by omega
      rcases (HH.out.below HB.out).2 with h00 | ⟨b, off, rfl, hbl, hc⟩
      · omega
      obtain ⟨c0, c1, c2, c3⟩ := hc k hlt
      obtain ⟨s0, s3⟩ := HS.out k hlt
      have hz1 : szEn o (k + 1) = szEn o k + (o k).ky.size + (o k).tx.size := rfl
      have hzn := szEn_mono o (show k + 1 ≤ n by omega)
      obtain ⟨X0, hX0⟩ : ∃ v, v = (o k).ky := ⟨_, rfl⟩
      obtain ⟨X1, hX1⟩ : ∃ v, v = (o k).sq := ⟨_, rfl⟩
      obtain ⟨X2, hX2⟩ : ∃ v, v = (o k).gn := ⟨_, rfl⟩
      obtain ⟨X3, hX3⟩ : ∃ v, v = (o k).tx := ⟨_, rfl⟩
      rw [← hX0] at c0 s0 hz1
      rw [← hX1] at c1
      rw [← hX2] at c2
      rw [← hX3] at c3 s3 hz1
      clear hc hX0 hX1 hX2 hX3
      obtain ⟨r, hr⟩ : ∃ r, r = m - szEn o k := ⟨_, rfl⟩
      rw [← hr]
      by_cases hfit : X0.size + X3.size ≤ r
      · obtain ⟨v, hv⟩ : ∃ v : Nat, v = r - X0.size - X3.size := ⟨_, rfl⟩
        have hpos : ¬ (v : Int) < 0 := by omega
        have hv1 : v ≤ 1048576 := by omega
        have Z1 : Hid (szEn o (k + 1) ≤ m ∧ m - szEn o (k + 1) = v) := by constructor <;> omega
        have hif : (if (X0.size : Int) + X3.size ≤ (r : Int) then (r : Int) - X0.size - X3.size else -1) = (v : Int) := by rw [if_pos (by omega)]; omega
        have S := sz1En X0 X1 X2 X3 r (by omega) (by omega) s0 s3 wr
        rw [hif] at S
        have HS2 := hid S
        have HRV := hid hRV
        have HR2 := hid hr
        clear S hif hRV hr hz1 hv
        go_wp2_with fail
        refine HS2.out.mono ?_
        rintro e w2 ⟨rfl, hb2⟩
        have B2 := hid (HB.out.trans (hb2.mono HB.out.size))
        clear hb2 HB c0 c1 c2 c3 hfit hz hzn s0 s3
        go_wp2
        go_roundw
        case rel => exact ⟨k + 1, by omega, by go_num, Z1.out.1, by rw [Z1.out.2], B2.out⟩
        case measure => simp [intOf]; omega
      · have hneg : (-1 : Int) < 0 := by omega
        have hif : (if (X0.size : Int) + X3.size ≤ (r : Int) then (r : Int) - X0.size - X3.size else -1) = -1 := if_neg (by omega)
        rw [if_neg (by omega)] at hRV
        have S := sz1En X0 X1 X2 X3 r (by omega) (by omega) s0 s3 wr
        rw [hif] at S
        have HS2 := hid S
        have HRV := hid hRV
        have HR2 := hid hr
        clear S hif hRV hr hz1
        go_wp2_with fail
        refine HS2.out.mono ?_
        rintro e w2 ⟨rfl, hb2⟩
        have B2 := hid (HB.out.trans (hb2.mono HB.out.size))
        clear hb2 HB
        go_wp2
        go_ret
        exact ⟨by rw [HRV.out]; rfl, B2.out⟩
    · have hlt' : ¬ (k : Int) < (n : Int) := by omega
      have hke : k = n := by omega
      subst hke
      rw [if_pos (by omega)] at hRV
      have HRV := hid hRV
      clear hRV
      go_wp2
      go_ret
      exact ⟨by rw [HRV.out, ← HM.out]; rfl, HB.out⟩
set_option maxRecDepth 20000 in
set_option maxHeartbeats 4000000 in
theorem eqEns (a : Option Addr) (n cap : Nat) (a' : Option Addr) (cap' : Nat) (o : Nat → En) (hl : n ≤ 1048576) (w : World) (h : Ens w a n cap o) (h' : Ens w a' n cap' o) :
    Calls Try.prog 40 #[.slice a n cap, .slice a' n cap'] w fun e w' => e = .returned (.bool true) ∧ Below w.heap.size w w' := by
  have HH := hid h
  have HH' := hid h'
  have dn : ((n : Int) != (n : Int)) = false := by simp
  clear h h'
  go_enter Try.func40, Try.ntmps40
  go_wp2_with fail
  go_loopw [5] (fun q wr => ∃ (k : Nat), k ≤ n ∧ q = .int .i64 k ∧ Below w.heap.size w wr) (fun q _ => n - (intOf q).toNat)
  case atStart => exact ⟨0, Nat.zero_le _, rfl, Below.refl _ _⟩
  case round =>
    obtain ⟨k, hk, rfl, hB⟩ := hrel
    have HB := hid hB
    clear hB
    by_cases hlt : k < n
    · have hlt' : (k : Int) < (n : Int) := by omega
      have k0 : (0 : Int) ≤ (k : Int) := by omega
      rcases (HH.out.below HB.out).2 with h00 | ⟨b, off, rfl, hbl, hc⟩
      · omega
      rcases (HH'.out.below HB.out).2 with h00 | ⟨b', off', rfl, hbl', hc'⟩
      · omega
      obtain ⟨c0, c1, c2, c3⟩ := hc k hlt
      obtain ⟨e0, e1, e2, e3⟩ := hc' k hlt
      obtain ⟨X0, hX0⟩ : ∃ v, v = (o k).ky := ⟨_, rfl⟩
      obtain ⟨X1, hX1⟩ : ∃ v, v = (o k).sq := ⟨_, rfl⟩
      obtain ⟨X2, hX2⟩ : ∃ v, v = (o k).gn := ⟨_, rfl⟩
      obtain ⟨X3, hX3⟩ : ∃ v, v = (o k).tx := ⟨_, rfl⟩
      rw [← hX0] at c0 e0
      rw [← hX1] at c1 e1
      rw [← hX2] at c2 e2
      rw [← hX3] at c3 e3
      clear hc hc' hX0 hX1 hX2 hX3
      go_wp2_with fail
      go_region_held3 (fun wx => (wx.cell? ⟨b, off + k * 4, none⟩ = some (.string X0) ∧ wx.cell? ⟨b, off + k * 4 + 1, none⟩ = some (.int .i64 X1) ∧ wx.cell? ⟨b, off + k * 4 + 2, none⟩ = some (.bool X2) ∧ wx.cell? ⟨b, off + k * 4 + 3, none⟩ = some (.string X3)) ∧ wx.cell? ⟨b', off' + k * 4, none⟩ = some (.string X0) ∧ wx.cell? ⟨b', off' + k * 4 + 1, none⟩ = some (.int .i64 X1) ∧ wx.cell? ⟨b', off' + k * 4 + 2, none⟩ = some (.bool X2) ∧ wx.cell? ⟨b', off' + k * 4 + 3, none⟩ = some (.string X3))
        (first | exact ⟨⟨c0, c1, c2, c3⟩, e0, e1, e2, e3⟩ | exact ⟨⟨(hb2.cell hbl).trans c0, (hb2.cell hbl).trans c1, (hb2.cell hbl).trans c2, (hb2.cell hbl).trans c3⟩, (hb2.cell hbl').trans e0, (hb2.cell hbl').trans e1, (hb2.cell hbl').trans e2, (hb2.cell hbl').trans e3⟩)
        ((go_at_call 23; refine (eqEn X0 X1 X2 X3 _).mono ?_; rintro e w2 ⟨rfl, hb2⟩))
      have N2 : Hid (Below w.heap.size w w2) := HB.out.drew.trans (hb2.mono HB.out.size)
      clear hb2 c0 e0 c1 e1 c2 e2 c3 e3 HB
      go_wp2
      go_roundw
      case rel => exact ⟨k + 1, by omega, by go_num, N2.out⟩
      case measure => simp [intOf]; omega
    · have hlt' : ¬ (k : Int) < (n : Int) := by omega
      go_wp2
      go_ret
      exact ⟨rfl, HB.out⟩
end Go.Proofs.Ytekdphfifdfmbaa
namespace Go.Proofs.Ytekdphfifdfmbaa
open Go.RowKit
/-! A run: what the laws do with it. -/
theorem FRow.setRow9 {w : World} {b : Nat} {t : TypeId} {n : Nat} {f : Nat → Value} (h : FRow w b t n f) (c : Array Value) {g : Nat} (hn : b ≠ g) : FRow (w.setRow g c) b t n f := by
  obtain ⟨cs, h1, h2, h3⟩ := h; exact ⟨cs, h1.otherRow g c hn, h2, h3⟩
set_option maxRecDepth 20000 in
set_option maxHeartbeats 1000000 in
theorem szRn (a : Option Addr) (n cap : Nat) (o : Nat → En) (l : Nat) (hl : l ≤ 1048576) (hn : n ≤ 9223372036854775807) (hs : ∀ k, k < n → (o k).ky.size ≤ 9223372036854775807 ∧ (o k).tx.size ≤ 9223372036854775807) (w : World) (h : Ens w a n cap o) :
    Calls Try.prog 38 #[.agg #[.slice a n cap], .int .i64 l] w fun e w' => e = .returned (.int .i64 (if n + szEn o n ≤ l then ((l - n - szEn o n : Nat) : Int) else -1)) ∧ Below w.heap.size w w' := by
  have K := fun w h => hid (szEns a n cap o l hl hn hs w h)
  have B1 : Below w.heap.size w (w.alloc (.cells #[.slice a n cap] 47)) := (Below.refl _ _).alloc (Nat.le_refl _) _
  have H1 := hid (h.below B1)
  have r1 := (RowAt.new w 47 #[.slice a n cap]).cell 0
  have HB := hid B1
  obtain ⟨W1, hW1⟩ : ∃ W, W = w.alloc (.cells #[.slice a n cap] 47) := ⟨_, rfl⟩
  rw [← hW1] at H1 r1 HB
  clear h B1 hs
  by_cases hf : n + szEn o n ≤ l
  · rw [if_pos hf] at K ⊢
    obtain ⟨v, hv⟩ : ∃ v : Nat, v = l - n - szEn o n := ⟨_, rfl⟩
    rw [← hv] at K ⊢
    have d0 : ¬ (v : Int) < 0 := by omega
    clear hv hf
    go_enter Try.func38, Try.ntmps38
    go_upto_region 1 with fail
    rw [← hW1]
    clear hW1
    go_wp2_with fail
    refine (K _ H1.out).out.mono ?_
    rintro e w2 ⟨rfl, hb⟩
    have B2 := hid (HB.out.trans (hb.mono HB.out.size))
    clear hb
    go_wp2
    go_ret
    exact ⟨rfl, B2.out⟩
  · rw [if_neg hf] at K ⊢
    have d0 : (-1 : Int) < 0 := by omega
    go_enter Try.func38, Try.ntmps38
    go_upto_region 1 with fail
    rw [← hW1]
    clear hW1 hf
    go_wp2_with fail
    refine (K _ H1.out).out.mono ?_
    rintro e w2 ⟨rfl, hb⟩
    have B2 := hid (HB.out.trans (hb.mono HB.out.size))
    clear hb
    go_wp2
    go_ret
    exact ⟨rfl, B2.out⟩
set_option maxRecDepth 20000 in
set_option maxHeartbeats 1000000 in
theorem eqRn (a : Option Addr) (n cap : Nat) (a' : Option Addr) (cap' : Nat) (o : Nat → En) (hl : n ≤ 1048576) (w : World) (h : Ens w a n cap o) (h' : Ens w a' n cap' o) :
    Calls Try.prog 14 #[.agg #[.slice a n cap], .agg #[.slice a' n cap']] w fun e w' => e = .returned (.bool true) ∧ Below w.heap.size w w' := by
  obtain ⟨W2, hW2⟩ : ∃ W, W = (w.alloc (.cells #[.slice a n cap] 28)).alloc (.cells #[.slice a' n cap'] 28) := ⟨_, rfl⟩
  have B2 : Below w.heap.size w W2 := by rw [hW2]; exact balEn (balEn (Below.refl _ _) _) _
  have hJ : RowAt W2 w.heap.size 28 #[.slice a n cap] := by rw [hW2]; exact (RowAt.new _ _ _).alloc _
  have hF : RowAt W2 (w.heap.size + 1) 28 #[.slice a' n cap'] := by rw [hW2]; exact RowAt.next _ _ _ (by rw [size_al])
  have K := hid (eqEns a n cap a' cap' o hl W2 (h.below B2) (h'.below B2))
  have x0 := hJ.cell 0
  have y0 := hF.cell 0
  have HB := hid B2
  clear h h' hJ hF B2
  go_enter Try.func14, Try.ntmps14
  go_upto_region 1 with fail
  rw [← hW2]
  clear hW2
  go_wp2_with fail
  refine K.out.mono ?_
  rintro e w2 ⟨rfl, hb⟩
  have N2 := hid (HB.out.trans (hb.mono HB.out.size))
  clear hb
  go_wp2
  go_ret
  exact ⟨rfl, N2.out⟩
theorem oneRn (a : Option Addr) (n cap : Nat) : (#[.slice a n cap] : Array Value).all (·.oneCell') = true := by simp [Value.oneCell']
set_option maxRecDepth 20000 in
set_option maxHeartbeats 2000000 in
theorem toRn (a : Option Addr) (n cap : Nat) (o : Nat → En) (hl : n ≤ 1048576) (w : World) (h : Ens w a n cap o) :
    Calls Try.prog 39 #[.agg #[.slice a n cap]] w fun e w' => ∃ g, e = .returned (.agg #[.slice (some ⟨g, 0, none⟩) n n]) ∧ FRow w' g 34 (n * 4) (enF o) ∧ w.heap.size ≤ g ∧ Below w.heap.size w w' := by
  obtain ⟨W0, hW0⟩ : ∃ W, W = ((w.alloc (.cells #[.slice a n cap] 47)).alloc (.cells #[.slice none 0 0] 28)).alloc (.cells #[.slice none 0 0] 28) := ⟨_, rfl⟩
  have A0 : RowAt W0 w.heap.size 47 #[.slice a n cap] := by rw [hW0]; exact ((RowAt.new _ _ _).alloc _).alloc _
  have R0 : Hid (RowAt W0 (w.heap.size + 1) 28 #[.slice none 0 0]) := by rw [hW0]; exact (RowAt.next _ _ _ (by rw [size_al])).alloc _
  have O0 : Hid (RowAt W0 (w.heap.size + 1 + 1) 28 #[.slice none 0 0]) := by rw [hW0]; exact RowAt.next _ _ _ (by simp only [size_al])
  have B0 : Hid (Below w.heap.size w W0) := by rw [hW0]; exact balEn (balEn (balEn (Below.refl _ _) _) _) _
  have S0 : Hid (W0.heap.size = w.heap.size + 1 + 1 + 1) := by show _ = _; rw [hW0]; simp only [size_al]
  have K := hid (toEns a n cap o hl W0 (h.below B0.out))
  have a0 := A0.cell 0
  clear h A0
  go_enter Try.func39, Try.ntmps39
  go_upto_region 2 with fail
  rw [← hW0]
  clear hW0
  go_wp2_with fail
  refine K.out.mono ?_
  rintro e w1 ⟨rfl, hF1, hb1⟩
  have R1 := hid (R0.out.below hb1 R0.out.lt)
  have O1 := hid (O0.out.below hb1 O0.out.lt)
  have B1 := hid (B0.out.trans (hb1.mono B0.out.size))
  have F1 := hid hF1
  clear hF1 hb1 K a0
  have o0 : w1.cell? ⟨w.heap.size + 1 + 1, 0, none⟩ = some (.slice none 0 0) := O1.out.cell 0
  have f0 := O1.out.free 0
  obtain ⟨V, hV⟩ : ∃ V : Value, V = .slice (some ⟨W0.heap.size, 0, none⟩) n n := ⟨_, rfl⟩
  obtain ⟨W2, hW2⟩ : ∃ W, W = w1.setCell ⟨w.heap.size + 1 + 1, 0, none⟩ (.slice (some ⟨W0.heap.size, 0, none⟩) n n) := ⟨_, rfl⟩
  have R2 : Hid (RowAt W2 (w.heap.size + 1) 28 #[.slice none 0 0]) := by rw [hW2]; exact R1.out.other _ _ (by simp)
  have o2 : W2.cell? ⟨w.heap.size + 1 + 1, 0, none⟩ = some (.slice (some ⟨W0.heap.size, 0, none⟩) n n) := by rw [hW2]; exact (O1.out.set 0 _).cell 0
  have B2 : Hid (Below w.heap.size w W2) := by rw [hW2]; exact B1.out.setCell (by simp; omega) _
  have F2 : Hid (FRow W2 W0.heap.size 34 (n * 4) (enF o)) := by rw [hW2]; exact F1.out.other _ _ (by have := S0.out; simp; omega)
  have HW2 := hid hW2
  clear hW2 hV
  go_upto_region 3 with fail
  rw [← HW2.out]
  clear o0 f0
  go_wp2_with (refine wpList_store_row rfl 28 (.tmp 2) (.tmp 8) rfl (w.heap.size + 1) #[.slice (some ⟨W0.heap.size, 0, none⟩) n n] rfl rfl _ _ R2.out (by kernel_rfl) rfl (oneRn _ _ _) ?_)
  refine bodyPost_ret (v := .agg #[.slice (some ⟨W0.heap.size, 0, none⟩) n n]) ?_ rfl ⟨W0.heap.size, rfl, F2.out.setRow9 _ (by have := S0.out; omega), by have := S0.out; omega, below_setRow B2.out _ _ (by omega)⟩
  exact results_cell_row Try.results39 _ _ (w.heap.size + 1) _ _ _ _ rfl (R2.out.setRow _) Try.underlying28 rfl (by kernel_rfl)
end Go.Proofs.Ytekdphfifdfmbaa
namespace Go.Proofs.Ytekdphfifdfmbaa
open Go.RowKit
/-! cmp.Compare, cmp.Or and the order of bids. -/
def cmpI (x y : Int) : Int := if x < y then -1 else if y < x then 1 else 0
def orI (x y : Int) : Int := if x ≠ 0 then x else y
set_option maxRecDepth 20000 in
theorem iCompare (x y : Int) (w : World) :
    Calls Try.prog 78 #[.int .i64 x, .int .i64 y] w fun e w' => e = .returned (.int .i64 (cmpI x y)) ∧ w' = w := by
  have N : ∀ (x : Int) (w : World), Calls Try.prog 93 #[.int .i64 x] w fun e w' => e = .returned (.bool false) ∧ w' = w := fun x w => by
    have dm : (x != x) = false := by simp
    go_enter Try.func93, Try.ntmps93
    go_wp2
    go_ret
    exact ⟨rfl, rfl⟩
  have NH := fun x w => hid (N x w)
  clear N
  by_cases h1 : x < y
  · have E : Hid (cmpI x y = -1) := if_pos h1
    have d1 : decide (x < y) = true := by simp; omega
    go_enter Try.func78, Try.ntmps78
    go_wp2_with fail
    refine (NH _ _).out.mono ?_
    rintro e w1 ⟨rfl, rfl⟩
    go_wp2_with fail
    refine (NH _ _).out.mono ?_
    rintro e w2 ⟨rfl, rfl⟩
    go_wp2
    go_ret
    exact ⟨by rw [E.out]; rfl, rfl⟩
  have d1 : decide (x < y) = false := by simp; omega
  by_cases h2 : y < x
  · have E : Hid (cmpI x y = 1) := by show _ = _; unfold cmpI; rw [if_neg h1, if_pos h2]
    have d2 : decide (y < x) = true := by simp; omega
    go_enter Try.func78, Try.ntmps78
    go_wp2_with fail
    refine (NH _ _).out.mono ?_
    rintro e w1 ⟨rfl, rfl⟩
    go_wp2_with fail
    refine (NH _ _).out.mono ?_
    rintro e w2 ⟨rfl, rfl⟩
    go_wp2
    go_ret
    exact ⟨by rw [E.out]; rfl, rfl⟩
  · have d2 : decide (y < x) = false := by simp; omega
    have E : Hid (cmpI x y = 0) := by show _ = _; unfold cmpI; rw [if_neg h1, if_neg h2]
    go_enter Try.func78, Try.ntmps78
    go_wp2_with fail
    refine (NH _ _).out.mono ?_
    rintro e w1 ⟨rfl, rfl⟩
    go_wp2_with fail
    refine (NH _ _).out.mono ?_
    rintro e w2 ⟨rfl, rfl⟩
    go_wp2
    go_ret
    exact ⟨by rw [E.out]; rfl, rfl⟩
set_option maxRecDepth 20000 in
theorem iOr (b : Nat) (x y : Int) (w : World) (c0 : w.cell? ⟨b, 0, none⟩ = some (.int .i64 x)) (c1 : w.cell? ⟨b, 1, none⟩ = some (.int .i64 y)) :
    Calls Try.prog 76 #[.slice (some ⟨b, 0, none⟩) 2 2] w fun e w' => e = .returned (.int .i64 (orI x y)) ∧ w' = w := by
  have C0 := hid c0
  have C1 := hid c1
  clear c0 c1
  go_enter Try.func76, Try.ntmps76
  go_wp2_with fail
  go_loopw [8] (fun q wr => ∃ k : Nat, k ≤ 2 ∧ q = .int .i64 k ∧ (0 < k → x = 0) ∧ (1 < k → y = 0) ∧ wr = w) (fun q _ => 2 - (intOf q).toNat)
  case atStart => exact ⟨0, by omega, rfl, by omega, by omega, rfl⟩
  case round =>
    obtain ⟨k, hk, rfl, h1, h2, rfl⟩ := hrel
    have HH := hid h1
    have H2 := hid h2
    clear h1 h2
    rcases (show k = 0 ∨ k = 1 ∨ k = 2 by omega) with rfl | rfl | rfl
    · have c0 := C0.out
      by_cases e : x = 0
      · have d : (x != 0) = false := by simp [e]
        go_wp2
        go_roundw
        case rel => exact ⟨1, by omega, rfl, fun _ => e, fun h => absurd h (by omega), trivial⟩
        case measure => simp [intOf]
      · have d : (x != 0) = true := by simp [e]
        have E : Hid (orI x y = x) := if_pos e
        go_wp2
        go_ret
        exact ⟨by rw [E.out]; rfl, rfl⟩
    · have c1 := C1.out
      by_cases e : y = 0
      · have d : (y != 0) = false := by simp [e]
        go_wp2
        go_roundw
        case rel => exact ⟨2, by omega, rfl, fun _ => HH.out (by omega), fun _ => e, trivial⟩
        case measure => simp [intOf]
      · have d : (y != 0) = true := by simp [e]
        have E : Hid (orI x y = y) := if_neg (by have := HH.out (by omega); omega)
        go_wp2
        go_ret
        exact ⟨by rw [E.out]; rfl, rfl⟩
    · have E : Hid (orI x y = 0) := by
        show _ = _; unfold orI; rw [if_neg (by have := HH.out (by omega); omega)]; exact H2.out (by omega)
      go_wp2
      go_ret
      exact ⟨by rw [E.out]; rfl, rfl⟩
/-- a bid's cells -/
def bidL (d m s : Int) : List Value := [.int .i64 d, .int .i64 m, .int .i64 s]
end Go.Proofs.Ytekdphfifdfmbaa
namespace Go.Proofs.Ytekdphfifdfmbaa
open Go.RowKit
/-! Runs: when one is right. -/
theorem cmpB_lt : ∀ (a b : List UInt8), (Lib.compareBytes a b < 0 ↔ Op.bytesLess a b = true)
  | [], [] => by simp [Lib.compareBytes, Op.bytesLess]
  | [], _ :: _ => by simp [Lib.compareBytes, Op.bytesLess]
  | _ :: _, [] => by simp [Lib.compareBytes, Op.bytesLess]
  | x :: a, y :: b => by
    have ih := cmpB_lt a b
    unfold Lib.compareBytes Op.bytesLess
    by_cases h1 : x < y
    · simp [h1]
    · by_cases h2 : y < x
      · have : x ≠ y := fun e => by subst e; exact UInt8.lt_irrefl _ h2
        simp [h1, h2, this]
      · have : x = y := UInt8.le_antisymm (UInt8.not_lt.1 h2) (UInt8.not_lt.1 h1)
        simp [this, UInt8.lt_irrefl, ih]
theorem cmpB_zero : ∀ (a b : List UInt8), (Lib.compareBytes a b = 0 ↔ a = b)
  | [], [] => by simp [Lib.compareBytes]
  | [], _ :: _ => by simp [Lib.compareBytes]
  | _ :: _, [] => by simp [Lib.compareBytes]
  | x :: a, y :: b => by
    have ih := cmpB_zero a b
    unfold Lib.compareBytes
    by_cases h1 : x < y
    · have : x ≠ y := fun e => by subst e; exact UInt8.lt_irrefl _ h1
      simp [h1, this]
    · by_cases h2 : y < x
      · have : x ≠ y := fun e => by subst e; exact UInt8.lt_irrefl _ h2
        simp [h1, h2, this]
      · have : x = y := UInt8.le_antisymm (UInt8.not_lt.1 h2) (UInt8.not_lt.1 h1)
        simp [this, UInt8.lt_irrefl, ih]
theorem cmpB_swap : ∀ (a b : List UInt8), Lib.compareBytes b a = - Lib.compareBytes a b
  | [], [] => by simp [Lib.compareBytes]
  | [], _ :: _ => by simp [Lib.compareBytes]
  | _ :: _, [] => by simp [Lib.compareBytes]
  | x :: a, y :: b => by
    have ih := cmpB_swap a b
    unfold Lib.compareBytes
    by_cases h1 : x < y
    · have : ¬ y < x := fun e => UInt8.lt_irrefl _ (UInt8.lt_trans h1 e)
      simp [h1, this]
    · by_cases h2 : y < x
      · simp [h1, h2]
      · simp [h1, h2, ih]
theorem cmpB_bd : ∀ (a b : List UInt8), -1 ≤ Lib.compareBytes a b ∧ Lib.compareBytes a b ≤ 1
  | [], [] => by simp [Lib.compareBytes]
  | [], _ :: _ => by simp [Lib.compareBytes]
  | _ :: _, [] => by simp [Lib.compareBytes]
  | x :: a, y :: b => by
    have ih := cmpB_bd a b
    unfold Lib.compareBytes
    split
    · omega
    · split
      · omega
      · exact ih
theorem baL {a b : ByteArray} (h : a.data.toList = b.data.toList) : a = b := by
  cases a; cases b; simp at h; simp [h]
theorem baT (a : ByteArray) : a.toList = a.data.toList := ByteArray.toList_eq ..
/-- one key ahead of another -/
def kLt (a b : ByteArray) : Bool := Op.bytesLess a.toList b.toList
/-- the order of two keys -/
def kCmp (a b : ByteArray) : Int := Lib.compareBytes a.data.toList b.data.toList
theorem kCmp_lt (a b : ByteArray) : kCmp a b < 0 ↔ kLt a b = true := by unfold kCmp kLt; rw [baT, baT]; exact cmpB_lt _ _
theorem kCmp_zero (a b : ByteArray) : kCmp a b = 0 ↔ a = b := by
  unfold kCmp; rw [cmpB_zero]; exact ⟨baL, fun h => by rw [h]⟩
theorem kCmp_swap (a b : ByteArray) : kCmp b a = - kCmp a b := cmpB_swap _ _
theorem kEq (a b : ByteArray) : (a.toList == b.toList) = decide (a = b) := by
  rw [Bool.eq_iff_iff]
  simp only [beq_iff_eq, decide_eq_true_eq]
  constructor
  · intro h; rw [baT, baT] at h; exact baL h
  · intro h; rw [h]
/-- an entry ahead of another -/
def enLt (a b : En) : Prop := kLt a.ky b.ky = true ∨ (a.ky = b.ky ∧ b.sq < a.sq)
def enCmp (a b : En) : Int := orI (kCmp a.ky b.ky) (cmpI b.sq a.sq)
theorem cmpI_lt (x y : Int) : cmpI x y < 0 ↔ x < y := by
  unfold cmpI; split
  · omega
  · split <;> omega
theorem cmpI_swap (x y : Int) : cmpI y x = - cmpI x y := by
  unfold cmpI
  rcases Int.lt_trichotomy x y with h | h | h
  · simp [h, show ¬ y < x by omega]
  · simp [h]
  · simp [h, show ¬ x < y by omega]
theorem enCmp_lt (a b : En) : enCmp a b < 0 ↔ enLt a b := by
  unfold enCmp enLt orI
  have h1 := kCmp_lt a.ky b.ky
  have h2 := kCmp_zero a.ky b.ky
  have h3 := cmpI_lt b.sq a.sq
  by_cases e : kCmp a.ky b.ky = 0
  · rw [if_neg (fun h => h e), h3]
    have hn : ¬ kLt a.ky b.ky = true := fun h => by have := h1.2 h; omega
    exact ⟨fun h => .inr ⟨h2.1 e, h⟩, fun h => h.elim (fun h => absurd h hn) And.right⟩
  · rw [if_pos e, h1]
    exact ⟨.inl, fun h => h.elim id fun h => absurd (h2.2 h.1) e⟩
theorem enCmp_swap (a b : En) : enCmp b a = - enCmp a b := by
  unfold enCmp orI
  rw [kCmp_swap a.ky b.ky, cmpI_swap b.sq a.sq]
  by_cases e : kCmp a.ky b.ky = 0
  · simp [e]
  · simp [e]
theorem enCmp_zero (a b : En) : enCmp a b = 0 ↔ a.ky = b.ky ∧ a.sq = b.sq := by
  unfold enCmp orI cmpI
  have h2 := kCmp_zero a.ky b.ky
  by_cases e : kCmp a.ky b.ky = 0
  · rw [if_neg (by simpa using e)]
    have he := h2.1 e
    simp only [he, true_and]
    split <;> (try split) <;> omega
  · rw [if_pos e]
    have hne : ¬ a.ky = b.ky := fun h => e (h2.2 h)
    simp [e, hne]
def fitE (e : En) : Prop := 1 ≤ e.ky.size ∧ e.ky.size ≤ 200 ∧ 1 ≤ e.sq ∧ ¬ (e.gn = true ∧ e.tx ≠ ⟨#[]⟩) ∧ e.tx.size ≤ 100000
def sqL (o : Nat → En) (n : Nat) : List Int := (List.range n).map fun i => (o i).sq
theorem sqL_len (o : Nat → En) (n : Nat) : (sqL o n).length = n := by simp [sqL]
theorem sqL_succ (o : Nat → En) (n : Nat) : sqL o (n + 1) = sqL o n ++ [(o n).sq] := by simp [sqL, List.range_succ]
theorem mem_sqL {o : Nat → En} {n : Nat} {v : Int} : v ∈ sqL o n ↔ ∃ i, i < n ∧ (o i).sq = v := by simp [sqL]
/-- the first n entries are right -/
def runTo (n : Nat) (o : Nat → En) : Prop := (∀ k, k < n → fitE (o k)) ∧ (∀ k, 0 < k → k < n → enLt (o (k - 1)) (o k)) ∧ (∀ i j, i < j → j < n → (o i).sq ≠ (o j).sq)
theorem runTo_zero (o : Nat → En) : runTo 0 o := ⟨fun k h => absurd h (by omega), fun k _ h => absurd h (by omega), fun i j _ h => absurd h (by omega)⟩
theorem runTo_succ {n : Nat} {o : Nat → En} : runTo (n + 1) o ↔ runTo n o ∧ fitE (o n) ∧ (0 < n → enLt (o (n - 1)) (o n)) ∧ (o n).sq ∉ sqL o n := by
  constructor
  · rintro ⟨h1, h2, h3⟩
    refine ⟨⟨fun k hk => h1 k (by omega), fun k h0 hk => h2 k h0 (by omega), fun i j hi hj => h3 i j hi (by omega)⟩, h1 n (by omega), fun h0 => h2 n h0 (by omega), ?_⟩
    rw [mem_sqL]
    rintro ⟨i, hi, e⟩
    exact h3 i n hi (by omega) e
  · rintro ⟨⟨h1, h2, h3⟩, g1, g2, g3⟩
    refine ⟨fun k hk => ?_, fun k h0 hk => ?_, fun i j hi hj => ?_⟩
    · by_cases e : k = n
      · subst e; exact g1
      · exact h1 k (by omega)
    · by_cases e : k = n
      · subst e; exact g2 h0
      · exact h2 k h0 (by omega)
    · by_cases e : j = n
      · subst e; exact fun q => g3 (mem_sqL.2 ⟨i, hi, q⟩)
      · exact h3 i j hi (by omega)
theorem runTo_mono {m n : Nat} {o : Nat → En} (h : runTo n o) (hm : m ≤ n) : runTo m o :=
  ⟨fun k hk => h.1 k (by omega), fun k h0 hk => h.2.1 k h0 (by omega), fun i j hi hj => h.2.2 i j hi (by omega)⟩
def runOk (n : Nat) (o : Nat → En) : Prop := n ≤ 1000 ∧ runTo n o
open Classical in
/-- a run's fault -/
noncomputable def runV (n : Nat) (o : Nat → En) : Int := if runOk n o then 0 else 1
theorem runV_ok {n : Nat} {o : Nat → En} (h : runOk n o) : runV n o = 0 := by unfold runV; rw [if_pos h]
theorem runV_no {n : Nat} {o : Nat → En} (h : ¬ runOk n o) : runV n o = 1 := by unfold runV; rw [if_neg h]
/-- each is above the one ahead of it -/
def rise (l : List Int) : Prop := ∀ i, 0 < i → i < l.length → l.getD (i - 1) 0 < l.getD i 0
theorem rise_pw {l : List Int} : rise l ↔ l.Pairwise (· < ·) := by
  constructor
  · intro h
    have step : ∀ d i, i + d + 1 < l.length → l.getD i 0 < l.getD (i + d + 1) 0 := by
      intro d
      induction d with
      | zero => intro i hi; exact h (i + 0 + 1) (by omega) hi
      | succ d ih =>
        intro i hi
        have h1 := ih i (by omega)
        have h2 := h (i + (d + 1) + 1) (by omega) hi
        rw [show i + (d + 1) + 1 - 1 = i + d + 1 by omega] at h2
        omega
    rw [List.pairwise_iff_getElem]
    intro i j hi hj hij
    have := step (j - i - 1) i (by omega)
    rw [show i + (j - i - 1) + 1 = j by omega] at this
    simpa [hi, hj] using this
  · intro h i h0 hi
    rw [List.pairwise_iff_getElem] at h
    have := h (i - 1) i (by omega) hi (by omega)
    simpa [hi, show i - 1 < l.length by omega] using this
def sortI (l : List Int) : List Int := l.mergeSort fun x y => decide (x ≤ y)
theorem sortI_perm (l : List Int) : (sortI l).Perm l := List.mergeSort_perm _ _
theorem sortI_len (l : List Int) : (sortI l).length = l.length := (sortI_perm l).length_eq
theorem sortI_le (l : List Int) : (sortI l).Pairwise (· ≤ ·) := by
  have := List.pairwise_mergeSort (le := fun x y : Int => decide (x ≤ y)) (fun a b c h1 h2 => by simp at *; omega) (fun a b => by simp; omega) l
  exact this.imp (by simp)
theorem rise_sortI (l : List Int) : rise (sortI l) ↔ l.Nodup := by
  rw [rise_pw]
  constructor
  · intro h
    have : (sortI l).Nodup := h.imp (by intro a b h e; omega)
    exact (sortI_perm l).nodup_iff.1 this
  · intro h
    have h1 := (sortI_perm l).nodup_iff.2 h
    exact (sortI_le l).imp₂ (fun a b h e => by omega) h1
theorem sqL_nodup (o : Nat → En) (n : Nat) : (sqL o n).Nodup ↔ ∀ i j, i < j → j < n → (o i).sq ≠ (o j).sq := by
  unfold List.Nodup
  rw [List.pairwise_iff_getElem]
  simp only [sqL, List.length_map, List.length_range, List.getElem_map, List.getElem_range]
  exact ⟨fun h i j hi hj => h i j (by omega) hj hi, fun h i j _ hj hi => h i j hi hj⟩
/-- how the program asks it -/
theorem runTo_iff (n : Nat) (o : Nat → En) : runTo n o ↔ (∀ k, k < n → fitE (o k)) ∧ (∀ k, 0 < k → k < n → ¬ enCmp (o k) (o (k - 1)) < 0) ∧ rise (sortI (sqL o n)) := by
  rw [rise_sortI, sqL_nodup]
  constructor
  · rintro ⟨h1, h2, h3⟩
    refine ⟨h1, fun k h0 hk => ?_, h3⟩
    have := (enCmp_lt _ _).2 (h2 k h0 hk)
    have e := enCmp_swap (o (k - 1)) (o k)
    omega
  · rintro ⟨h1, h2, h3⟩
    refine ⟨h1, fun k h0 hk => ?_, h3⟩
    have h := h2 k h0 hk
    have e := enCmp_swap (o (k - 1)) (o k)
    refine (enCmp_lt _ _).1 ?_
    by_cases q : enCmp (o (k - 1)) (o k) = 0
    · exact absurd ((enCmp_zero _ _).1 q).2 (h3 (k - 1) k (by omega) hk)
    · omega
end Go.Proofs.Ytekdphfifdfmbaa
namespace Go.Proofs.Ytekdphfifdfmbaa
open Go.RowKit
/-! The order of entries: the program's. -/
set_option maxHeartbeats 1000000 in
set_option maxRecDepth 100000 in
theorem iCmpB (a b : ByteArray) (w : World) :
    Calls Try.prog 92 #[.string a, .string b] w fun e w' => e = .returned (.int .i64 (kCmp a b)) ∧ w' = w := by
  go_enter Try.func92, Try.ntmps92
  go_wp2
  rw [run_callFunc_extern Try.func106 (by kernel_rfl) (by kernel_rfl) (by kernel_rfl) (e := Extern.BytealgCompare.compare) (by kernel_rfl), Lib.run_compareString]
  simp only [Result.andThen]
  rw [Oper.upon_value]
  go_wp2
  go_ret
  exact ⟨rfl, rfl⟩
set_option maxHeartbeats 1000000 in
theorem iCmpS (a b : ByteArray) (w : World) :
    Calls Try.prog 77 #[.string a, .string b] w fun e w' => e = .returned (.int .i64 (kCmp a b)) ∧ w' = w := by
  have K := fun w => hid (iCmpB a b w)
  go_enter Try.func77, Try.ntmps77
  go_wp2_with fail
  refine (K _).out.mono ?_
  rintro e w1 ⟨rfl, rfl⟩
  go_wp2
  go_ret
  exact ⟨rfl, rfl⟩
theorem RowAt.nx {X w1 : World} {b : Nat} {t : TypeId} {c : Array Value} (hb : Below X.heap.size X w1) (h : RowAt X b t c) : RowAt w1 b t c := h.below hb h.lt
theorem below_nx {n : Nat} {w X w1 : World} (hb : Below X.heap.size X w1) (h : Hid (Below n w X)) (hn : Hid (n ≤ X.heap.size)) : Hid (Below n w w1) := h.out.trans (hb.mono hn.out)
theorem size_nx {n : Nat} {X w1 : World} (hb : Below X.heap.size X w1) (hn : Hid (n ≤ X.heap.size)) : Hid (n ≤ w1.heap.size) := Nat.le_trans hn.out hb.size
theorem hid_dr {n : Nat} {w X : World} (h : Hid (Below n w X)) : Hid (Below n w X.drew) := h.out.drew
theorem onePl (k : ByteArray) (q : Int) : (#[.string k, .int .i64 q] : Array Value).all (·.oneCell') = true := by simp [Value.oneCell']
set_option maxRecDepth 20000 in
set_option maxHeartbeats 1000000 in
theorem iPlaceOf (k : ByteArray) (q : Int) (g : Bool) (t : ByteArray) (w : World) :
    Calls Try.prog 58 #[.agg #[.string k, .int .i64 q, .bool g, .string t]] w fun e w' => e = .returned (.agg #[.string k, .int .i64 q]) ∧ Below w.heap.size w w' := by
  obtain ⟨W0, hW0⟩ : ∃ W, W = (w.alloc (.cells #[.string k, .int .i64 q, .bool g, .string t] 34)).alloc (.cells #[.string ⟨#[]⟩, .int .i64 0] 87) := ⟨_, rfl⟩
  have R0 : Hid (RowAt W0 (w.heap.size + 1) 87 #[.string ⟨#[]⟩, .int .i64 0]) := by rw [hW0]; exact RowAt.next _ _ _ (by rw [size_al])
  have B0 : Hid (Below w.heap.size w W0) := by rw [hW0]; exact balEn (balEn (Below.refl _ _) _) _
  have A0 : RowAt W0 w.heap.size 34 #[.string k, .int .i64 q, .bool g, .string t] := by rw [hW0]; exact (RowAt.new _ _ _).alloc _
  have a0 := A0.cell 0
  have a1 := A0.cell 1
  clear A0
  go_enter Try.func58, Try.ntmps58
  go_upto_region 1 with fail
  rw [← hW0]
  clear hW0
  go_wp2_with (refine wpList_store_row rfl 87 (.tmp 2) (.tmp 7) rfl (w.heap.size + 1) #[.string k, .int .i64 q] rfl rfl _ _ R0.out (by kernel_rfl) rfl (onePl _ _) ?_)
  refine bodyPost_ret (v := .agg #[.string k, .int .i64 q]) ?_ rfl ⟨rfl, below_setRow B0.out _ _ (by omega)⟩
  exact results_cell_row Try.results58 _ _ (w.heap.size + 1) _ _ _ _ rfl (R0.out.setRow _) Try.underlying87 rfl (by kernel_rfl)
set_option maxRecDepth 20000 in
set_option maxHeartbeats 2000000 in
theorem iCmpP (k : ByteArray) (q : Int) (k' : ByteArray) (q' : Int) (w : World) :
    Calls Try.prog 57 #[.agg #[.string k, .int .i64 q], .agg #[.string k', .int .i64 q']] w fun e w' => e = .returned (.int .i64 (orI (kCmp k k') (cmpI q' q))) ∧ Below w.heap.size w w' := by
  have K1 := fun w => hid (iCmpS k k' w)
  have K2 := fun w => hid (iCompare q' q w)
  obtain ⟨A, hA⟩ : ∃ A, A = kCmp k k' := ⟨_, rfl⟩
  obtain ⟨B, hB⟩ : ∃ B, B = cmpI q' q := ⟨_, rfl⟩
  rw [← hA] at K1 ⊢
  rw [← hB] at K2 ⊢
  clear hA hB
  obtain ⟨W2, hW2⟩ : ∃ W, W = (w.alloc (.cells #[.string k, .int .i64 q] 87)).alloc (.cells #[.string k', .int .i64 q'] 87) := ⟨_, rfl⟩
  have R1 : RowAt W2 w.heap.size 87 #[.string k, .int .i64 q] := by rw [hW2]; exact (RowAt.new _ _ _).alloc _
  have R2 : RowAt W2 (w.heap.size + 1) 87 #[.string k', .int .i64 q'] := by rw [hW2]; exact RowAt.next _ _ _ (by rw [size_al])
  have B2 : Hid (Below w.heap.size w W2) := by rw [hW2]; exact balEn (balEn (Below.refl _ _) _) _
  have x0 := R1.cell 0
  have x1 := R1.cell 1
  have y0 := R2.cell 0
  have y1 := R2.cell 1
  clear R1 R2
  go_enter Try.func57, Try.ntmps57
  go_wp2_with fail
  rw [← hW2]
  clear hW2
  go_region_held3 (fun wx => wx.cell? ⟨w.heap.size, 0, none⟩ = some (.string k) ∧ wx.cell? ⟨w.heap.size, 1, none⟩ = some (.int .i64 q) ∧ wx.cell? ⟨w.heap.size + 1, 0, none⟩ = some (.string k') ∧ wx.cell? ⟨w.heap.size + 1, 1, none⟩ = some (.int .i64 q')) ((first | (go_keep; done))) ((first
    | (go_at_call 77; refine (K1 _).out.mono ?_; rintro e w2 ⟨rfl, rfl⟩)
    | (go_at_call 78; refine (K2 _).out.mono ?_; rintro e w3 ⟨rfl, rfl⟩)
    | (go_at_call 76; refine (iOr _ A B _ ((RowAt.new W2 3 #[.int .i64 A, .int .i64 B]).drew.cell 0) ((RowAt.new W2 3 #[.int .i64 A, .int .i64 B]).drew.cell 1)).mono ?_; rintro e w4 ⟨rfl, rfl⟩)))
  all_goals go_wp2
  all_goals go_ret
  all_goals exact ⟨rfl, (B2.out.alloc B2.out.size _).drew⟩
set_option maxRecDepth 20000 in
set_option maxHeartbeats 2000000 in
theorem iCmpE (k : ByteArray) (q : Int) (g : Bool) (t : ByteArray) (k' : ByteArray) (q' : Int) (g' : Bool) (t' : ByteArray) (w : World) :
    Calls Try.prog 35 #[.agg #[.string k, .int .i64 q, .bool g, .string t], .agg #[.string k', .int .i64 q', .bool g', .string t']] w fun e w' => e = .returned (.int .i64 (enCmp ⟨k, q, g, t⟩ ⟨k', q', g', t'⟩)) ∧ Below w.heap.size w w' := by
  have K1 := fun w => hid (iPlaceOf k q g t w)
  have K2 := fun w => hid (iPlaceOf k' q' g' t' w)
  have K3 := fun w => hid (iCmpP k q k' q' w)
  obtain ⟨A, hA⟩ : ∃ A, A = enCmp ⟨k, q, g, t⟩ ⟨k', q', g', t'⟩ := ⟨_, rfl⟩
  have hA2 : orI (kCmp k k') (cmpI q' q) = A := by rw [hA]; rfl
  rw [hA2] at K3
  rw [← hA]
  clear hA hA2
  obtain ⟨W2, hW2⟩ : ∃ W, W = (w.alloc (.cells #[.string k, .int .i64 q, .bool g, .string t] 34)).alloc (.cells #[.string k', .int .i64 q', .bool g', .string t'] 34) := ⟨_, rfl⟩
  have hJ : RowAt W2 w.heap.size 34 #[.string k, .int .i64 q, .bool g, .string t] := by rw [hW2]; exact (RowAt.new _ _ _).alloc _
  have hF : RowAt W2 (w.heap.size + 1) 34 #[.string k', .int .i64 q', .bool g', .string t'] := by rw [hW2]; exact RowAt.next _ _ _ (by rw [size_al])
  have hW : Hid (Below w.heap.size w W2) := by rw [hW2]; exact balEn (balEn (Below.refl _ _) _) _
  have hN : Hid (w.heap.size ≤ W2.heap.size) := hW.out.size
  have x0 := hJ.cell 0
  have x1 := hJ.cell 1
  have x2 := hJ.cell 2
  have x3 := hJ.cell 3
  have y0 := hF.cell 0
  have y1 := hF.cell 1
  have y2 := hF.cell 2
  have y3 := hF.cell 3
  go_enter Try.func35, Try.ntmps35
  go_wp2_with fail
  rw [← hW2]
  clear hW2
  go_region_held3 (fun wx => (wx.cell? ⟨w.heap.size, 0, none⟩ = some (.string k) ∧ wx.cell? ⟨w.heap.size, 1, none⟩ = some (.int .i64 q) ∧ wx.cell? ⟨w.heap.size, 2, none⟩ = some (.bool g) ∧ wx.cell? ⟨w.heap.size, 3, none⟩ = some (.string t)) ∧ wx.cell? ⟨w.heap.size + 1, 0, none⟩ = some (.string k') ∧ wx.cell? ⟨w.heap.size + 1, 1, none⟩ = some (.int .i64 q') ∧ wx.cell? ⟨w.heap.size + 1, 2, none⟩ = some (.bool g') ∧ wx.cell? ⟨w.heap.size + 1, 3, none⟩ = some (.string t'))
    ((first | (go_keep; done) | exact ⟨⟨hJ.cell 0, hJ.cell 1, hJ.cell 2, hJ.cell 3⟩, hF.cell 0, hF.cell 1, hF.cell 2, hF.cell 3⟩))
    (((first
    | (go_at_call_of 58 (Value.agg #[Value.string k, Value.int IntKind.i64 q, Value.bool g, Value.string t]); refine (K1 _).out.mono ?_)
    | (go_at_call_of 58 (Value.agg #[Value.string k', Value.int IntKind.i64 q', Value.bool g', Value.string t']); refine (K2 _).out.mono ?_)
    | (go_at_call 57; refine (K3 _).out.mono ?_)); rintro e w1 ⟨rfl, hb⟩; replace hJ := RowAt.nx hb hJ; replace hF := RowAt.nx hb hF; (first | replace hW := below_nx hb hW hN | replace hW := below_nx hb (hid_dr hW) hN); replace hN := size_nx hb hN))
  all_goals go_wp2
  all_goals go_ret
  all_goals exact ⟨rfl, hW.out⟩
end Go.Proofs.Ytekdphfifdfmbaa
namespace Go.Proofs.Ytekdphfifdfmbaa
open Go.RowKit
/-! Whether an entry fits, whether entries are in order: the program's. -/
def kFit (k : ByteArray) : Bool := decide (1 ≤ k.size ∧ k.size ≤ 200)
set_option maxRecDepth 20000 in
theorem iKeyFits (k : ByteArray) (hk : k.size ≤ 1048576) (w : World) :
    Calls Try.prog 56 #[.string k] w fun e w' => e = .returned (.bool (kFit k)) ∧ w' = w := by
  by_cases h1 : 1 ≤ k.size
  · have d1 : (1 : Int) ≤ (k.size : Int) := by omega
    by_cases h2 : k.size ≤ 200
    · have d2 : (k.size : Int) ≤ 200 := by omega
      have E : Hid (kFit k = true) := by show _ = _; simp [kFit, h1, h2]
      go_enter Try.func56, Try.ntmps56
      go_wp2
      go_ret
      exact ⟨by rw [E.out]; rfl, rfl⟩
    · have d2 : ¬ (k.size : Int) ≤ 200 := by omega
      have E : Hid (kFit k = false) := by show _ = _; simp [kFit, h2]
      go_enter Try.func56, Try.ntmps56
      go_wp2
      go_ret
      exact ⟨by rw [E.out]; rfl, rfl⟩
  · have d1 : ¬ (1 : Int) ≤ (k.size : Int) := by omega
    have E : Hid (kFit k = false) := by show _ = _; simp only [kFit, h1]; simp
    go_enter Try.func56, Try.ntmps56
    go_wp2
    go_ret
    exact ⟨by rw [E.out]; rfl, rfl⟩
theorem fitE_iff (e : En) : fitE e ↔ kFit e.ky = true ∧ 1 ≤ e.sq ∧ e.tx.size ≤ 100000 ∧ ¬ (e.gn = true ∧ e.tx ≠ ⟨#[]⟩) := by
  unfold fitE kFit
  simp only [decide_eq_true_eq]
  exact ⟨fun ⟨a, b, c, d, e⟩ => ⟨⟨a, b⟩, c, e, d⟩, fun ⟨⟨a, b⟩, c, e, d⟩ => ⟨a, b, c, d, e⟩⟩
theorem txt_ne {t : ByteArray} (h : t ≠ ⟨#[]⟩) : t.toList.isEmpty = false := by
  rw [baT]
  cases e : t.data.toList with
  | nil => exact absurd (baL (b := ⟨#[]⟩) (by rw [e])) h
  | cons x l => rfl
open Classical in
noncomputable def fitB (e : En) : Bool := decide (fitE e)
theorem fitB_t {e : En} (h : fitE e) : fitB e = true := by unfold fitB; simp [h]
theorem fitB_f {e : En} (h : ¬ fitE e) : fitB e = false := by unfold fitB; simp [h]
theorem fitB_iff (e : En) : fitB e = true ↔ fitE e := by unfold fitB; simp
set_option maxRecDepth 20000 in
set_option maxHeartbeats 1000000 in
theorem iEntryFits (k : ByteArray) (q : Int) (g : Bool) (t : ByteArray) (hk : k.size ≤ 1048576) (ht : t.size ≤ 1048576) (w : World) :
    Calls Try.prog 33 #[.agg #[.string k, .int .i64 q, .bool g, .string t]] w fun e w' => e = .returned (.bool (fitB ⟨k, q, g, t⟩)) ∧ Below w.heap.size w w' := by
  have K := fun w => hid (iKeyFits k hk w)
  have F := hid (fitE_iff ⟨k, q, g, t⟩)
  obtain ⟨W0, hW0⟩ : ∃ W, W = w.alloc (.cells #[.string k, .int .i64 q, .bool g, .string t] 34) := ⟨_, rfl⟩
  have A0 : RowAt W0 w.heap.size 34 #[.string k, .int .i64 q, .bool g, .string t] := by rw [hW0]; exact RowAt.new _ _ _
  have B0 : Hid (Below w.heap.size w W0) := by rw [hW0]; exact balEn (Below.refl _ _) _
  have a0 := A0.cell 0
  have a1 := A0.cell 1
  have a2 := A0.cell 2
  have a3 := A0.cell 3
  clear A0
  have HW := hid hW0
  clear hW0
  cases hkf : kFit k with
  | false =>
    rw [hkf] at K
    have F1 : Hid (¬ fitE ⟨k, q, g, t⟩) := fun h => by have := (F.out.1 h).1; simp [hkf] at this
    go_enter Try.func33, Try.ntmps33
    go_upto_region 1 with fail
    rw [← HW.out]
    go_wp2_with fail
    refine (K _).out.mono ?_
    rintro e w1 ⟨rfl, rfl⟩
    go_wp2
    go_ret
    exact ⟨by rw [fitB_f F1.out]; rfl, B0.out⟩
  | true =>
  rw [hkf] at K
  by_cases h1 : 1 ≤ q
  · by_cases h2 : t.size ≤ 100000
    · have d2 : (t.size : Int) ≤ 100000 := by omega
      cases g with
      | false =>
        have F1 : Hid (fitE ⟨k, q, false, t⟩) := F.out.2 ⟨hkf, h1, h2, fun h => by cases h.1⟩
        go_enter Try.func33, Try.ntmps33
        go_upto_region 1 with fail
        rw [← HW.out]
        go_wp2_with fail
        refine (K _).out.mono ?_
        rintro e w1 ⟨rfl, rfl⟩
        go_wp2
        go_ret
        exact ⟨by rw [fitB_t F1.out]; rfl, B0.out⟩
      | true =>
        by_cases h3 : t = ⟨#[]⟩
        · subst h3
          have F1 : Hid (fitE ⟨k, q, true, ⟨#[]⟩⟩) := F.out.2 ⟨hkf, h1, h2, fun h => h.2 rfl⟩
          go_enter Try.func33, Try.ntmps33
          go_upto_region 1 with fail
          rw [← HW.out]
          go_wp2_with fail
          refine (K _).out.mono ?_
          rintro e w1 ⟨rfl, rfl⟩
          go_wp2
          go_ret
          exact ⟨by rw [fitB_t F1.out]; rfl, B0.out⟩
        · have d3 : t.toList.isEmpty = false := txt_ne h3
          have F1 : Hid (¬ fitE ⟨k, q, true, t⟩) := fun h => (F.out.1 h).2.2.2 ⟨rfl, h3⟩
          go_enter Try.func33, Try.ntmps33
          go_upto_region 1 with fail
          rw [← HW.out]
          go_wp2_with fail
          refine (K _).out.mono ?_
          rintro e w1 ⟨rfl, rfl⟩
          go_wp2
          go_ret
          exact ⟨by rw [fitB_f F1.out]; rfl, B0.out⟩
    · have d2 : ¬ (t.size : Int) ≤ 100000 := by omega
      have F1 : Hid (¬ fitE ⟨k, q, g, t⟩) := fun h => h2 (F.out.1 h).2.2.1
      go_enter Try.func33, Try.ntmps33
      go_upto_region 1 with fail
      rw [← HW.out]
      go_wp2_with fail
      refine (K _).out.mono ?_
      rintro e w1 ⟨rfl, rfl⟩
      go_wp2
      go_ret
      exact ⟨by rw [fitB_f F1.out]; rfl, B0.out⟩
  · have F1 : Hid (¬ fitE ⟨k, q, g, t⟩) := fun h => h1 (F.out.1 h).2.1
    go_enter Try.func33, Try.ntmps33
    go_upto_region 1 with fail
    rw [← HW.out]
    go_wp2_with fail
    refine (K _).out.mono ?_
    rintro e w1 ⟨rfl, rfl⟩
    go_wp2
    go_ret
    exact ⟨by rw [fitB_f F1.out]; rfl, B0.out⟩
end Go.Proofs.Ytekdphfifdfmbaa
