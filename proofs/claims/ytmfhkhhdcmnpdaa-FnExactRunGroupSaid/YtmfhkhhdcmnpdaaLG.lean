import Derived.Test.YtmfhkhhdcmnpdaaK1
import Derived.Test.YtmfhkhhdcmnpdaaK1
import Derived.Test.YtmfhkhhdcmnpdaaK1
import Derived.WalkLawsBesides
import Derived.WalkSpells
import Derived.OpenShut
import Derived.BigQuiet
import Derived.Deep.QuietTactic
import Derived.Deep.RegionHeld3
import Derived.Deep.CutRange
namespace Go.Proofs.Ytmfhkhhdcmnpdaa
open Go.RowKit
/-! GroupEntry: what the laws do with one (by lawrow.py). -/
structure Ge where
  tm : Int
  tx : ByteArray
def Ge.row (o : Ge) : Array Value := #[.int .i64 (o).tm, .string (o).tx]
/-- the cells of a row of them -/
def geF (o : Nat → Ge) (p : Nat) : Value :=
  if p % 2 = 0 then .int .i64 (o (p / 2)).tm else .string (o (p / 2)).tx
theorem geF0 (o : Nat → Ge) (k : Nat) : geF o (k * 2) = .int .i64 (o k).tm := by unfold geF; rw [if_pos (by omega), show (k * 2) / 2 = k by omega]
theorem geF1 (o : Nat → Ge) (k : Nat) : geF o (k * 2 + 1) = .string (o k).tx := by unfold geF; rw [if_neg (by omega), show (k * 2 + 1) / 2 = k by omega]
/-- a slice of them that is read -/
def Ges (w : World) (a : Option Addr) (n cap : Nat) (o : Nat → Ge) : Prop :=
  n ≤ cap ∧ (n = 0 ∨ ∃ b off, a = some ⟨b, off, none⟩ ∧ b < w.heap.size ∧ ∀ k, k < n → w.cell? ⟨b, off + k * 2, none⟩ = some (.int .i64 (o k).tm) ∧ w.cell? ⟨b, off + k * 2 + 1, none⟩ = some (.string (o k).tx))
theorem Ges.below {w w' : World} {a : Option Addr} {n cap : Nat} {o : Nat → Ge} (h : Ges w a n cap o) (hb : Below w.heap.size w w') : Ges w' a n cap o := by
  refine ⟨h.1, ?_⟩
  rcases h.2 with h0 | ⟨b, off, rfl, h1, h2⟩
  · exact Or.inl h0
  · refine Or.inr ⟨b, off, rfl, Nat.lt_of_lt_of_le h1 hb.size, fun k hk => ?_⟩
    obtain ⟨c0, c1⟩ := h2 k hk
    exact ⟨(hb.cell (p := ⟨b, _, none⟩) h1).trans c0, (hb.cell (p := ⟨b, _, none⟩) h1).trans c1⟩
theorem Ges.of_row {w : World} {b : Nat} {t : TypeId} {n : Nat} {o : Nat → Ge} (h : FRow w b t (n * 2) (geF o)) : Ges w (some ⟨b, 0, none⟩) n n o := by
  refine ⟨Nat.le_refl _, Or.inr ⟨b, 0, rfl, h.lt, fun k hk => ?_⟩⟩
  have g0 := h.cell (show k * 2 < n * 2 by omega)
  have g1 := h.cell (show k * 2 + 1 < n * 2 by omega)
  rw [geF0] at g0
  rw [geF1] at g1
  simp only [Nat.zero_add]
  exact ⟨g0, g1⟩
/-- how much the laws count them -/
def szGe (o : Nat → Ge) : Nat → Nat
  | 0 => 0
  | k + 1 => szGe o k + (o k).tx.size
theorem szGe_mono (o : Nat → Ge) {j k : Nat} (h : j ≤ k) : szGe o j ≤ szGe o k := by
  induction k with
  | zero => rw [Nat.le_zero.mp h]; exact Nat.le_refl _
  | succ k ih => rcases Nat.lt_or_ge j (k + 1) with h1 | h1
                 · have := ih (by omega); show _ ≤ szGe o k + _; omega
                 · rw [show j = k + 1 by omega]; exact Nat.le_refl _
theorem balGe {w w' : World} (h : Below w.heap.size w w') (o : Obj) : Below w.heap.size w (w'.alloc o) := h.alloc h.size o
set_option maxRecDepth 20000 in
set_option maxHeartbeats 1000000 in
theorem eqGe (p0 : Int) (p1 : ByteArray) (w : World) :
    Calls Try.prog 87 #[.agg #[.int .i64 p0, .string p1], .agg #[.int .i64 p0, .string p1]] w fun e w' => e = .returned (.bool true) ∧ Below w.heap.size w w' := by
  have d0 : (p0 != p0) = false := by simp
  go_enter Try.func87, Try.ntmps87
  go_wp2
  go_ret
  exact ⟨rfl, ((Below.refl _ _).alloc (Nat.le_refl _) _).alloc (by simp) _⟩
end Go.Proofs.Ytmfhkhhdcmnpdaa
namespace Go.Proofs.Ytmfhkhhdcmnpdaa
open Go.RowKit
/-! Rows of GroupEntry: what the laws do with them (by lawrow.py). -/
def ge0 : Ge := ⟨0, ⟨#[]⟩⟩
/-- the first k of them, then empty ones -/
def geTo (o : Nat → Ge) (k i : Nat) : Ge := if i < k then o i else ge0
set_option maxRecDepth 20000 in
set_option maxHeartbeats 4000000 in
theorem eqGes (a : Option Addr) (n cap : Nat) (a' : Option Addr) (cap' : Nat) (o : Nat → Ge) (hl : n ≤ 1048576) (w : World) (h : Ges w a n cap o) (h' : Ges w a' n cap' o) :
    Calls Try.prog 78 #[.slice a n cap, .slice a' n cap'] w fun e w' => e = .returned (.bool true) ∧ Below w.heap.size w w' := by
  have HH := hid h
  have HH' := hid h'
  have dn : ((n : Int) != (n : Int)) = false := by simp
  clear h h'
  go_enter Try.func78, Try.ntmps78
  go_wp2_with fail
  go_loopw [5] (fun q wr => ∃ (k : Nat), k ≤ n ∧ q = .int .i64 k ∧ Below w.heap.size w wr) (fun q _ => n - (intOf q).toNat)
  case atStart => exact ⟨0, Nat.zero_le _, rfl, Below.refl _ _⟩
  case round =>
    obtain ⟨k, hk, rfl, hB⟩ := hrel
    have HB := hid hB
    clear hB
    by_cases hlt : k < n
    · have hlt' : (k : Int) < (n : Int) := by omega
      have k0 : (0 : Int) ≤ (k : Int) := by omega
      rcases (HH.out.below HB.out).2 with h00 | ⟨b, off, rfl, hbl, hc⟩
      · omega
      rcases (HH'.out.below HB.out).2 with h00 | ⟨b', off', rfl, hbl', hc'⟩
      · omega
      obtain ⟨c0, c1⟩ := hc k hlt
      obtain ⟨e0, e1⟩ := hc' k hlt
      obtain ⟨X0, hX0⟩ : ∃ v, v = (o k).tm := ⟨_, rfl⟩
      obtain ⟨X1, hX1⟩ : ∃ v, v = (o k).tx := ⟨_, rfl⟩
      rw [← hX0] at c0 e0
      rw [← hX1] at c1 e1
      clear hc hc' hX0 hX1
      go_wp2_with fail
      go_region_held3 (fun wx => (wx.cell? ⟨b, off + k * 2, none⟩ = some (.int .i64 X0) ∧ wx.cell? ⟨b, off + k * 2 + 1, none⟩ = some (.string X1)) ∧ wx.cell? ⟨b', off' + k * 2, none⟩ = some (.int .i64 X0) ∧ wx.cell? ⟨b', off' + k * 2 + 1, none⟩ = some (.string X1))
        (first | exact ⟨⟨c0, c1⟩, e0, e1⟩ | exact ⟨⟨(hb2.cell hbl).trans c0, (hb2.cell hbl).trans c1⟩, (hb2.cell hbl').trans e0, (hb2.cell hbl').trans e1⟩)
        ((go_at_call 87; refine (eqGe X0 X1 _).mono ?_; rintro e w2 ⟨rfl, hb2⟩))
      have N2 : Hid (Below w.heap.size w w2) := HB.out.drew.trans (hb2.mono HB.out.size)
      clear hb2 c0 e0 c1 e1 HB
      go_wp2
      go_roundw
      case rel => exact ⟨k + 1, by omega, by go_num, N2.out⟩
      case measure => simp [intOf]; omega
    · have hlt' : ¬ (k : Int) < (n : Int) := by omega
      go_wp2
      go_ret
      exact ⟨rfl, HB.out⟩
end Go.Proofs.Ytmfhkhhdcmnpdaa
namespace Go.Proofs.Ytmfhkhhdcmnpdaa
open Go.RowKit
/-! GroupOut: what the laws do with one (by lawrow.py). -/
structure Gou where
  cd : Int
  vo : Int
  cm : Int
def Gou.row (o : Gou) : Array Value := #[.int .i64 (o).cd, .int .i64 (o).vo, .int .i64 (o).cm]
/-- the cells of a row of them -/
def gouF (o : Nat → Gou) (p : Nat) : Value :=
  if p % 3 = 0 then .int .i64 (o (p / 3)).cd else if p % 3 = 1 then .int .i64 (o (p / 3)).vo else .int .i64 (o (p / 3)).cm
theorem gouF0 (o : Nat → Gou) (k : Nat) : gouF o (k * 3) = .int .i64 (o k).cd := by unfold gouF; rw [if_pos (by omega), show (k * 3) / 3 = k by omega]
theorem gouF1 (o : Nat → Gou) (k : Nat) : gouF o (k * 3 + 1) = .int .i64 (o k).vo := by unfold gouF; rw [if_neg (by omega), if_pos (by omega), show (k * 3 + 1) / 3 = k by omega]
theorem gouF2 (o : Nat → Gou) (k : Nat) : gouF o (k * 3 + 2) = .int .i64 (o k).cm := by unfold gouF; rw [if_neg (by omega), if_neg (by omega), show (k * 3 + 2) / 3 = k by omega]
/-- a slice of them that is read -/
def Gous (w : World) (a : Option Addr) (n cap : Nat) (o : Nat → Gou) : Prop :=
  n ≤ cap ∧ (n = 0 ∨ ∃ b off, a = some ⟨b, off, none⟩ ∧ b < w.heap.size ∧ ∀ k, k < n → w.cell? ⟨b, off + k * 3, none⟩ = some (.int .i64 (o k).cd) ∧ w.cell? ⟨b, off + k * 3 + 1, none⟩ = some (.int .i64 (o k).vo) ∧ w.cell? ⟨b, off + k * 3 + 2, none⟩ = some (.int .i64 (o k).cm))
theorem Gous.below {w w' : World} {a : Option Addr} {n cap : Nat} {o : Nat → Gou} (h : Gous w a n cap o) (hb : Below w.heap.size w w') : Gous w' a n cap o := by
  refine ⟨h.1, ?_⟩
  rcases h.2 with h0 | ⟨b, off, rfl, h1, h2⟩
  · exact Or.inl h0
  · refine Or.inr ⟨b, off, rfl, Nat.lt_of_lt_of_le h1 hb.size, fun k hk => ?_⟩
    obtain ⟨c0, c1, c2⟩ := h2 k hk
    exact ⟨(hb.cell (p := ⟨b, _, none⟩) h1).trans c0, (hb.cell (p := ⟨b, _, none⟩) h1).trans c1, (hb.cell (p := ⟨b, _, none⟩) h1).trans c2⟩
theorem Gous.of_row {w : World} {b : Nat} {t : TypeId} {n : Nat} {o : Nat → Gou} (h : FRow w b t (n * 3) (gouF o)) : Gous w (some ⟨b, 0, none⟩) n n o := by
  refine ⟨Nat.le_refl _, Or.inr ⟨b, 0, rfl, h.lt, fun k hk => ?_⟩⟩
  have g0 := h.cell (show k * 3 < n * 3 by omega)
  have g1 := h.cell (show k * 3 + 1 < n * 3 by omega)
  have g2 := h.cell (show k * 3 + 2 < n * 3 by omega)
  rw [gouF0] at g0
  rw [gouF1] at g1
  rw [gouF2] at g2
  simp only [Nat.zero_add]
  exact ⟨g0, g1, g2⟩
/-- how much the laws count them -/
def szGou (o : Nat → Gou) : Nat → Nat
  | 0 => 0
  | k + 1 => szGou o k
theorem szGou_mono (o : Nat → Gou) {j k : Nat} (h : j ≤ k) : szGou o j ≤ szGou o k := by
  induction k with
  | zero => rw [Nat.le_zero.mp h]; exact Nat.le_refl _
  | succ k ih => rcases Nat.lt_or_ge j (k + 1) with h1 | h1
                 · have := ih (by omega); show _ ≤ szGou o k; omega
                 · rw [show j = k + 1 by omega]; exact Nat.le_refl _
theorem balGou {w w' : World} (h : Below w.heap.size w w') (o : Obj) : Below w.heap.size w (w'.alloc o) := h.alloc h.size o
set_option maxRecDepth 20000 in
set_option maxHeartbeats 1000000 in
theorem eqGou (p0 : Int) (p1 : Int) (p2 : Int) (w : World) :
    Calls Try.prog 65 #[.agg #[.int .i64 p0, .int .i64 p1, .int .i64 p2], .agg #[.int .i64 p0, .int .i64 p1, .int .i64 p2]] w fun e w' => e = .returned (.bool true) ∧ Below w.heap.size w w' := by
  have d0 : (p0 != p0) = false := by simp
  have d1 : (p1 != p1) = false := by simp
  have d2 : (p2 != p2) = false := by simp
  go_enter Try.func65, Try.ntmps65
  go_wp2
  go_ret
  exact ⟨rfl, ((Below.refl _ _).alloc (Nat.le_refl _) _).alloc (by simp) _⟩
end Go.Proofs.Ytmfhkhhdcmnpdaa
namespace Go.Proofs.Ytmfhkhhdcmnpdaa
open Go.RowKit
/-! Rows of GroupOut: what the laws do with them (by lawrow.py). -/
def gou0 : Gou := ⟨0, 0, 0⟩
/-- the first k of them, then empty ones -/
def gouTo (o : Nat → Gou) (k i : Nat) : Gou := if i < k then o i else gou0
set_option maxRecDepth 20000 in
set_option maxHeartbeats 4000000 in
theorem eqGous (a : Option Addr) (n cap : Nat) (a' : Option Addr) (cap' : Nat) (o : Nat → Gou) (hl : n ≤ 1048576) (w : World) (h : Gous w a n cap o) (h' : Gous w a' n cap' o) :
    Calls Try.prog 38 #[.slice a n cap, .slice a' n cap'] w fun e w' => e = .returned (.bool true) ∧ Below w.heap.size w w' := by
  have HH := hid h
  have HH' := hid h'
  have dn : ((n : Int) != (n : Int)) = false := by simp
  clear h h'
  go_enter Try.func38, Try.ntmps38
  go_wp2_with fail
  go_loopw [5] (fun q wr => ∃ (k : Nat), k ≤ n ∧ q = .int .i64 k ∧ Below w.heap.size w wr) (fun q _ => n - (intOf q).toNat)
  case atStart => exact ⟨0, Nat.zero_le _, rfl, Below.refl _ _⟩
  case round =>
    obtain ⟨k, hk, rfl, hB⟩ := hrel
    have HB := hid hB
    clear hB
    by_cases hlt : k < n
    · have hlt' : (k : Int) < (n : Int) := by omega
      have k0 : (0 : Int) ≤ (k : Int) := by omega
      rcases (HH.out.below HB.out).2 with h00 | ⟨b, off, rfl, hbl, hc⟩
      · omega
      rcases (HH'.out.below HB.out).2 with h00 | ⟨b', off', rfl, hbl', hc'⟩
      · omega
      obtain ⟨c0, c1, c2⟩ := hc k hlt
      obtain ⟨e0, e1, e2⟩ := hc' k hlt
      obtain ⟨X0, hX0⟩ : ∃ v, v = (o k).cd := ⟨_, rfl⟩
      obtain ⟨X1, hX1⟩ : ∃ v, v = (o k).vo := ⟨_, rfl⟩
      obtain ⟨X2, hX2⟩ : ∃ v, v = (o k).cm := ⟨_, rfl⟩
      rw [← hX0] at c0 e0
      rw [← hX1] at c1 e1
      rw [← hX2] at c2 e2
      clear hc hc' hX0 hX1 hX2
      go_wp2_with fail
      go_region_held3 (fun wx => (wx.cell? ⟨b, off + k * 3, none⟩ = some (.int .i64 X0) ∧ wx.cell? ⟨b, off + k * 3 + 1, none⟩ = some (.int .i64 X1) ∧ wx.cell? ⟨b, off + k * 3 + 2, none⟩ = some (.int .i64 X2)) ∧ wx.cell? ⟨b', off' + k * 3, none⟩ = some (.int .i64 X0) ∧ wx.cell? ⟨b', off' + k * 3 + 1, none⟩ = some (.int .i64 X1) ∧ wx.cell? ⟨b', off' + k * 3 + 2, none⟩ = some (.int .i64 X2))
        (first | exact ⟨⟨c0, c1, c2⟩, e0, e1, e2⟩ | exact ⟨⟨(hb2.cell hbl).trans c0, (hb2.cell hbl).trans c1, (hb2.cell hbl).trans c2⟩, (hb2.cell hbl').trans e0, (hb2.cell hbl').trans e1, (hb2.cell hbl').trans e2⟩)
        ((go_at_call 65; refine (eqGou X0 X1 X2 _).mono ?_; rintro e w2 ⟨rfl, hb2⟩))
      have N2 : Hid (Below w.heap.size w w2) := HB.out.drew.trans (hb2.mono HB.out.size)
      clear hb2 c0 e0 c1 e1 c2 e2 HB
      go_wp2
      go_roundw
      case rel => exact ⟨k + 1, by omega, by go_num, N2.out⟩
      case measure => simp [intOf]; omega
    · have hlt' : ¬ (k : Int) < (n : Int) := by omega
      go_wp2
      go_ret
      exact ⟨rfl, HB.out⟩
end Go.Proofs.Ytmfhkhhdcmnpdaa
