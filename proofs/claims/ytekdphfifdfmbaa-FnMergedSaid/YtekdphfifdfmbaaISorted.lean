import Derived.Test.YtekdphfifdfmbaaG2
namespace Go.Proofs.Ytekdphfifdfmbaa
open Go.RowKit
/-! slices.IsSortedFunc at entries; rises. -/
open Classical in
noncomputable def ordB (n : Nat) (o : Nat → En) : Bool := decide (∀ k, 0 < k → k < n → ¬ enCmp (o k) (o (k - 1)) < 0)
theorem ordB_t {n : Nat} {o : Nat → En} (h : ∀ k, 0 < k → k < n → ¬ enCmp (o k) (o (k - 1)) < 0) : ordB n o = true := by unfold ordB; simp only [decide_eq_true_eq]; exact h
theorem ordB_f {n : Nat} {o : Nat → En} {k : Nat} (h0 : 0 < k) (hk : k < n) (h : enCmp (o k) (o (k - 1)) < 0) : ordB n o = false := by
  unfold ordB; simp only [decide_eq_false_iff_not]; exact fun q => q k h0 hk h
theorem ordB_iff (n : Nat) (o : Nat → En) : ordB n o = true ↔ ∀ k, 0 < k → k < n → ¬ enCmp (o k) (o (k - 1)) < 0 := by unfold ordB; simp only [decide_eq_true_eq]
set_option maxRecDepth 20000 in
set_option maxHeartbeats 2000000 in
theorem iSorted (a : Option Addr) (n cap : Nat) (o : Nat → En) (hn : n ≤ 1048576) (w : World) (h : Ens w a n cap o) :
    Calls Try.prog 34 #[.slice a n cap, .func (.func 35) #[] #[]] w fun e w' => e = .returned (.bool (ordB n o)) ∧ Below w.heap.size w w' := by
  have HH := hid h
  clear h
  go_enter Try.func34, Try.ntmps34
  go_wp2_with fail
  go_loopw [5] (fun q wr => ∃ i : Int, q = .int .i64 i ∧ -1 ≤ i ∧ i < n ∧ (n = 0 ∨ 0 ≤ i) ∧ (∀ k : Nat, i < (k : Int) → k < n → 0 ≤ enCmp (o k) (o (k - 1))) ∧ Below w.heap.size w wr) (fun q _ => (intOf q).toNat)
  case atStart => exact ⟨_, rfl, by omega, by omega, by omega, fun k h1 h2 => absurd h1 (by omega), Below.refl _ _⟩
  case round =>
    obtain ⟨i, rfl, hi1, hin, hi0, hall, hB⟩ := hrel
    have HB := hid hB
    have HA := hid hall
    clear hB hall
    by_cases hlt : 0 < i
    · obtain ⟨k, rfl⟩ : ∃ k : Nat, i = (k + 1 : Nat) := ⟨i.toNat - 1, by omega⟩
      have hkn : k + 1 < n := by omega
      rcases (HH.out.below HB.out).2 with h00 | ⟨b, off, rfl, hbl, hc⟩
      · omega
      obtain ⟨c0, c1, c2, c3⟩ := hc (k + 1) hkn
      obtain ⟨e0, e1, e2, e3⟩ := hc k (by omega)
      have K := fun w => hid (iCmpE (o (k + 1)).ky (o (k + 1)).sq (o (k + 1)).gn (o (k + 1)).tx (o k).ky (o k).sq (o k).gn (o k).tx w)
      obtain ⟨V, hV⟩ : ∃ V, V = enCmp (o (k + 1)) (o k) := ⟨_, rfl⟩
      have HV := hid hV
      have K' : ∀ w, Hid (Calls Try.prog 35 #[.agg #[.string (o (k + 1)).ky, .int .i64 (o (k + 1)).sq, .bool (o (k + 1)).gn, .string (o (k + 1)).tx], .agg #[.string (o k).ky, .int .i64 (o k).sq, .bool (o k).gn, .string (o k).tx]] w fun e w' => e = .returned (.int .i64 V) ∧ Below w.heap.size w w') := fun w => by rw [hV]; exact K w
      clear K hV
      obtain ⟨X0, hX0⟩ : ∃ v, v = (o (k + 1)).ky := ⟨_, rfl⟩
      obtain ⟨X1, hX1⟩ : ∃ v, v = (o (k + 1)).sq := ⟨_, rfl⟩
      obtain ⟨X2, hX2⟩ : ∃ v, v = (o (k + 1)).gn := ⟨_, rfl⟩
      obtain ⟨X3, hX3⟩ : ∃ v, v = (o (k + 1)).tx := ⟨_, rfl⟩
      obtain ⟨Y0, hY0⟩ : ∃ v, v = (o k).ky := ⟨_, rfl⟩
      obtain ⟨Y1, hY1⟩ : ∃ v, v = (o k).sq := ⟨_, rfl⟩
      obtain ⟨Y2, hY2⟩ : ∃ v, v = (o k).gn := ⟨_, rfl⟩
      obtain ⟨Y3, hY3⟩ : ∃ v, v = (o k).tx := ⟨_, rfl⟩
      rw [← hX0, ← hX1, ← hX2, ← hX3, ← hY0, ← hY1, ← hY2, ← hY3] at K'
      rw [← hX0] at c0
      rw [← hX1] at c1
      rw [← hX2] at c2
      rw [← hX3] at c3
      rw [← hY0] at e0
      rw [← hY1] at e1
      rw [← hY2] at e2
      rw [← hY3] at e3
      clear hc hX0 hX1 hX2 hX3 hY0 hY1 hY2 hY3
      obtain ⟨m, hm⟩ : ∃ m, m = k + 1 := ⟨_, rfl⟩
      rw [← hm] at c0 c1 c2 c3 hlt hin hi1 hkn ⊢
      have m0 : (0 : Int) ≤ (m : Int) := by omega
      have m1 : (m : Int) < (n : Int) := by omega
      have m2 : (m : Int) - 1 = (k : Int) := by omega
      have m3 : (0 : Int) ≤ (k : Int) := by omega
      have m4 : (k : Int) < (n : Int) := by omega
      have m5 : IntKind.i64.wrap ((m : Int) - 1) = (k : Int) := by rw [m2]; simp [IntKind.wrap, IntKind.bits, IntKind.signed]; omega
      have HM := hid hm
      clear hm m2
      go_wp2_with fail
      go_region_held3 (fun wx => (wx.cell? ⟨b, off + m * 4, none⟩ = some (.string X0) ∧ wx.cell? ⟨b, off + m * 4 + 1, none⟩ = some (.int .i64 X1) ∧ wx.cell? ⟨b, off + m * 4 + 2, none⟩ = some (.bool X2) ∧ wx.cell? ⟨b, off + m * 4 + 3, none⟩ = some (.string X3)) ∧ wx.cell? ⟨b, off + k * 4, none⟩ = some (.string Y0) ∧ wx.cell? ⟨b, off + k * 4 + 1, none⟩ = some (.int .i64 Y1) ∧ wx.cell? ⟨b, off + k * 4 + 2, none⟩ = some (.bool Y2) ∧ wx.cell? ⟨b, off + k * 4 + 3, none⟩ = some (.string Y3))
        (first | exact ⟨⟨c0, c1, c2, c3⟩, e0, e1, e2, e3⟩ | exact ⟨⟨(hb2.cell hbl).trans c0, (hb2.cell hbl).trans c1, (hb2.cell hbl).trans c2, (hb2.cell hbl).trans c3⟩, (hb2.cell hbl).trans e0, (hb2.cell hbl).trans e1, (hb2.cell hbl).trans e2, (hb2.cell hbl).trans e3⟩)
        ((go_at_call 35; refine (K' _).out.mono ?_; rintro e w2 ⟨rfl, hb2⟩))
      have N2 : Hid (Below w.heap.size w w2) := HB.out.drew.trans (hb2.mono HB.out.size)
      clear hb2 c0 c1 c2 c3 e0 e1 e2 e3 HB
      by_cases hv : V < 0
      · have E : Hid (ordB n o = false) := ordB_f (k := m) (by omega) hkn (by rw [HM.out]; rw [HV.out] at hv; exact hv)
        go_wp2
        go_ret
        exact ⟨by rw [E.out]; rfl, N2.out⟩
      · have E : Hid (∀ j : Nat, (k : Int) < (j : Int) → j < n → 0 ≤ enCmp (o j) (o (j - 1))) := fun j h1 h2 => by
          have hm := HM.out
          by_cases e : j = k + 1
          · subst e; rw [HV.out] at hv; exact Int.not_lt.1 hv
          · exact HA.out j (by omega) h2
        go_wp2
        go_roundw
        case rel => exact ⟨(k : Int), by rfl, by omega, by omega, by omega, E.out, N2.out⟩
        case measure => have hm := HM.out; simp [intOf]; omega
    · have E : Hid (ordB n o = true) := ordB_t fun k h0 hk => Int.not_lt.2 (HA.out k (by omega) hk)
      go_wp2
      go_ret
      exact ⟨by rw [E.out]; rfl, HB.out⟩
end Go.Proofs.Ytekdphfifdfmbaa
