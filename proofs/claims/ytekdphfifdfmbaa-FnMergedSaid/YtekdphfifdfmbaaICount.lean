import Derived.Test.YtekdphfifdfmbaaIRun
namespace Go.Proofs.Ytekdphfifdfmbaa
open Go.RowKit
/-! The program's countEntries, runsFit. -/
set_option maxRecDepth 20000 in
set_option maxHeartbeats 2000000 in
theorem iCount (a : Option Addr) (m cap : Nat) (R : Nat → Rn) (hc : cntR R m ≤ 1073741824) (hm : m ≤ 1048576) (w : World) (h : Rns w a m cap R) :
    Calls Try.prog 50 #[.slice a m cap] w fun e w' => e = .returned (.int .i64 (cntR R m : Nat)) ∧ Below w.heap.size w w' := by
  have HH := hid h
  have HC := hid hc
  clear h hc
  go_enter Try.func50, Try.ntmps50
  go_wp2_with fail
  go_loopw [8, 3] (fun q v wr => ∃ k : Nat, k ≤ m ∧ q = .int .i64 k ∧ v = .int .i64 (cntR R k : Nat) ∧ Below w.heap.size w wr) (fun q _ _ => m - (intOf q).toNat)
  case atStart => exact ⟨0, Nat.zero_le _, rfl, rfl, Below.refl _ _⟩
  case round =>
    obtain ⟨k, hk, rfl, rfl, hB⟩ := hrel
    have HB := hid hB
    clear hB
    by_cases hlt : k < m
    · have hlt' : (k : Int) < (m : Int) := by omega
      have k0 : (0 : Int) ≤ (k : Int) := by omega
      rcases (HH.out.below HB.out).2.1 with h00 | ⟨b, off, rfl, hbl, hcc⟩
      · omega
      have c0 := hcc k hlt
      have hkm := cntR_mono R (show k + 1 ≤ m by omega)
      have hN : cntR R k + (R k).n ≤ 1073741824 := Nat.le_trans hkm HC.out
      have HS : Hid (cntR R (k + 1) = cntR R k + (R k).n) := rfl
      obtain ⟨A, hA⟩ : ∃ v, v = (R k).ad := ⟨_, rfl⟩
      obtain ⟨N, hN'⟩ : ∃ v, v = (R k).n := ⟨_, rfl⟩
      obtain ⟨C, hC⟩ : ∃ v, v = (R k).cap := ⟨_, rfl⟩
      obtain ⟨S, hS⟩ : ∃ v, v = cntR R k := ⟨_, rfl⟩
      rw [← hA, ← hN', ← hC] at c0
      rw [← hN', ← hS] at HS hN
      rw [← hS]
      have hw : IntKind.i64.wrap ((S : Int) + (N : Int)) = ((S + N : Nat) : Int) := by simp [IntKind.wrap, IntKind.bits, IntKind.signed]; omega
      clear hcc hA hN' hC hkm hS
      have B1 : Hid (Below w.heap.size w (wr.alloc (.cells #[.slice A N C] 28))) := HB.out.alloc HB.out.size _
      have q1 := (RowAt.new wr 28 #[.slice A N C]).cell 0
      go_upto_region 5 with ((refine wpList_store_row rfl 28 (.tmp 5) (.tmp 11) rfl wr.heap.size #[.slice A N C] rfl rfl _ _ (RowAt.new wr _ _) (by kernel_rfl) rfl (oneSl _ _ _) ?_); rw [World.setRow_alloc_new])
      obtain ⟨W1, hW1⟩ : ∃ W, W = wr.alloc (.cells #[.slice A N C] 28) := ⟨_, rfl⟩
      rw [← hW1] at B1 q1 ⊢
      clear hW1 c0
      go_wp2
      go_roundw
      case rel => exact ⟨k + 1, by omega, by go_num, by rw [HS.out]; rfl, B1.out⟩
      case measure => simp [intOf]; omega
    · have hlt' : ¬ (k : Int) < (m : Int) := by omega
      have hke : k = m := by omega
      subst hke
      go_wp2
      go_ret
      exact ⟨rfl, HB.out⟩
def runsOk (R : Nat → Rn) (m : Nat) : Prop := (∀ k, k < m → runOk (R k).n (R k).o) ∧ cntR R m ≤ 1000
open Classical in
noncomputable def runsB (R : Nat → Rn) (m : Nat) : Bool := decide (runsOk R m)
theorem runsB_iff (R : Nat → Rn) (m : Nat) : runsB R m = true ↔ runsOk R m := by unfold runsB; simp only [decide_eq_true_eq]
theorem runsB_t {R : Nat → Rn} {m : Nat} (h : runsOk R m) : runsB R m = true := (runsB_iff R m).2 h
theorem runsB_f {R : Nat → Rn} {m : Nat} (h : ¬ runsOk R m) : runsB R m = false := by unfold runsB; simp only [decide_eq_false_iff_not]; exact h
/-- the texts of runs are not too long for the walk -/
def RnSz (R : Nat → Rn) (m : Nat) : Prop := ∀ k, k < m → (R k).n ≤ 1048576 ∧ ∀ i, i < (R k).n → ((R k).o i).ky.size ≤ 1048576 ∧ ((R k).o i).tx.size ≤ 1048576
set_option maxRecDepth 20000 in
set_option maxHeartbeats 2000000 in
theorem iRunsFit (a : Option Addr) (m cap : Nat) (R : Nat → Rn) (hc : cntR R m ≤ 1073741824) (hm : m ≤ 1048576) (hz : RnSz R m) (w : World) (h : Rns w a m cap R) :
    Calls Try.prog 28 #[.slice a m cap] w fun e w' => e = .returned (.bool (runsB R m)) ∧ Below w.heap.size w w' := by
  have HH := hid h
  have HC := hid hc
  have HZ := hid hz
  clear h hc hz
  go_enter Try.func28, Try.ntmps28
  go_wp2_with fail
  go_loopw [7] (fun q wr => ∃ k : Nat, k ≤ m ∧ q = .int .i64 k ∧ (∀ i, i < k → runOk (R i).n (R i).o) ∧ Below w.heap.size w wr) (fun q _ => m - (intOf q).toNat)
  case atStart => exact ⟨0, Nat.zero_le _, rfl, fun i hi => absurd hi (by omega), Below.refl _ _⟩
  case round =>
    obtain ⟨k, hk, rfl, hf, hB⟩ := hrel
    have HB := hid hB
    have HF := hid hf
    clear hB hf
    by_cases hlt : k < m
    · have hlt' : (k : Int) < (m : Int) := by omega
      have k0 : (0 : Int) ≤ (k : Int) := by omega
      rcases (HH.out.below HB.out).2.1 with h00 | ⟨b, off, rfl, hbl, hcc⟩
      · omega
      have c0 := hcc k hlt
      have hE := hid (HH.out.2.2 k hlt)
      obtain ⟨z1, z2⟩ := HZ.out k hlt
      have B1 : Hid (Below w.heap.size w (wr.alloc (.cells #[.slice (R k).ad (R k).n (R k).cap] 28))) := HB.out.alloc HB.out.size _
      have K := hid (iRunF (R k).ad (R k).n (R k).cap (R k).o z1 z2 _ (hE.out.below B1.out))
      obtain ⟨V, hV⟩ : ∃ v, v = runV (R k).n (R k).o := ⟨_, rfl⟩
      have HV := hid hV
      rw [← hV] at K
      obtain ⟨A, hA⟩ : ∃ v, v = (R k).ad := ⟨_, rfl⟩
      obtain ⟨N, hN'⟩ : ∃ v, v = (R k).n := ⟨_, rfl⟩
      obtain ⟨C, hC⟩ : ∃ v, v = (R k).cap := ⟨_, rfl⟩
      rw [← hA, ← hN', ← hC] at c0 B1 K
      clear hcc hA hN' hC hE z1 z2 hV
      have q1 := (RowAt.new wr 28 #[.slice A N C]).cell 0
      go_upto_region 4 with ((refine wpList_store_row rfl 28 (.tmp 4) (.tmp 10) rfl wr.heap.size #[.slice A N C] rfl rfl _ _ (RowAt.new wr _ _) (by kernel_rfl) rfl (oneSl _ _ _) ?_); rw [World.setRow_alloc_new])
      obtain ⟨W1, hW1⟩ : ∃ W, W = wr.alloc (.cells #[.slice A N C] 28) := ⟨_, rfl⟩
      rw [← hW1] at B1 q1 K ⊢
      clear hW1 c0
      go_wp2_with fail
      refine K.out.mono ?_
      rintro e w3 ⟨rfl, hb3⟩
      have B3 := hid (B1.out.trans (hb3.mono B1.out.size))
      clear hb3 K q1
      by_cases hok : runOk (R k).n (R k).o
      · have v0 : V = 0 := by rw [HV.out]; exact runV_ok hok
        subst v0
        have F2 : Hid (∀ i, i < k + 1 → runOk (R i).n (R i).o) := fun i hi => by
          by_cases e : i = k
          · subst e; exact hok
          · exact HF.out i (by omega)
        clear hok
        go_wp2
        go_roundw
        case rel => exact ⟨k + 1, by omega, by go_num, F2.out, B3.out⟩
        case measure => simp [intOf]; omega
      · have v1 : V = 1 := by rw [HV.out]; exact runV_no hok
        subst v1
        have E : Hid (runsB R m = false) := runsB_f fun h => hok (h.1 k hlt)
        clear hok
        go_wp2
        go_ret
        exact ⟨by rw [E.out]; rfl, B3.out⟩
    · have hlt' : ¬ (k : Int) < (m : Int) := by omega
      have hke : k = m := by omega
      subst hke
      have K := hid (iCount a k cap R HC.out hm wr (HH.out.below HB.out))
      obtain ⟨S, hS⟩ : ∃ v, v = cntR R k := ⟨_, rfl⟩
      rw [← hS] at K
      by_cases hle : S ≤ 1000
      · have d : (S : Int) ≤ 1000 := by omega
        have E : Hid (runsB R k = true) := runsB_t ⟨HF.out, by omega⟩
        clear hS
        go_wp2_with fail
        refine K.out.mono ?_
        rintro e w3 ⟨rfl, hb3⟩
        have B3 := hid (HB.out.trans (hb3.mono HB.out.size))
        clear hb3 K
        go_wp2
        go_ret
        exact ⟨by rw [E.out]; rfl, B3.out⟩
      · have d : decide ((S : Int) ≤ 1000) = false := by simp; omega
        have E : Hid (runsB R k = false) := runsB_f fun h => by have := h.2; omega
        clear hS
        go_wp2_with fail
        refine K.out.mono ?_
        rintro e w3 ⟨rfl, hb3⟩
        have B3 := hid (HB.out.trans (hb3.mono HB.out.size))
        clear hb3 K
        go_wp2
        go_ret
        exact ⟨by rw [E.out]; rfl, B3.out⟩
end Go.Proofs.Ytekdphfifdfmbaa
