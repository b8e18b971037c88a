import Derived.Test.YtcfahbcpfjhajaaGreatDoorCanM
import Derived.Test.YtcfahbcpfjhajaaGreatDoorStrK
import Derived.Test.YtcfahbcpfjhajaaGreatDoorPb
import Derived.BigQuiet
namespace Go.Proofs.YtcfahbcpfjhajaaGreatDoor
open Go.RowKit
/-! The specification's l10Find. -/
set_option maxRecDepth 20000 in
set_option maxHeartbeats 2000000 in
theorem sFind (a : Option Addr) (n cap : Nat) (o : Nat → Hp) (x : ByteArray) (hl : n ≤ 1048576) (w : World) (h : Hps w a n cap o) :
    Calls Tryz.prog 90 #[.slice a n cap, .string x] w fun e w' => e = .returned (.int .i64 (fndV o x n)) ∧ w' = w := by
  have HH := hid h.2
  clear h
  go_enter Tryz.func90, Tryz.ntmps90
  go_wp2_with fail
  go_loopw [5] (fun v wr => ∃ k : Nat, k ≤ n ∧ v = .int .i64 (k : Int) ∧ (∀ i, i < k → (o i).nm ≠ x) ∧ wr = w) (fun v _ => n - (intOf v).toNat)
  case atStart => exact ⟨0, Nat.zero_le _, rfl, fun i hi => absurd hi (Nat.not_lt_zero _), rfl⟩
  case round =>
    obtain ⟨k, hk, rfl, hr, rfl⟩ := hrel
    have HR := hid hr
    clear hr
    by_cases hlt : k < n
    · have d3 : (k : Int) < (n : Int) := by omega
      have k0 : (0 : Int) ≤ (k : Int) := by omega
      rcases HH.out with q0 | ⟨b, off, rfl, hbl, hc⟩
      · omega
      have c0 := (hc k hlt).1
      clear hc
      obtain ⟨y, hy⟩ : ∃ y, (o k).nm = y := ⟨_, rfl⟩
      rw [hy] at c0
      have HY := hid hy
      clear hy
      by_cases e : y = x
      · have b1 : (y.toList == x.toList) = true := (ba_beqE y x).trans (decide_eq_true e)
        have E : Hid (fndV o x n = (k : Int)) := by show _ = _; unfold fndV; rw [fndTo_first hlt HR.out (by rw [HY.out]; exact e)]
        clear e
        go_wp2
        go_ret
        exact ⟨by rw [E.out]; rfl, rfl⟩
      · have b1 : (y.toList == x.toList) = false := (ba_beqE y x).trans (decide_eq_false e)
        have N : Hid (∀ i, i < k + 1 → (o i).nm ≠ x) := fun i hi => by
          by_cases q : i = k
          · rw [q, HY.out]; exact e
          · exact HR.out i (by omega)
        clear e
        go_wp2
        go_roundw
        case rel => exact ⟨k + 1, by omega, by go_num, N.out, trivial⟩
        case measure => simp [intOf]; omega
    · have d3 : ¬ (k : Int) < (n : Int) := by omega
      have E : Hid (fndV o x n = -1) := by show _ = _; unfold fndV; rw [fndTo_none.2 fun i hi => HR.out i (by omega)]
      go_wp2
      go_ret
      exact ⟨by rw [E.out]; rfl, rfl⟩
end Go.Proofs.YtcfahbcpfjhajaaGreatDoor
namespace Go.Proofs.YtcfahbcpfjhajaaGreatDoor
open Go.RowKit
/-! The specification's l10Signed: names that are headers, all different. -/
def sgnO (n2 : Nat) (o2 : Nat → Hp) (ts : Nat → ByteArray) (i : Nat) : Prop := (∃ h, h < n2 ∧ (o2 h).nm = ts i) ∧ ∀ k, k < i → ts k ≠ ts i
def sgnP (n2 : Nat) (o2 : Nat → Hp) (ts : Nat → ByteArray) (m : Nat) : Prop := (∀ i, i < m → sgnO n2 o2 ts i) ∧ m ≤ 10
theorem fndV_neg {o : Nat → Hp} {x : ByteArray} {n : Nat} (h : ¬ ∃ i, i < n ∧ (o i).nm = x) : fndV o x n = -1 := by
  unfold fndV
  rw [fndTo_none.2 fun i hi e => h ⟨i, hi, e⟩]
theorem fndV_pos {o : Nat → Hp} {x : ByteArray} {n : Nat} (h : ∃ i, i < n ∧ (o i).nm = x) : ∃ k : Nat, fndV o x n = (k : Int) := by
  unfold fndV
  cases e : fndTo o x n with
  | some k => exact ⟨k, rfl⟩
  | none => obtain ⟨i, hi, q⟩ := h; exact absurd q (fndTo_none.1 e i hi)
theorem ba_beqS2 (a b : ByteArray) : (a.toList == b.toList) = decide (a = b) := by
  have e : ∀ x : ByteArray, x.toList = x.data.toList := fun x => by rw [ByteArray.toList_eq]
  rw [e, e]
  by_cases h : a = b
  · subst h; simp
  · have : a.data.toList ≠ b.data.toList := fun q => h (by cases a; cases b; simp at q; subst q; rfl)
    rw [decide_eq_false h]; exact beq_eq_false_iff_ne.2 this
theorem bdNS {n : Nat} {w w' : World} (h : Below n w w') (k : Nat) : Below n w (w'.drewN k) := ⟨h.1, h.2, h.3, h.4, h.5⟩
set_option maxRecDepth 20000 in
set_option maxHeartbeats 4000000 in
theorem sSigned (mt pt : ByteArray) (a1 : Option Addr) (n1 c1 : Nat) (a2 : Option Addr) (n2 c2 : Nat) (o2 : Nat → Hp) (bd : ByteArray) (at' : Option Addr) (m mc : Nat) (ts : Nat → ByteArray) (h2l : n2 ≤ 1048576) (hm : m ≤ 1048576) (w : World) (h2 : Hps w a2 n2 c2 o2) (hS : Strs w at' m mc ts) :
    Calls Tryz.prog 48 #[.agg #[.string mt, .string pt, .slice a1 n1 c1, .slice a2 n2 c2, .string bd], .slice at' m mc] w fun e w' => e = .returned (.bool (pb (sgnP n2 o2 ts m))) ∧ Below w.heap.size w w' := by
  obtain ⟨W0, hW0⟩ : ∃ W, W = w.alloc (.cells #[.string mt, .string pt, .slice a1 n1 c1, .slice a2 n2 c2, .string bd] 25) := ⟨_, rfl⟩
  have A0 : Hid (RowAt W0 w.heap.size 25 #[.string mt, .string pt, .slice a1 n1 c1, .slice a2 n2 c2, .string bd]) := by rw [hW0]; exact RowAt.new _ _ _
  have B0 : Hid (Below w.heap.size w W0) := by rw [hW0]; exact (Below.refl _ _).alloc (Nat.le_refl _) _
  have H2 := hid (h2.below B0.out)
  have HS := hid (hS.below B0.out)
  have HW0 := hid hW0
  clear h2 hS hW0
  go_enter Tryz.func48, Tryz.ntmps48
  go_wp2_with fail
  rw [← HW0.out]
  go_loopw [5] (fun v wr => ∃ i : Nat, i ≤ m ∧ v = .int .i64 (i : Int) ∧ (∀ q, q < i → sgnO n2 o2 ts q) ∧ RowAt wr w.heap.size 25 #[.string mt, .string pt, .slice a1 n1 c1, .slice a2 n2 c2, .string bd] ∧ Hps wr a2 n2 c2 o2 ∧ Strs wr at' m mc ts ∧ Below w.heap.size w wr) (fun v _ => m - (intOf v).toNat)
  case atStart => exact ⟨0, Nat.zero_le _, rfl, fun i hi => absurd hi (Nat.not_lt_zero _), A0.out, H2.out, HS.out, B0.out⟩
  case round =>
    clear A0 B0 H2 HS
    obtain ⟨i, hi, rfl, hf, hA, hH, hT, hB⟩ := hrel
    have HF := hid hf
    have HA := hid hA
    have HH := hid hH
    have HT := hid hT
    have HB := hid hB
    have x3 := hA.cell 3
    clear hf hA hH hT hB
    by_cases hlt : i < m
    · have d1 : (i : Int) < (m : Int) := by omega
      have i0 : (0 : Int) ≤ (i : Int) := by omega
      have FA : Hid (¬ sgnO n2 o2 ts i → pb (sgnP n2 o2 ts m) = false) := fun h => pb_f fun q => h (q.1 i hlt)
      rcases HT.out.2 with q0 | ⟨b, off, rfl, hbl, hc⟩
      · omega
      have y1 := hc i hlt
      have HC := hid hc
      have KF := fun wx (hh : Hps wx a2 n2 c2 o2) => hid (sFind a2 n2 c2 o2 (ts i) h2l wx hh)
      by_cases g1 : ∃ h, h < n2 ∧ (o2 h).nm = ts i
      · obtain ⟨z, hz⟩ := fndV_pos g1
        simp only [hz] at KF
        have d2 : ¬ (z : Int) < 0 := by omega
        have G1 := hid g1
        clear g1 hz hc
        go_wp2_with fail
        go_quiet ((go_at_call 90; exact Calls.quiet_of_same (KF _ (Hps.below HH.out (bdNS (Below.refl _ _) _))).out))
        go_wp2_with fail
        rename_i nq
        go_loopw [6] (fun v wx => ∃ k : Nat, k ≤ i ∧ v = .int .i64 (k : Int) ∧ (∀ q, q < k → ts q ≠ ts i) ∧ Below wr.heap.size wr wx) (fun v _ => i - (intOf v).toNat)
        case atStart => exact ⟨0, Nat.zero_le _, rfl, fun q hq => absurd hq (Nat.not_lt_zero _), bdNS (Below.refl _ _) _⟩
        case round =>
          obtain ⟨k, hk, rfl, hq, hbx⟩ := hrel
          have HQ := hid hq
          have HBX := hid hbx
          have w1 := (hbx.cell (p := ⟨b, off + i, none⟩) hbl).trans (HC.out i hlt)
          clear hq hbx
          by_cases hki : k < i
          · have e1 : (k : Int) < (i : Int) := by omega
            have k0 : (0 : Int) ≤ (k : Int) := by omega
            have km : (k : Int) < (m : Int) := by omega
            have w2 := (HBX.out.cell (p := ⟨b, off + k, none⟩) hbl).trans (HC.out k (by omega))
            by_cases e : ts k = ts i
            · have N : Hid (pb (sgnP n2 o2 ts m) = false) := FA.out fun h => h.2 k hki e
              have BQ : ((ts k).toList == (ts i).toList) = true := by rw [ba_beqS2]; simp [e]
              obtain ⟨TK, hTK⟩ : ∃ t, t = ts k := ⟨_, rfl⟩
              obtain ⟨TI, hTI⟩ : ∃ t, t = ts i := ⟨_, rfl⟩
              rw [← hTK] at w2 BQ
              rw [← hTI] at w1 BQ
              clear FA e hTK hTI y1
              go_wp2_with fail
              go_quiet (fail)
              go_wp2
              go_ret
              exact ⟨by rw [N.out]; rfl, bdNS (HB.out.trans (HBX.out.mono HB.out.size)) _⟩
            · have Q2 : Hid (∀ q, q < k + 1 → ts q ≠ ts i) := fun q hq => by
                by_cases eq : q = k
                · rw [eq]; exact e
                · exact HQ.out q (by omega)
              have BQ : ((ts k).toList == (ts i).toList) = false := by rw [ba_beqS2]; simp [e]
              obtain ⟨TK, hTK⟩ : ∃ t, t = ts k := ⟨_, rfl⟩
              obtain ⟨TI, hTI⟩ : ∃ t, t = ts i := ⟨_, rfl⟩
              rw [← hTK] at w2 BQ
              rw [← hTI] at w1 BQ
              clear FA e hTK hTI y1
              go_wp2_with fail
              go_quiet (fail)
              go_wp2
              go_roundw
              case rel => exact ⟨k + 1, by omega, by go_num, Q2.out, bdNS HBX.out _⟩
              case measure => simp [intOf]; omega
          · have e1 : ¬ (k : Int) < (i : Int) := by omega
            have hke : k = i := by omega
            subst hke
            have F2 : Hid (∀ q, q < k + 1 → sgnO n2 o2 ts q) := fun q hq => by
              by_cases eq : q = k
              · rw [eq]; exact ⟨G1.out, HQ.out⟩
              · exact HF.out q (by omega)
            clear FA
            go_wp2
            go_roundw
            case rel => exact ⟨k + 1, by omega, by go_num, F2.out, HA.out.below HBX.out HA.out.lt, Hps.below HH.out HBX.out, Strs.below HT.out HBX.out, HB.out.trans (HBX.out.mono HB.out.size)⟩
            case measure => simp [intOf]; omega
      · have hz := fndV_neg g1
        simp only [hz] at KF
        have N : Hid (pb (sgnP n2 o2 ts m) = false) := FA.out fun h => g1 h.1
        clear FA hz hc
        go_wp2_with fail
        go_quiet ((go_at_call 90; exact Calls.quiet_of_same (KF _ (Hps.below HH.out (bdNS (Below.refl _ _) _))).out))
        go_wp2
        go_ret
        exact ⟨by rw [N.out]; rfl, bdNS HB.out _⟩
    · have d1 : ¬ (i : Int) < (m : Int) := by omega
      have him : i = m := by omega
      subst him
      by_cases h10 : i ≤ 10
      · have d2 : (i : Int) ≤ 10 := by omega
        have N : Hid (pb (sgnP n2 o2 ts i) = true) := pb_t ⟨HF.out, h10⟩
        go_wp2
        go_ret
        exact ⟨by rw [N.out]; rfl, HB.out⟩
      · have d2 : ¬ (i : Int) ≤ 10 := by omega
        have N : Hid (pb (sgnP n2 o2 ts i) = false) := pb_f fun h => h10 h.2
        go_wp2
        go_ret
        exact ⟨by rw [N.out]; rfl, HB.out⟩
end Go.Proofs.YtcfahbcpfjhajaaGreatDoor
