import Derived.Test.YtcbmgpdpjagaoaaGreatI1
import Derived.Test.YtcbmgpdpjagaoaaGreatG1
namespace Go.Proofs.YtcbmgpdpjagaoaaGreat
open Go.RowKit
theorem sqA_one (a : Option Addr) (n cap : Nat) (o : Nat → En) : sqA (fun _ => ⟨a, n, cap, o⟩) 1 = sqL o n := by simp [sqA]
set_option maxRecDepth 20000 in
set_option maxHeartbeats 4000000 in
theorem iRunF (a : Option Addr) (n cap : Nat) (o : Nat → En) (hn : n ≤ 1048576) (hs : ∀ k, k < n → (o k).ky.size ≤ 1048576 ∧ (o k).tx.size ≤ 1048576) (w : World) (h : Ens w a n cap o) :
 Calls Tryz.prog 50 #[.agg #[.slice a n cap]] w fun e w' => e = .returned (.int .i64 (runV n o)) ∧ Below w.heap.size w w' := by
 have HH := hid h; have HS := hid hs; clear h hs; obtain ⟨W1, hW1⟩ : ∃ W, W = w.alloc (.cells #[.slice a n cap] 25) := ⟨_, rfl⟩; have R1 : Hid (RA W1 w.heap.size 25 #[.slice a n cap]) := by rw [hW1]; exact RA.new _ _ _
 have B1 : Hid (Below w.heap.size w W1) := by rw [hW1]; exact balEn (Below.refl _ _) _
 have r1 := R1.out.cell 0; have HW1 := hid hW1; clear hW1
 by_cases hbig : n ≤ 1000
 · have hbig' : ¬ (1000 : Int) < (n : Int) := by omega
   go_enter Tryz.func50, Tryz.ntmps50
   go_upto_region 1 with fail
   rw [← HW1.out]
   go_wp2_with fail
   clear r1
   go_loopw [12] (fun q wr => ∃ k : Nat, k ≤ n ∧ q = .int .i64 k ∧ (∀ i, i < k → fitE (o i)) ∧ Below W1.heap.size W1 wr) (fun q _ => n - (intOf q).toNat)
   case atStart => exact ⟨0, Nat.zero_le _, rfl, fun i hi => absurd hi (by omega), Below.refl _ _⟩
   case round =>
    obtain ⟨k, hk, rfl, hf, hB⟩ := hrel; have HF := hid hf; have HB := hid hB; have HWB := hid (B1.out.trans (hB.mono B1.out.size)); clear hf hB
    by_cases hlt : k < n
    · have hlt' : (k : Int) < (n : Int) := by omega
      have k0 : (0 : Int) ≤ (k : Int) := by omega
      rcases (HH.out.below HWB.out).2 with h00 | ⟨b, off, rfl, hbl, hcc⟩
      · omega
      obtain ⟨c0, c1, c2, c3⟩ := hcc k hlt; obtain ⟨s0, s3⟩ := HS.out k hlt; have HE : Hid ((⟨(o k).ky, (o k).sq, (o k).gn, (o k).tx⟩ : En) = o k) := rfl; obtain ⟨X0, hX0⟩ : ∃ v, v = (o k).ky := ⟨_, rfl⟩; obtain ⟨X1, hX1⟩ : ∃ v, v = (o k).sq := ⟨_, rfl⟩; obtain ⟨X2, hX2⟩ : ∃ v, v = (o k).gn := ⟨_, rfl⟩; obtain ⟨X3, hX3⟩ : ∃ v, v = (o k).tx := ⟨_, rfl⟩; rw [← hX0, ← hX1, ← hX2, ← hX3] at HE; rw [← hX0] at c0 s0; rw [← hX1] at c1; rw [← hX2] at c2; rw [← hX3] at c3 s3; clear hcc hX0 hX1 hX2 hX3; have K := fun w => hid (iEntryFits X0 X1 X2 X3 s0 s3 w); have B2 : Hid (Below W1.heap.size W1 (wr.alloc (.cells #[.string X0, .int .i64 X1, .bool X2, .string X3] 46))) := HB.out.alloc HB.out.size _; have q0 := (RA.new wr 46 #[.string X0, .int .i64 X1, .bool X2, .string X3]).cell 0; have q1 := (RA.new wr 46 #[.string X0, .int .i64 X1, .bool X2, .string X3]).cell 1; have q2 := (RA.new wr 46 #[.string X0, .int .i64 X1, .bool X2, .string X3]).cell 2; have q3 := (RA.new wr 46 #[.string X0, .int .i64 X1, .bool X2, .string X3]).cell 3
      go_upto_region 6 with ((refine wpList_store_row rfl 46 (.tmp 4) (.tmp 15) rfl wr.heap.size #[.string X0, .int .i64 X1, .bool X2, .string X3] rfl rfl _ _ (RA.new wr _ _) (by kernel_rfl) rfl (oneEn4 _ _ _ _) ?_); rw [World.setRow_alloc_new])
      obtain ⟨W2, hW2⟩ : ∃ W, W = wr.alloc (.cells #[.string X0, .int .i64 X1, .bool X2, .string X3] 46) := ⟨_, rfl⟩; rw [← hW2] at B2 q0 q1 q2 q3 ⊢; clear hW2 c0 c1 c2 c3
      go_wp2_with fail
      refine (K _).out.mono ?_
      rintro e w3 ⟨rfl, hb3⟩
      have B3 := hid (B2.out.trans (hb3.mono B2.out.size)); clear hb3 B2 K q0 q1 q2 q3
      by_cases hfit : fitE ⟨X0, X1, X2, X3⟩
      · have F2 : Hid (∀ i, i < k + 1 → fitE (o i)) := fun i hi => by
         by_cases e : i = k
         · subst e; rw [← HE.out]; exact hfit
         · exact HF.out i (by omega)
        rw [fitB_t hfit]; clear hfit
        go_wp2
        go_roundw
        case rel => exact ⟨k + 1, by omega, by go_num, F2.out, B3.out⟩
        case measure => simp [intOf]; omega
      · have E : Hid (runV n o = 1) := runV_no fun h => hfit (by rw [HE.out]; exact h.2.1 k hlt)
        rw [fitB_f hfit]; clear hfit
        go_wp2
        go_ret
        exact ⟨by rw [E.out]; rfl, B1.out.trans (B3.out.mono B1.out.size)⟩
    · have hlt' : ¬ (k : Int) < (n : Int) := by omega
      have hke : k = n := by omega
      subst hke; have HI := hid (runTo_iff k o); have r2 := (R1.out.below HB.out R1.out.lt).cell 0; have K1 := hid (iSorted a k cap o hn wr (HH.out.below HWB.out))
      cases hord : ordB k o with
      | false =>
       have E : Hid (runV k o = 1) := runV_no fun h => by
        have := (ordB_iff k o).2 (HI.out.1 h.2).2.1; rw [hord] at this; cases this
       rw [hord] at K1; clear hord
       go_wp2_with fail
       refine K1.out.mono ?_
       rintro e w3 ⟨rfl, hb3⟩
       have B3 := hid (HB.out.trans (hb3.mono HB.out.size)); clear hb3 K1
       go_wp2
       go_ret
       exact ⟨by rw [E.out]; rfl, B1.out.trans (B3.out.mono B1.out.size)⟩
      | true =>
       have O1 : Hid (∀ i, 0 < i → i < k → ¬ enCmp (o i) (o (i - 1)) < 0) := (ordB_iff k o).1 hord; rw [hord] at K1; clear hord
       go_wp2_with fail
       refine K1.out.mono ?_
       rintro e w3 ⟨rfl, hb3⟩
       have B3 := hid (HB.out.trans (hb3.mono HB.out.size)); have HW3 := hid (B1.out.trans (B3.out.mono B1.out.size)); have r3 := (R1.out.below B3.out R1.out.lt).cell 0; have B4 : Hid (Below w.heap.size w (w3.alloc (.cells #[.slice a k cap] 25))) := HW3.out.alloc HW3.out.size _; have G4 := (RA.new w3 25 #[.slice a k cap]); have N4 : Hid (Rns (w3.alloc (.cells #[.slice a k cap] 25)) (some ⟨w3.heap.size, 0, none⟩) 1 1 (fun _ => ⟨a, k, cap, o⟩)) := ⟨Nat.le_refl _, .inr ⟨_, 0, rfl, G4.lt, fun i hi => by rw [show 0 + i = 0 by omega]; exact G4.cell 0⟩, fun i hi => HH.out.below B4.out⟩; have K2 := hid (iSeqsOf _ _ _ _ (by show 0 + k ≤ 1048576; omega) (by decide) _ N4.out); rw [sqA_one] at K2; clear hb3 K1 r2 G4
       go_wp2_with fail
       refine K2.out.mono ?_
       rintro e w5 ⟨v, rfl, hO5, hb5⟩
       obtain ⟨av, cv, rfl, hI5, hcv⟩ := own_intsR hO5; have B5 := hid (B4.out.trans (hb5.mono B4.out.size)); have hl5 : (sortI (sqL o k)).length ≤ 1048576 := by rw [sortI_len, sqL_len]; exact hn
       have K3 := hid (iRises av _ cv _ hl5 w5 hI5)
       have HL : Hid (riseB (sortI (sqL o k)) = true ↔ runV k o = 0) := by
        show _ ↔ _
        rw [riseB_iff]
        constructor
        · intro h; exact runV_ok ⟨hbig, HI.out.2 ⟨HF.out, O1.out, h⟩⟩
        · intro h
          by_cases q : runOk k o
          · exact (HI.out.1 q.2).2.2
          · rw [runV_no q] at h; cases h
       have HV : Hid (runV k o = 0 ∨ runV k o = 1) := by show _ ∨ _; by_cases q : runOk k o; exact .inl (runV_ok q); exact .inr (runV_no q)
       clear hO5 hb5 hI5 hl5 hcv K2
       cases hr : riseB (sortI (sqL o k)) with
       | true =>
        have E := hid (HL.out.1 hr); rw [hr] at K3; clear hr
        go_wp2_with fail
        refine K3.out.mono ?_
        rintro e w6 ⟨rfl, hb6⟩
        have B6 := hid (B5.out.trans (hb6.mono B5.out.size)); clear hb6 K3
        go_wp2
        go_ret
        exact ⟨by rw [E.out]; rfl, B6.out⟩
       | false =>
        have E : Hid (runV k o = 1) := by
         rcases HV.out with h | h
         · have := HL.out.2 h; rw [hr] at this; cases this
         · exact h
        rw [hr] at K3; clear hr
        go_wp2_with fail
        refine K3.out.mono ?_
        rintro e w6 ⟨rfl, hb6⟩
        have B6 := hid (B5.out.trans (hb6.mono B5.out.size)); clear hb6 K3
        go_wp2
        go_ret
        exact ⟨by rw [E.out]; rfl, B6.out⟩
 · have hbig' : (1000 : Int) < (n : Int) := by omega
   have E : Hid (runV n o = 1) := runV_no fun h => hbig h.1
   go_enter Tryz.func50, Tryz.ntmps50
   go_upto_region 1 with fail
   rw [← HW1.out]
   go_wp2
   go_ret
   exact ⟨by rw [E.out]; rfl, B1.out⟩
end Go.Proofs.YtcbmgpdpjagaoaaGreat
namespace Go.Proofs.YtcbmgpdpjagaoaaGreat
open Go.RowKit
set_option maxRecDepth 20000 in
set_option maxHeartbeats 2000000 in
theorem iCount (a : Option Addr) (m cap : Nat) (R : Nat → Rn) (hc : cntR R m ≤ 1073741824) (hm : m ≤ 1048576) (w : World) (h : Rns w a m cap R) :
 Calls Tryz.prog 51 #[.slice a m cap] w fun e w' => e = .returned (.int .i64 (cntR R m : Nat)) ∧ Below w.heap.size w w' := by
 have HH := hid h; have HC := hid hc; clear h hc
 go_enter Tryz.func51, Tryz.ntmps51
 go_wp2_with fail
 go_loopw [8, 3] (fun q v wr => ∃ k : Nat, k ≤ m ∧ q = .int .i64 k ∧ v = .int .i64 (cntR R k : Nat) ∧ Below w.heap.size w wr) (fun q _ _ => m - (intOf q).toNat)
 case atStart => exact ⟨0, Nat.zero_le _, rfl, rfl, Below.refl _ _⟩
 case round =>
  obtain ⟨k, hk, rfl, rfl, hB⟩ := hrel; have HB := hid hB; clear hB
  by_cases hlt : k < m
  · have hlt' : (k : Int) < (m : Int) := by omega
    have k0 : (0 : Int) ≤ (k : Int) := by omega
    rcases (HH.out.below HB.out).2.1 with h00 | ⟨b, off, rfl, hbl, hcc⟩
    · omega
    have c0 := hcc k hlt; have hkm := cntR_mono R (show k + 1 ≤ m by omega); have hN : cntR R k + (R k).n ≤ 1073741824 := Nat.le_trans hkm HC.out; have HS : Hid (cntR R (k + 1) = cntR R k + (R k).n) := rfl; obtain ⟨A, hA⟩ : ∃ v, v = (R k).ad := ⟨_, rfl⟩; obtain ⟨N, hN'⟩ : ∃ v, v = (R k).n := ⟨_, rfl⟩; obtain ⟨C, hC⟩ : ∃ v, v = (R k).cap := ⟨_, rfl⟩; obtain ⟨S, hS⟩ : ∃ v, v = cntR R k := ⟨_, rfl⟩; rw [← hA, ← hN', ← hC] at c0; rw [← hN', ← hS] at HS hN; rw [← hS]; have hw : IntKind.i64.wrap ((S : Int) + (N : Int)) = ((S + N : Nat) : Int) := by simp [IntKind.wrap, IntKind.bits, IntKind.signed]; omega
    clear hcc hA hN' hC hkm hS; have B1 : Hid (Below w.heap.size w (wr.alloc (.cells #[.slice A N C] 25))) := HB.out.alloc HB.out.size _; have q1 := (RA.new wr 25 #[.slice A N C]).cell 0
    go_upto_region 5 with ((refine wpList_store_row rfl 25 (.tmp 5) (.tmp 11) rfl wr.heap.size #[.slice A N C] rfl rfl _ _ (RA.new wr _ _) (by kernel_rfl) rfl (oneSl _ _ _) ?_); rw [World.setRow_alloc_new])
    obtain ⟨W1, hW1⟩ : ∃ W, W = wr.alloc (.cells #[.slice A N C] 25) := ⟨_, rfl⟩; rw [← hW1] at B1 q1 ⊢; clear hW1 c0
    go_wp2
    go_roundw
    case rel => exact ⟨k + 1, by omega, by go_num, by rw [HS.out]; rfl, B1.out⟩
    case measure => simp [intOf]; omega
  · have hlt' : ¬ (k : Int) < (m : Int) := by omega
    have hke : k = m := by omega
    subst hke
    go_wp2
    go_ret
    exact ⟨rfl, HB.out⟩
def runsOk (R : Nat → Rn) (m : Nat) : Prop := (∀ k, k < m → runOk (R k).n (R k).o) ∧ cntR R m ≤ 1000
open Classical in
noncomputable def runsB (R : Nat → Rn) (m : Nat) : Bool := decide (runsOk R m)
theorem runsB_iff (R : Nat → Rn) (m : Nat) : runsB R m = true ↔ runsOk R m := by unfold runsB; simp only [decide_eq_true_eq]
theorem runsB_t {R : Nat → Rn} {m : Nat} (h : runsOk R m) : runsB R m = true := (runsB_iff R m).2 h
theorem runsB_f {R : Nat → Rn} {m : Nat} (h : ¬ runsOk R m) : runsB R m = false := by unfold runsB; simp only [decide_eq_false_iff_not]; exact h
def RnSz (R : Nat → Rn) (m : Nat) : Prop := ∀ k, k < m → (R k).n ≤ 1048576 ∧ ∀ i, i < (R k).n → ((R k).o i).ky.size ≤ 1048576 ∧ ((R k).o i).tx.size ≤ 1048576
set_option maxRecDepth 20000 in
set_option maxHeartbeats 2000000 in
theorem iRunsFit (a : Option Addr) (m cap : Nat) (R : Nat → Rn) (hc : cntR R m ≤ 1073741824) (hm : m ≤ 1048576) (hz : RnSz R m) (w : World) (h : Rns w a m cap R) :
 Calls Tryz.prog 27 #[.slice a m cap] w fun e w' => e = .returned (.bool (runsB R m)) ∧ Below w.heap.size w w' := by
 have HH := hid h; have HC := hid hc; have HZ := hid hz; clear h hc hz
 go_enter Tryz.func27, Tryz.ntmps27
 go_wp2_with fail
 go_loopw [7] (fun q wr => ∃ k : Nat, k ≤ m ∧ q = .int .i64 k ∧ (∀ i, i < k → runOk (R i).n (R i).o) ∧ Below w.heap.size w wr) (fun q _ => m - (intOf q).toNat)
 case atStart => exact ⟨0, Nat.zero_le _, rfl, fun i hi => absurd hi (by omega), Below.refl _ _⟩
 case round =>
  obtain ⟨k, hk, rfl, hf, hB⟩ := hrel; have HB := hid hB; have HF := hid hf; clear hB hf
  by_cases hlt : k < m
  · have hlt' : (k : Int) < (m : Int) := by omega
    have k0 : (0 : Int) ≤ (k : Int) := by omega
    rcases (HH.out.below HB.out).2.1 with h00 | ⟨b, off, rfl, hbl, hcc⟩
    · omega
    have c0 := hcc k hlt; have hE := hid (HH.out.2.2 k hlt); obtain ⟨z1, z2⟩ := HZ.out k hlt; have B1 : Hid (Below w.heap.size w (wr.alloc (.cells #[.slice (R k).ad (R k).n (R k).cap] 25))) := HB.out.alloc HB.out.size _; have K := hid (iRunF (R k).ad (R k).n (R k).cap (R k).o z1 z2 _ (hE.out.below B1.out)); obtain ⟨V, hV⟩ : ∃ v, v = runV (R k).n (R k).o := ⟨_, rfl⟩; have HV := hid hV; rw [← hV] at K; obtain ⟨A, hA⟩ : ∃ v, v = (R k).ad := ⟨_, rfl⟩; obtain ⟨N, hN'⟩ : ∃ v, v = (R k).n := ⟨_, rfl⟩; obtain ⟨C, hC⟩ : ∃ v, v = (R k).cap := ⟨_, rfl⟩; rw [← hA, ← hN', ← hC] at c0 B1 K; clear hcc hA hN' hC hE z1 z2 hV; have q1 := (RA.new wr 25 #[.slice A N C]).cell 0
    go_upto_region 4 with ((refine wpList_store_row rfl 25 (.tmp 4) (.tmp 10) rfl wr.heap.size #[.slice A N C] rfl rfl _ _ (RA.new wr _ _) (by kernel_rfl) rfl (oneSl _ _ _) ?_); rw [World.setRow_alloc_new])
    obtain ⟨W1, hW1⟩ : ∃ W, W = wr.alloc (.cells #[.slice A N C] 25) := ⟨_, rfl⟩; rw [← hW1] at B1 q1 K ⊢; clear hW1 c0
    go_wp2_with fail
    refine K.out.mono ?_
    rintro e w3 ⟨rfl, hb3⟩
    have B3 := hid (B1.out.trans (hb3.mono B1.out.size)); clear hb3 K q1
    by_cases hok : runOk (R k).n (R k).o
    · have v0 : V = 0 := by rw [HV.out]; exact runV_ok hok
      subst v0
      have F2 : Hid (∀ i, i < k + 1 → runOk (R i).n (R i).o) := fun i hi => by
       by_cases e : i = k
       · subst e; exact hok
       · exact HF.out i (by omega)
      clear hok
      go_wp2
      go_roundw
      case rel => exact ⟨k + 1, by omega, by go_num, F2.out, B3.out⟩
      case measure => simp [intOf]; omega
    · have v1 : V = 1 := by rw [HV.out]; exact runV_no hok
      subst v1; have E : Hid (runsB R m = false) := runsB_f fun h => hok (h.1 k hlt); clear hok
      go_wp2
      go_ret
      exact ⟨by rw [E.out]; rfl, B3.out⟩
  · have hlt' : ¬ (k : Int) < (m : Int) := by omega
    have hke : k = m := by omega
    subst hke; have K := hid (iCount a k cap R HC.out hm wr (HH.out.below HB.out)); obtain ⟨S, hS⟩ : ∃ v, v = cntR R k := ⟨_, rfl⟩; rw [← hS] at K
    by_cases hle : S ≤ 1000
    · have d : (S : Int) ≤ 1000 := by omega
      have E : Hid (runsB R k = true) := runsB_t ⟨HF.out, by omega⟩; clear hS
      go_wp2_with fail
      refine K.out.mono ?_
      rintro e w3 ⟨rfl, hb3⟩
      have B3 := hid (HB.out.trans (hb3.mono HB.out.size)); clear hb3 K
      go_wp2
      go_ret
      exact ⟨by rw [E.out]; rfl, B3.out⟩
    · have d : decide ((S : Int) ≤ 1000) = false := by simp; omega
      have E : Hid (runsB R k = false) := runsB_f fun h => by have := h.2; omega
      clear hS
      go_wp2_with fail
      refine K.out.mono ?_
      rintro e w3 ⟨rfl, hb3⟩
      have B3 := hid (HB.out.trans (hb3.mono HB.out.size)); clear hb3 K
      go_wp2
      go_ret
      exact ⟨by rw [E.out]; rfl, B3.out⟩
end Go.Proofs.YtcbmgpdpjagaoaaGreat
namespace Go.Proofs.YtcbmgpdpjagaoaaGreat
open Go.RowKit
set_option maxRecDepth 20000 in
theorem sInI8 (a : Option Addr) (n cap : Nat) (xs : List Int) (v : Int) (hl : n ≤ 1048576) (w : World) (h : Ints .i64 w a n cap xs) :
 Calls Tryz.prog 23 #[.slice a n cap, .int .i64 v] w fun e w' => e = .returned (.bool (decide (v ∈ xs))) ∧ w' = w := by
 have hx := h.1; have HH := hid h.2.2; clear h
 go_enter Tryz.func23, Tryz.ntmps23
 go_wp2_with fail
 go_loopw [5] (fun r wr => ∃ k : Nat, k ≤ n ∧ r = .int .i64 (k : Int) ∧ (∀ i, i < k → xs.getD i 0 ≠ v) ∧ wr = w) (fun r _ => n - (intOf r).toNat)
 case atStart => exact ⟨0, Nat.zero_le _, rfl, fun i hi => absurd hi (by omega), rfl⟩
 case round =>
  obtain ⟨k, hk, rfl, hno, rfl⟩ := hrel; have HN := hid hno; clear hno
  by_cases hlt : k < n
  · have hlt' : (k : Int) < (n : Int) := by omega
    have k0 : (0 : Int) ≤ (k : Int) := by omega
    rcases HH.out with q0 | ⟨b, off, rfl, hbl, hc⟩
    · omega
    have c0 := hc k hlt; clear hc; obtain ⟨t, ht⟩ : ∃ t, t = xs.getD k 0 := ⟨_, rfl⟩; rw [← ht] at c0; have HT := hid ht; clear ht
    by_cases e : t = v
    · have d : (t == v) = true := by simp [e]
      have E : Hid (decide (v ∈ xs) = true) := by
       show _ = _
       rw [← e, HT.out]; simp [show k < xs.length by omega]
      go_wp2
      go_ret
      exact ⟨by rw [E.out]; rfl, rfl⟩
    · have d : (t == v) = false := by simp [e]
      have N1 : Hid (∀ i, i < k + 1 → xs.getD i 0 ≠ v) := fun i hi => by
       by_cases q : i = k
       · rw [q, ← HT.out]; exact e
       · exact HN.out i (by omega)
      go_wp2
      go_roundw
      case rel => exact ⟨k + 1, hlt, by go_num, N1.out, trivial⟩
      case measure => simp [intOf]; omega
  · have hlt' : ¬ (k : Int) < (n : Int) := by omega
    have E : Hid (decide (v ∈ xs) = false) := by
     show _ = _
     simp only [decide_eq_false_iff_not]; intro q; obtain ⟨i, hi, e⟩ := List.getElem_of_mem q; exact HN.out i (by omega) (by simp [hi, e])
    go_wp2
    go_ret
    exact ⟨by rw [E.out]; rfl, rfl⟩
end Go.Proofs.YtcbmgpdpjagaoaaGreat
