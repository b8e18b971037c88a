import Derived.Test.YtekdphfifdfmbaaISeqs2
namespace Go.Proofs.Ytekdphfifdfmbaa
open Go.RowKit
/-! The program's RunFault. -/
theorem sqA_one (a : Option Addr) (n cap : Nat) (o : Nat → En) : sqA (fun _ => ⟨a, n, cap, o⟩) 1 = sqL o n := by simp [sqA]
set_option maxRecDepth 20000 in
set_option maxHeartbeats 4000000 in
theorem iRunF (a : Option Addr) (n cap : Nat) (o : Nat → En) (hn : n ≤ 1048576) (hs : ∀ k, k < n → (o k).ky.size ≤ 1048576 ∧ (o k).tx.size ≤ 1048576) (w : World) (h : Ens w a n cap o) :
    Calls Try.prog 11 #[.agg #[.slice a n cap]] w fun e w' => e = .returned (.int .i64 (runV n o)) ∧ Below w.heap.size w w' := by
  have HH := hid h
  have HS := hid hs
  clear h hs
  obtain ⟨W1, hW1⟩ : ∃ W, W = w.alloc (.cells #[.slice a n cap] 28) := ⟨_, rfl⟩
  have R1 : Hid (RowAt W1 w.heap.size 28 #[.slice a n cap]) := by rw [hW1]; exact RowAt.new _ _ _
  have B1 : Hid (Below w.heap.size w W1) := by rw [hW1]; exact balEn (Below.refl _ _) _
  have r1 := R1.out.cell 0
  have HW1 := hid hW1
  clear hW1
  by_cases hbig : n ≤ 1000
  · have hbig' : ¬ (1000 : Int) < (n : Int) := by omega
    go_enter Try.func11, Try.ntmps11
    go_upto_region 1 with fail
    rw [← HW1.out]
    go_wp2_with fail
    clear r1
    go_loopw [12] (fun q wr => ∃ k : Nat, k ≤ n ∧ q = .int .i64 k ∧ (∀ i, i < k → fitE (o i)) ∧ Below W1.heap.size W1 wr) (fun q _ => n - (intOf q).toNat)
    case atStart => exact ⟨0, Nat.zero_le _, rfl, fun i hi => absurd hi (by omega), Below.refl _ _⟩
    case round =>
      obtain ⟨k, hk, rfl, hf, hB⟩ := hrel
      have HF := hid hf
      have HB := hid hB
      have HWB : Hid (Below w.heap.size w wr) := B1.out.trans (hB.mono B1.out.size)
      clear hf hB
      by_cases hlt : k < n
      · have hlt' : (k : Int) < (n : Int) := by omega
        have k0 : (0 : Int) ≤ (k : Int) := by omega
        rcases (HH.out.below HWB.out).2 with h00 | ⟨b, off, rfl, hbl, hcc⟩
        · omega
        obtain ⟨c0, c1, c2, c3⟩ := hcc k hlt
        obtain ⟨s0, s3⟩ := HS.out k hlt
        have HE : Hid ((⟨(o k).ky, (o k).sq, (o k).gn, (o k).tx⟩ : En) = o k) := rfl
        obtain ⟨X0, hX0⟩ : ∃ v, v = (o k).ky := ⟨_, rfl⟩
        obtain ⟨X1, hX1⟩ : ∃ v, v = (o k).sq := ⟨_, rfl⟩
        obtain ⟨X2, hX2⟩ : ∃ v, v = (o k).gn := ⟨_, rfl⟩
        obtain ⟨X3, hX3⟩ : ∃ v, v = (o k).tx := ⟨_, rfl⟩
        rw [← hX0, ← hX1, ← hX2, ← hX3] at HE
        rw [← hX0] at c0 s0
        rw [← hX1] at c1
        rw [← hX2] at c2
        rw [← hX3] at c3 s3
        clear hcc hX0 hX1 hX2 hX3
        have K := fun w => hid (iEntryFits X0 X1 X2 X3 s0 s3 w)
        have B2 : Hid (Below W1.heap.size W1 (wr.alloc (.cells #[.string X0, .int .i64 X1, .bool X2, .string X3] 34))) := HB.out.alloc HB.out.size _
        have q0 := (RowAt.new wr 34 #[.string X0, .int .i64 X1, .bool X2, .string X3]).cell 0
        have q1 := (RowAt.new wr 34 #[.string X0, .int .i64 X1, .bool X2, .string X3]).cell 1
        have q2 := (RowAt.new wr 34 #[.string X0, .int .i64 X1, .bool X2, .string X3]).cell 2
        have q3 := (RowAt.new wr 34 #[.string X0, .int .i64 X1, .bool X2, .string X3]).cell 3
        go_upto_region 6 with ((refine wpList_store_row rfl 34 (.tmp 4) (.tmp 15) rfl wr.heap.size #[.string X0, .int .i64 X1, .bool X2, .string X3] rfl rfl _ _ (RowAt.new wr _ _) (by kernel_rfl) rfl (oneEn4 _ _ _ _) ?_); rw [World.setRow_alloc_new])
        obtain ⟨W2, hW2⟩ : ∃ W, W = wr.alloc (.cells #[.string X0, .int .i64 X1, .bool X2, .string X3] 34) := ⟨_, rfl⟩
        rw [← hW2] at B2 q0 q1 q2 q3 ⊢
        clear hW2 c0 c1 c2 c3
        go_wp2_with fail
        refine (K _).out.mono ?_
        rintro e w3 ⟨rfl, hb3⟩
        have B3 : Hid (Below W1.heap.size W1 w3) := B2.out.trans (hb3.mono B2.out.size)
        clear hb3 B2 K q0 q1 q2 q3
        by_cases hfit : fitE ⟨X0, X1, X2, X3⟩
        · have F2 : Hid (∀ i, i < k + 1 → fitE (o i)) := fun i hi => by
            by_cases e : i = k
            · subst e; rw [← HE.out]; exact hfit
            · exact HF.out i (by omega)
          rw [fitB_t hfit]
          clear hfit
          go_wp2
          go_roundw
          case rel => exact ⟨k + 1, by omega, by go_num, F2.out, B3.out⟩
          case measure => simp [intOf]; omega
        · have E : Hid (runV n o = 1) := runV_no fun h => hfit (by rw [HE.out]; exact h.2.1 k hlt)
          rw [fitB_f hfit]
          clear hfit
          go_wp2
          go_ret
          exact ⟨by rw [E.out]; rfl, B1.out.trans (B3.out.mono B1.out.size)⟩
      · have hlt' : ¬ (k : Int) < (n : Int) := by omega
        have hke : k = n := by omega
        subst hke
        have HI := hid (runTo_iff k o)
        have r2 := (R1.out.below HB.out R1.out.lt).cell 0
        have K1 := hid (iSorted a k cap o hn wr (HH.out.below HWB.out))
        cases hord : ordB k o with
        | false =>
          have E : Hid (runV k o = 1) := runV_no fun h => by
            have := (ordB_iff k o).2 (HI.out.1 h.2).2.1
            rw [hord] at this; cases this
          rw [hord] at K1
          clear hord
          go_wp2_with fail
          refine K1.out.mono ?_
          rintro e w3 ⟨rfl, hb3⟩
          have B3 : Hid (Below W1.heap.size W1 w3) := HB.out.trans (hb3.mono HB.out.size)
          clear hb3 K1
          go_wp2
          go_ret
          exact ⟨by rw [E.out]; rfl, B1.out.trans (B3.out.mono B1.out.size)⟩
        | true =>
          have O1 : Hid (∀ i, 0 < i → i < k → ¬ enCmp (o i) (o (i - 1)) < 0) := (ordB_iff k o).1 hord
          rw [hord] at K1
          clear hord
          go_wp2_with fail
          refine K1.out.mono ?_
          rintro e w3 ⟨rfl, hb3⟩
          have B3 : Hid (Below W1.heap.size W1 w3) := HB.out.trans (hb3.mono HB.out.size)
          have HW3 : Hid (Below w.heap.size w w3) := B1.out.trans (B3.out.mono B1.out.size)
          have r3 := (R1.out.below B3.out R1.out.lt).cell 0
          have B4 : Hid (Below w.heap.size w (w3.alloc (.cells #[.slice a k cap] 28))) := HW3.out.alloc HW3.out.size _
          have G4 := (RowAt.new w3 28 #[.slice a k cap])
          have N4 : Hid (Rns (w3.alloc (.cells #[.slice a k cap] 28)) (some ⟨w3.heap.size, 0, none⟩) 1 1 (fun _ => ⟨a, k, cap, o⟩)) := ⟨Nat.le_refl _, .inr ⟨_, 0, rfl, G4.lt, fun i hi => by rw [show 0 + i = 0 by omega]; exact G4.cell 0⟩, fun i hi => HH.out.below B4.out⟩
          have K2 := hid (iSeqsOf _ _ _ _ (by show 0 + k ≤ 1048576; omega) (by decide) _ N4.out)
          rw [sqA_one] at K2
          clear hb3 K1 r2 G4
          go_wp2_with fail
          refine K2.out.mono ?_
          rintro e w5 ⟨v, rfl, hO5, hb5⟩
          obtain ⟨av, cv, rfl, hI5, hcv⟩ := own_intsR hO5
          have B5 : Hid (Below w.heap.size w w5) := B4.out.trans (hb5.mono B4.out.size)
          have hl5 : (sortI (sqL o k)).length ≤ 1048576 := by rw [sortI_len, sqL_len]; exact hn
          have K3 := hid (iRises av _ cv _ hl5 w5 hI5)
          have HL : Hid (riseB (sortI (sqL o k)) = true ↔ runV k o = 0) := by
            show _ ↔ _
            rw [riseB_iff]
            constructor
            · intro h; exact runV_ok ⟨hbig, HI.out.2 ⟨HF.out, O1.out, h⟩⟩
            · intro h
              by_cases q : runOk k o
              · exact (HI.out.1 q.2).2.2
              · rw [runV_no q] at h; cases h
          have HV : Hid (runV k o = 0 ∨ runV k o = 1) := by show _ ∨ _; by_cases q : runOk k o; exact .inl (runV_ok q); exact .inr (runV_no q)
          clear hO5 hb5 hI5 hl5 hcv K2
          cases hr : riseB (sortI (sqL o k)) with
          | true =>
            have E : Hid (runV k o = 0) := HL.out.1 hr
            rw [hr] at K3
            clear hr
            go_wp2_with fail
            refine K3.out.mono ?_
            rintro e w6 ⟨rfl, hb6⟩
            have B6 : Hid (Below w.heap.size w w6) := B5.out.trans (hb6.mono B5.out.size)
            clear hb6 K3
            go_wp2
            go_ret
            exact ⟨by rw [E.out]; rfl, B6.out⟩
          | false =>
            have E : Hid (runV k o = 1) := by
              rcases HV.out with h | h
              · have := HL.out.2 h; rw [hr] at this; cases this
              · exact h
            rw [hr] at K3
            clear hr
            go_wp2_with fail
            refine K3.out.mono ?_
            rintro e w6 ⟨rfl, hb6⟩
            have B6 : Hid (Below w.heap.size w w6) := B5.out.trans (hb6.mono B5.out.size)
            clear hb6 K3
            go_wp2
            go_ret
            exact ⟨by rw [E.out]; rfl, B6.out⟩
  · have hbig' : (1000 : Int) < (n : Int) := by omega
    have E : Hid (runV n o = 1) := runV_no fun h => hbig h.1
    go_enter Try.func11, Try.ntmps11
    go_upto_region 1 with fail
    rw [← HW1.out]
    go_wp2
    go_ret
    exact ⟨by rw [E.out]; rfl, B1.out⟩
end Go.Proofs.Ytekdphfifdfmbaa
