import Derived.Test.YtmhkelfmciepaaaGrI4
namespace Go.Proofs.Ytmhkelfmciepaaa
open Go.RowKit
set_option linter.unusedVariables false
/-! The program's matching and counting. -/
set_option maxRecDepth 20000 in
set_option maxHeartbeats 1000000 in
theorem iMatch (B gb N k : Nat) (hk : k < N) (hN : N ≤ 9) (s : Gst) (pb : Nat → Nat) (la : Nat → Option Addr) (lc mb : Nat → Nat) (q : Nat) (w : World) (h : GpL w B gb N s pb la lc mb) :
    Calls Try.prog 45 #[.pointer (some ⟨pb k, 0, none⟩), .int .i64 (q : Int)] w fun e w' => e = .returned (.int .i64 (gHave (s k).mt q : Int)) ∧ w' = w := by
  obtain ⟨MT, hMT⟩ : ∃ m, m = (s k).mt := ⟨_, rfl⟩
  obtain ⟨zm, _, zml⟩ := h.mat k hk
  have c5 : w.cell? ⟨pb k, 5, none⟩ = some (.slice (some ⟨mb k, 0, none⟩) N N) := (h.mem k hk).cell 5
  rw [← hMT] at zm zml ⊢
  have HMC : Hid (∀ i, i < N → w.cell? ⟨mb k, i, none⟩ = some (.int .i64 (MT.getD i 0))) := fun i hi => by rw [zm.cell]; exact ints_at (by rw [zml]; exact hi)
  have HML := hid zml
  generalize pb k = p at c5 ⊢
  generalize mb k = Y at c5 HMC zm
  clear hMT zm zml h
  go_enter Try.func45, Try.ntmps45
  go_wp2_with fail
  go_loopw [5, 7, 14] (fun y5 y7 y14 wx => ∃ (i h : Nat), i ≤ N ∧ y14 = .int .i64 (i : Int) ∧ y5 = .int .i64 (h : Int) ∧ h = gHave (MT.take i) q ∧ h ≤ i ∧ wx = w) (fun _ _ y14 _ => N - (intOf y14).toNat)
  case atStart => exact ⟨0, 0, Nat.zero_le _, rfl, rfl, by simp [gHave], Nat.le_refl _, rfl⟩
  case round =>
    obtain ⟨i, hv, hi, rfl, rfl, hh, hhi, hwx⟩ := hrel
    obtain rfl := hwx.symm
    clear hwx
    have HH := hid hh
    clear hh
    by_cases hlt : i < N
    · have hlt' : (i : Int) < (N : Int) := by omega
      have i0 : (0 : Int) ≤ (i : Int) := by omega
      have m0 := HMC.out i hlt
      have HT := hid (gHave_take MT q i (by rw [HML.out]; exact hlt))
      generalize MT.getD i 0 = mi at m0 HT
      by_cases hge : (q : Int) ≤ mi
      · have HT2 : Hid (gHave (MT.take (i + 1)) q = hv + 1) := hid (by rw [HT.out, if_pos hge, ← HH.out])
        clear HT
        go_wp2
        go_roundw
        case rel => exact ⟨i + 1, hv + 1, by omega, by go_num, by go_num, HT2.out.symm, by omega, trivial⟩
        case measure => simp [intOf]; omega
      · have HT2 : Hid (gHave (MT.take (i + 1)) q = hv) := hid (by rw [HT.out, if_neg hge, ← HH.out]; rfl)
        clear HT
        go_wp2
        go_roundw
        case rel => exact ⟨i + 1, hv, by omega, by go_num, rfl, HT2.out.symm, by omega, trivial⟩
        case measure => simp [intOf]; omega
    · have hlt' : ¬ (i : Int) < (N : Int) := by omega
      have HE : Hid (hv = gHave MT q) := hid (by rw [HH.out, List.take_of_length_le (by rw [HML.out]; omega)])
      go_wp2
      go_ret
      exact ⟨by rw [← HE.out]; rfl, rfl⟩
set_option maxRecDepth 20000 in
set_option maxHeartbeats 2000000 in
theorem iCount (B gb N k : Nat) (hk : k < N) (hN : N ≤ 9) (s : Gst) (pb : Nat → Nat) (la : Nat → Option Addr) (lc mb : Nat → Nat) (hl : (s k).lg.length ≤ 500) (w : World) (h : GpL w B gb N s pb la lc mb) :
    Calls Try.prog 40 #[.pointer (some ⟨pb k, 0, none⟩)] w fun e w' => e = .returned (.tuple #[]) ∧ GpL w' B gb N (putM s k (gCount N (s k))) pb la lc mb ∧ w.grownBy w' (some (pb k)) := by
  obtain ⟨G, hG⟩ : ∃ G, G = gCnt N (s k) (s k).lg.length := ⟨_, rfl⟩
  have E0 : Hid (gCount N (s k) = { s k with cm := G }) := hid (by rw [hG]; rfl)
  obtain ⟨LG, hLG⟩ : ∃ l, l = (s k).lg := ⟨_, rfl⟩
  obtain ⟨TM, hTM⟩ : ∃ t, t = (s k).tm := ⟨_, rfl⟩
  obtain ⟨C, hC⟩ : ∃ c, c = (s k).cm := ⟨_, rfl⟩
  have HLG := hid hLG
  have HTM := hid hTM
  have HC := hid hC
  have HG := hid hG
  have G0 := hid h
  have hLn : LG.length ≤ 500 := by rw [hLG]; exact hl
  have c4 : w.cell? ⟨pb k, 4, none⟩ = some (.slice (la k) LG.length (lc k)) := ((h.mem k hk).cell 4).trans (by rw [hLG]; rfl)
  clear hG hLG hTM hC h hl
  go_enter Try.func40, Try.ntmps40
  go_wp2_with fail
  clear c4
  go_loopw [2] (fun y wr => ∃ (q : Nat), q ≤ LG.length ∧ y = .int .i64 (q : Int) ∧ gCnt N (s k) q = G ∧ GpL wr B gb N s pb la lc mb ∧ Below w.heap.size w wr) (fun y _ => (intOf y).toNat)
  case atStart => exact ⟨LG.length, Nat.le_refl _, rfl, by rw [HLG.out]; exact HG.out.symm, G0.out, Below.refl _ _⟩
  case round =>
    obtain ⟨q, hq, rfl, hg, hx, hb⟩ := hrel
    have HQG := hid hg
    have GX := hid hx
    have BX := hid hb
    clear hg hx hb G0
    have r := GX.out.mem k hk
    have c0 : wr.cell? ⟨pb k, 0, none⟩ = some (.int .i64 TM) := (r.cell 0).trans (by rw [HTM.out]; rfl)
    have c3 : wr.cell? ⟨pb k, 3, none⟩ = some (.int .i64 (C : Int)) := (r.cell 3).trans (by rw [HC.out]; rfl)
    have c4 : wr.cell? ⟨pb k, 4, none⟩ = some (.slice (la k) LG.length (lc k)) := (r.cell 4).trans (by rw [HLG.out]; rfl)
    have c7 : wr.cell? ⟨pb k, 7, none⟩ = some (.slice (some ⟨gb, 0, none⟩) N N) := r.cell 7
    have f3 := r.free 3
    clear r
    by_cases hlow : q ≤ C
    · have hl1 : ¬ (C : Int) < (q : Int) := by omega
      have HE : Hid (G = (s k).cm) := hid (by rw [← HQG.out]; exact gCnt_low _ _ _ (by rw [← HC.out]; exact hlow))
      go_wp2
      go_end0
      refine ⟨rfl, ?_, below_grown BX.out _⟩
      rw [E0.out, HE.out]
      rw [show putM s k { s k with cm := (s k).cm } = s from putM_same s k]
      exact GX.out
    · have hl1 : (C : Int) < (q : Int) := by omega
      obtain ⟨p, rfl⟩ : ∃ p, q = p + 1 := ⟨q - 1, by omega⟩
      have hpl : p < LG.length := by omega
      have lg := GX.out.ges hk
      rw [← HLG.out] at lg
      rcases lg.2 with h00 | ⟨g, off, hA, hgl, hcs⟩
      · omega
      have l0 := (hcs p hpl).1
      obtain ⟨TP, hTP⟩ : ∃ t, t = (geAt LG p).tm := ⟨_, rfl⟩
      rw [← hTP] at l0
      have HTP : Hid (TP = ((s k).lg.getD p ge0).tm) := hid (by rw [hTP, HLG.out]; rfl)
      rw [hA] at c4
      clear hcs lg hTP hA
      have e1 : ((p + 1 : Nat) : Int) - 1 = (p : Int) := by omega
      have p0 : (0 : Int) ≤ (p : Int) := by omega
      have p1 : (p : Int) < (LG.length : Int) := by omega
      obtain ⟨HV, hHV⟩ : ∃ n, n = gHave (s k).mt (p + 1) := ⟨_, rfl⟩
      have hvN : HV ≤ 9 := by rw [hHV]; have := gHave_le (s k).mt (p + 1); have := (GX.out.mat k hk).2.2; omega
      have KM := fun x => hid (iMatch B gb N k hk hN s pb la lc mb (p + 1) (wr.drewN x) (GX.out.below (below_drewN' (Below.refl _ _) x)))
      have KJ := fun x => hid (iMajor (some ⟨gb, 0, none⟩) N N HV (by omega) (wr.drewN x))
      rw [← hHV] at KM
      have HHV := hid hHV
      clear hHV
      by_cases ht : TP = TM
      · have d1 : (TP == TM) = true := by rw [beq_iff_eq]; exact ht
        have HT1 := hid ht
        clear ht
        by_cases hm2 : N < 2 * HV
        · have d2 : decide (N < 2 * HV) = true := decide_eq_true hm2
          rw [d2] at KJ
          have HGE : Hid (G = p + 1) := hid (by
            rw [← HQG.out]
            exact gCnt_hit _ _ _ (by rw [← HC.out]; exact hlow) (by rw [← HTP.out, HT1.out, HTM.out]) (by rw [← HHV.out]; exact hm2))
          clear hm2 d2
          go_wp2_with fail
          go_quiet ((first | (go_at_call 45; exact Calls.quiet_of_same (KM _).out) | (go_at_call 37; exact Calls.quiet_of_same (KJ _).out)))
          have SF : Hid (GpL ((wr.drewN nq).setCell ⟨pb k, 3, none⟩ (.int .i64 ((p + 1 : Nat) : Int))) B gb N (putM s k { s k with cm := G }) pb la lc mb) := by
            rw [HGE.out]
            exact (GX.out.below (below_drewN' (Below.refl _ _) nq)).setCm hk (p + 1)
          have SB : Hid (w.grownBy ((wr.drewN nq).setCell ⟨pb k, 3, none⟩ (.int .i64 ((p + 1 : Nat) : Int))) (some (pb k))) := grown_trans (below_grown (below_drewN' BX.out nq) _) grown_set
          go_wp2
          refine bodyPost_ret (results_none rfl _ _ _) rfl ?_
          exact ⟨rfl, by rw [E0.out]; exact SF.out, SB.out⟩
        · have d2 : decide (N < 2 * HV) = false := decide_eq_false hm2
          rw [d2] at KJ
          have HGM : Hid (gCnt N (s k) p = G) := hid (by
            rw [← HQG.out]
            exact (gCnt_miss _ _ _ (by rw [← HC.out]; exact hlow) (by rw [← HHV.out]; exact fun q => hm2 q.2)).symm)
          clear hm2 d2
          go_wp2_with fail
          go_quiet ((first | (go_at_call 45; exact Calls.quiet_of_same (KM _).out) | (go_at_call 37; exact Calls.quiet_of_same (KJ _).out)))
          go_wp2
          go_roundw
          case rel => exact ⟨p, by omega, by go_num, HGM.out, GX.out.below (below_drewN' (Below.refl _ _) nq), below_drewN' BX.out nq⟩
          case measure => simp [intOf]
      · have d1 : (TP == TM) = false := by rw [beq_eq_false_iff_ne]; exact ht
        have HGM : Hid (gCnt N (s k) p = G) := hid (by
          rw [← HQG.out]
          exact (gCnt_miss _ _ _ (by rw [← HC.out]; exact hlow) (by rw [← HTP.out, ← HTM.out]; exact fun q => ht q.1)).symm)
        clear ht
        go_wp2_with fail
        go_quiet (fail)
        go_wp2
        go_roundw
        case rel => exact ⟨p, by omega, by go_num, HGM.out, GX.out.below (below_drewN' (Below.refl _ _) nq), below_drewN' BX.out nq⟩
        case measure => simp [intOf]
end Go.Proofs.Ytmhkelfmciepaaa
