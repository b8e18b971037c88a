import Derived.Test.YtmhkelfmciepaaaGrS
namespace Go.Proofs.Ytmhkelfmciepaaa
open Go.RowKit
set_option linter.unusedVariables false
/-! The specification's NewerLog and counting. -/
theorem gLast_nil {L : List Ge} (h : L.length = 0) : gLast L = 0 := by
  rw [List.eq_nil_of_length_eq_zero h]; rfl
theorem gLast_at {L : List Ge} (h : 0 < L.length) : (geAt L (L.length - 1)).tm = gLast L := by
  unfold gLast geAt
  rw [List.getLastD_eq_getLast?, List.getLast?_eq_getElem?, List.getD_eq_getElem?_getD]
set_option maxRecDepth 20000 in
set_option maxHeartbeats 1000000 in
theorem sLast (a : Option Addr) (cap : Nat) (L : List Ge) (hl : L.length ≤ 1048576) (w : World) (h : Ges w a L.length cap (geAt L)) :
    Calls Try.prog 20 #[.slice a L.length cap] w fun e w' => e = .returned (.int .i64 (gLast L)) ∧ w' = w := by
  by_cases h0 : L.length = 0
  · rw [gLast_nil h0]
    have d0 : ((L.length : Int) == 0) = true := by rw [beq_iff_eq]; omega
    generalize L.length = n at *
    clear h0
    go_enter Try.func20, Try.ntmps20
    go_wp2
    go_ret
    exact ⟨rfl, rfl⟩
  · have d0 : ((L.length : Int) == 0) = false := by rw [beq_eq_false_iff_ne]; omega
    rcases h.2 with h00 | ⟨b, off, rfl, hbl, hc⟩
    · omega
    have c0 := (hc (L.length - 1) (by omega)).1
    rw [gLast_at (by omega)] at c0
    generalize gLast L = x at c0 ⊢
    obtain ⟨q, hq⟩ : ∃ q, q = L.length - 1 := ⟨_, rfl⟩
    rw [← hq] at c0
    have e1 : (L.length : Int) - 1 = (q : Int) := by omega
    have e2 : (q : Int) < (L.length : Int) := by omega
    have e3 : (0 : Int) ≤ (q : Int) := by omega
    generalize L.length = n at *
    clear h0 hc hq h
    go_enter Try.func20, Try.ntmps20
    go_wp2
    go_ret
    exact ⟨rfl, rfl⟩
set_option maxRecDepth 20000 in
set_option maxHeartbeats 2000000 in
theorem sNewer (a : Option Addr) (cap : Nat) (L : List Ge) (a' : Option Addr) (cap' : Nat) (L' : List Ge) (hl : L.length ≤ 1048576) (hl' : L'.length ≤ 1048576) (w : World) (h : Ges w a L.length cap (geAt L)) (h' : Ges w a' L'.length cap' (geAt L')) :
    Calls Try.prog 10 #[.slice a L.length cap, .slice a' L'.length cap'] w fun e w' => e = .returned (.bool (gNewer L L')) ∧ w' = w := by
  have K1 := hid (sLast a cap L hl w h)
  have K2 := hid (sLast a' cap' L' hl' w h')
  clear h h'
  unfold gNewer
  generalize gLast L = x at K1 ⊢
  generalize gLast L' = y at K2 ⊢
  by_cases hx : y < x
  · have d1 : decide (y < x) = true := decide_eq_true hx
    rw [d1, Bool.true_or]
    go_enter Try.func10, Try.ntmps10
    go_wp2_with fail
    refine K1.out.mono ?_
    rintro e w2 ⟨rfl, hw⟩
    obtain rfl := hw.symm
    clear hw
    go_wp2_with fail
    refine K2.out.mono ?_
    rintro e w2 ⟨rfl, hw⟩
    obtain rfl := hw.symm
    clear hw
    go_wp2
    go_ret
    exact ⟨rfl, rfl⟩
  · have d1 : decide (y < x) = false := decide_eq_false hx
    rw [d1, Bool.false_or]
    by_cases hy : x = y
    · have d2 : (x == y) = true := by rw [beq_iff_eq]; exact hy
      have d3 : decide (x = y) = true := decide_eq_true hy
      rw [d3, Bool.true_and]
      clear hx hy d3
      go_enter Try.func10, Try.ntmps10
      go_wp2_with fail
      refine K1.out.mono ?_
      rintro e w2 ⟨rfl, hw⟩
      obtain rfl := hw.symm
      clear hw
      go_wp2_with fail
      refine K2.out.mono ?_
      rintro e w2 ⟨rfl, hw⟩
      obtain rfl := hw.symm
      clear hw
      go_wp2_with fail
      refine K1.out.mono ?_
      rintro e w2 ⟨rfl, hw⟩
      obtain rfl := hw.symm
      clear hw
      go_wp2_with fail
      refine K2.out.mono ?_
      rintro e w2 ⟨rfl, hw⟩
      obtain rfl := hw.symm
      clear hw
      go_wp2
      go_ret
      exact ⟨by simp, rfl⟩
    · have d2 : (x == y) = false := by rw [beq_eq_false_iff_ne]; exact hy
      have d3 : decide (x = y) = false := decide_eq_false hy
      rw [d3, Bool.false_and]
      clear hx hy d3
      go_enter Try.func10, Try.ntmps10
      go_wp2_with fail
      refine K1.out.mono ?_
      rintro e w2 ⟨rfl, hw⟩
      obtain rfl := hw.symm
      clear hw
      go_wp2_with fail
      refine K2.out.mono ?_
      rintro e w2 ⟨rfl, hw⟩
      obtain rfl := hw.symm
      clear hw
      go_wp2_with fail
      refine K1.out.mono ?_
      rintro e w2 ⟨rfl, hw⟩
      obtain rfl := hw.symm
      clear hw
      go_wp2_with fail
      refine K2.out.mono ?_
      rintro e w2 ⟨rfl, hw⟩
      obtain rfl := hw.symm
      clear hw
      go_wp2
      go_ret
      exact ⟨rfl, rfl⟩
end Go.Proofs.Ytmhkelfmciepaaa
namespace Go.Proofs.Ytmhkelfmciepaaa
open Go.RowKit
set_option linter.unusedVariables false
/-! The specification's counting. -/
theorem gHave_take (M : List Int) (q i : Nat) (h : i < M.length) : gHave (M.take (i + 1)) q = gHave (M.take i) q + (if (q : Int) ≤ M.getD i 0 then 1 else 0) := by
  unfold gHave
  rw [List.take_succ_eq_append_getElem h, List.countP_append]
  have e : M.getD i 0 = M[i] := by rw [List.getD_eq_getElem?_getD, List.getElem?_eq_getElem h]; rfl
  rw [e]
  by_cases c : (q : Int) ≤ M[i]
  · simp [c]
  · simp [c]
theorem gCnt_low (N : Nat) (m : Mb) (q : Nat) (h : q ≤ m.cm) : gCnt N m q = m.cm := by
  cases q with
  | zero => rfl
  | succ q => unfold gCnt; rw [if_pos h]
theorem gCnt_hit (N : Nat) (m : Mb) (q : Nat) (h : ¬ q + 1 ≤ m.cm) (h1 : (m.lg.getD q ge0).tm = m.tm) (h2 : N < 2 * gHave m.mt (q + 1)) : gCnt N m (q + 1) = q + 1 := by
  rw [gCnt, if_neg h, if_pos ⟨h1, h2⟩]
theorem gCnt_miss (N : Nat) (m : Mb) (q : Nat) (h : ¬ q + 1 ≤ m.cm) (h1 : ¬ ((m.lg.getD q ge0).tm = m.tm ∧ N < 2 * gHave m.mt (q + 1))) : gCnt N m (q + 1) = gCnt N m q := by
  rw [gCnt, if_neg h, if_neg h1]
set_option maxRecDepth 20000 in
set_option maxHeartbeats 4000000 in
theorem sCount (B b N k : Nat) (hN : N ≤ 9) (hk : k < N) (s : Gst) (hl : (s k).lg.length ≤ 500) (w : World) (h : SpAt w B b N s) (hBw : B ≤ w.heap.size) :
    Calls Try.prog 27 #[.slice (some ⟨b, 0, none⟩) N N, .int .i64 k] w fun e w' => e = .returned (.tuple #[]) ∧ SpAt w' B b N (putM s k (gCount N (s k))) ∧ w.grownBy w' (some b) := by
  obtain ⟨la, lc, mb, h⟩ := h
  obtain ⟨c0, c1, c2, c3, c4, c5⟩ := h.cells hk
  have hlog := h.log k hk
  obtain ⟨hmt, _, hml⟩ := h.mat k hk
  have hBb := h.hB
  have HS := hid h
  have E0 : Hid (gCount N (s k) = { s k with cm := gCnt N (s k) (s k).lg.length }) := rfl
  have E1 : Hid (∀ x, x = (s k).cm → { s k with cm := x } = s k) := by rintro x rfl; rfl
  rw [show gCount N (s k) = { s k with cm := gCnt N (s k) (s k).lg.length } from rfl]
  obtain ⟨G, hG⟩ : ∃ G, G = gCnt N (s k) (s k).lg.length := ⟨_, rfl⟩
  rw [← hG]
  have SM : Hid (∀ wx, SpL wx B b N s la lc mb → SpL (wx.setCell ⟨b, k * 6 + 3, none⟩ (.int .i64 (G : Int))) B b N (putM s k { s k with cm := G }) la lc mb) := fun wx hx => hx.setCm k G
  have SN : Hid (∀ x, x = (s k).cm → putM s k { s k with cm := x } = s) := by rintro x rfl; exact putM_same s k
  rcases hm : s k with ⟨T, V, D, C, LG, MT⟩
  rw [hm] at c0 c1 c2 c3 c4 hlog hmt hml hG hl SM SN E1
  dsimp only at c0 c1 c2 c3 c4 hlog hmt hml hG hl SM SN E1 ⊢
  have HG := hid hG
  have HLOG := hid hlog
  have HMT := hid hmt
  generalize la k = A at c4 HLOG
  generalize lc k = CA at c4 HLOG
  generalize hMB : mb k = Y at c5 HMT
  obtain ⟨W1, hW1⟩ : ∃ W, W = w.alloc (.cells #[.int .i64 T, .int .i64 V, .bool D, .int .i64 (C : Int), .slice A LG.length CA, .slice (some ⟨Y, 0, none⟩) N N] 36) := ⟨_, rfl⟩
  have b1 : Below w.heap.size w W1 := by rw [hW1]; exact (Below.refl _ _).alloc (Nat.le_refl _) _
  have X4 : Hid (RowAt W1 w.heap.size 36 #[.int .i64 T, .int .i64 V, .bool D, .int .i64 (C : Int), .slice A LG.length CA, .slice (some ⟨Y, 0, none⟩) N N]) := by rw [hW1]; exact RowAt.new _ _ _
  have B1 := hid b1
  have HW1 := hid hW1
  have kN : (k : Int) < (N : Int) := by omega
  have k0 : (0 : Int) ≤ (k : Int) := by omega
  clear hW1 b1 hG hm hlog hmt hMB E0 E1
  go_enter Try.func27, Try.ntmps27
  go_upto_region 1 with ((refine wpList_store_row rfl 36 (.tmp 4) (.tmp 11) rfl w.heap.size #[.int .i64 T, .int .i64 V, .bool D, .int .i64 (C : Int), .slice A LG.length CA, .slice (some ⟨Y, 0, none⟩) N N] rfl rfl _ _ (RowAt.new w _ _) (by kernel_rfl) rfl (by simp [Value.oneCell']) ?_); rw [World.setRow_alloc_new])
  rw [← HW1.out]
  clear HW1 c0 c1 c2 c3 c4 c5
  obtain ⟨X, hX⟩ : ∃ X, X = w.heap.size := ⟨_, rfl⟩
  rw [← hX] at X4 ⊢
  have hXB : B ≤ X := by omega
  have HX := hid hX
  clear hX
  have S1 := hid (HS.out.below B1.out)
  have HML := hid hml
  have x4 := X4.out.cell 4
  go_wp2_with fail
  clear x4
  go_loopw [5, 6, 7] (fun y y6 y7 wr => ∃ (q : Nat), q ≤ LG.length ∧ y = .int .i64 (q : Int) ∧ gCnt N ⟨T, V, D, C, LG, MT⟩ q = G ∧ RowAt wr X 36 #[.int .i64 T, .int .i64 V, .bool D, .int .i64 (C : Int), .slice A LG.length CA, .slice (some ⟨Y, 0, none⟩) N N] ∧ SpL wr B b N s la lc mb ∧ Below w.heap.size w wr) (fun y _ _ _ => (intOf y).toNat)
  case atStart => exact ⟨LG.length, Nat.le_refl _, rfl, HG.out.symm, X4.out, S1.out, B1.out⟩
  case round =>
    obtain ⟨q, hq, rfl, hg, hx, hs, hb⟩ := hrel
    have HQG := hid hg
    have HX4 := hid hx
    have HSP := hid hs
    have HB := hid hb
    have HLG := hid (HLOG.out.below HB.out)
    have HMr := hid (HMT.out.below HB.out HMT.out.lt)
    clear hg hx hs hb X4 S1 B1
    have x0 := HX4.out.cell 0
    have x3 := HX4.out.cell 3
    have x4 := HX4.out.cell 4
    have x5 := HX4.out.cell 5
    by_cases hlow : q ≤ C
    · have hl1 : ¬ (C : Int) < (q : Int) := by omega
      have HE : Hid (G = C) := hid (by rw [← HQG.out]; exact gCnt_low _ _ _ hlow)
      go_wp2
      go_end0
      exact ⟨rfl, ⟨la, lc, mb, by rw [SN.out G HE.out]; exact HSP.out⟩, below_grown HB.out _⟩
    · have hl1 : (C : Int) < (q : Int) := by omega
      obtain ⟨p, rfl⟩ : ∃ p, q = p + 1 := ⟨q - 1, by omega⟩
      have hpl : p < LG.length := by omega
      rcases HLG.out.2 with ⟨h00, _⟩ | ⟨g, cs, hA, hr, hcs⟩
      · omega
      have l0 := (hr.cell (p * 2)).trans (hcs p hpl).1
      have HLT : Hid ((geAt LG p).tm = (LG.getD p ge0).tm) := rfl
      generalize hTP : (geAt LG p).tm = TP at l0
      have HTP := hid hTP
      clear hr hcs hTP
      subst hA
      have e1 : ((p + 1 : Nat) : Int) - 1 = (p : Int) := by omega
      have p0 : (0 : Int) ≤ (p : Int) := by omega
      have p1 : (p : Int) < (LG.length : Int) := by omega
      have mc : ∀ i, i < N → wr.cell? ⟨Y, i, none⟩ = some (.int .i64 (MT.getD i 0)) := fun i hi => by rw [HMr.out.cell]; exact ints_at (by rw [HML.out]; exact hi)
      have HMC := hid mc
      clear mc
      go_wp2_with fail
      go_loopw [6, 7] (fun y6 y7 wx => ∃ (i h : Nat), i ≤ N ∧ y7 = .int .i64 (i : Int) ∧ y6 = .int .i64 (h : Int) ∧ h = gHave (MT.take i) (p + 1) ∧ h ≤ i ∧ wx = wr) (fun _ y7 _ => N - (intOf y7).toNat)
      case atStart => exact ⟨0, 0, Nat.zero_le _, rfl, rfl, by simp [gHave], Nat.le_refl _, rfl⟩
      case round =>
        obtain ⟨i, hv, hi, rfl, rfl, hh, hhi, hwx⟩ := hrel
        obtain rfl := hwx.symm
        clear hwx
        have HH := hid hh
        clear hh
        by_cases hlt : i < N
        · have hlt' : (i : Int) < (N : Int) := by omega
          have i0 : (0 : Int) ≤ (i : Int) := by omega
          have m0 := HMC.out i hlt
          have HT := hid (gHave_take MT (p + 1) i (by rw [HML.out]; exact hlt))
          generalize MT.getD i 0 = mi at m0 HT
          by_cases hge : ((p + 1 : Nat) : Int) ≤ mi
          · have HT2 : Hid (gHave (MT.take (i + 1)) (p + 1) = hv + 1) := hid (by rw [HT.out, if_pos hge, ← HH.out])
            clear HT
            go_wp2
            go_roundw
            case rel => exact ⟨i + 1, hv + 1, by omega, by go_num, by go_num, HT2.out.symm, by omega, trivial⟩
            case measure => simp [intOf]; omega
          · have HT2 : Hid (gHave (MT.take (i + 1)) (p + 1) = hv) := hid (by rw [HT.out, if_neg hge, ← HH.out]; rfl)
            clear HT
            go_wp2
            go_roundw
            case rel => exact ⟨i + 1, hv, by omega, by go_num, by go_num, HT2.out.symm, by omega, trivial⟩
            case measure => simp [intOf]; omega
        · have hiN : i = N := by omega
          subst hiN
          have HE : Hid (hv = gHave MT (p + 1)) := hid (by rw [HH.out, List.take_of_length_le (by rw [HML.out]; exact Nat.le_refl _)])
          have hlt' : ¬ (i : Int) < (i : Int) := by omega
          clear HH HMC
          by_cases ht : TP = T
          · have d1 : (TP == T) = true := by rw [beq_iff_eq]; exact ht
            have HT1 := hid ht
            clear ht
            by_cases hm2 : i < 2 * hv
            · have d2 : decide ((i : Int) < 2 * (hv : Int)) = true := decide_eq_true (by omega)
              have HGE : Hid (G = p + 1) := by
                rw [← HQG.out]
                exact gCnt_hit _ _ _ hlow (by show (LG.getD p ge0).tm = T; rw [← HLT.out, HTP.out]; exact HT1.out) (by show i < 2 * gHave MT (p + 1); rw [← HE.out]; exact hm2)
              clear hm2
              go_wp2_with fail
              go_quiet (fail)
              have y3 := (HSP.out.cells hk).2.2.2.1
              have fy := HSP.out.row.free (k * 6 + 3)
              have SF : Hid (SpL ((wr.drewN nq).setCell ⟨b, k * 6 + 3, none⟩ (.int .i64 ((p + 1 : Nat) : Int))) B b i (putM s k { tm := T, vt := V, ld := D, cm := G, lg := LG, mt := MT }) la lc mb) := by
                have q := SM.out (wr.drewN nq) (HSP.out.below (below_drewN' (Below.refl _ _) nq))
                rw [HGE.out] at q ⊢
                exact q
              have SB : Hid (w.grownBy ((wr.drewN nq).setCell ⟨b, k * 6 + 3, none⟩ (.int .i64 ((p + 1 : Nat) : Int))) (some b)) := grown_trans (below_grown (below_drewN' HB.out nq) _) grown_set
              go_wp2
              refine bodyPost_ret (results_none rfl _ _ _) rfl ?_
              exact ⟨rfl, ⟨la, lc, mb, SF.out⟩, SB.out⟩
            · have d2 : decide ((i : Int) < 2 * (hv : Int)) = false := decide_eq_false (by omega)
              have HGM : Hid (gCnt i ⟨T, V, D, C, LG, MT⟩ p = G) := hid (by
                rw [← HQG.out]
                exact (gCnt_miss _ _ _ hlow (by show ¬ (_ ∧ i < 2 * gHave MT (p + 1)); rw [← HE.out]; exact fun q => hm2 q.2)).symm)
              clear hm2
              go_wp2_with fail
              go_quiet (fail)
              go_wp2
              go_roundw
              case rel => exact ⟨p, by omega, by go_num, HGM.out, HX4.out, HSP.out.below (below_drewN' (Below.refl _ _) nq), below_drewN' HB.out nq⟩
              case measure => simp [intOf]
          · have d1 : (TP == T) = false := by rw [beq_eq_false_iff_ne]; exact ht
            have HGM : Hid (gCnt i ⟨T, V, D, C, LG, MT⟩ p = G) := hid (by
              rw [← HQG.out]
              exact (gCnt_miss _ _ _ hlow (by show ¬ ((LG.getD p ge0).tm = T ∧ _); rw [← HLT.out, HTP.out]; exact fun q => ht q.1)).symm)
            clear ht
            go_wp2_with fail
            go_quiet (fail)
            go_wp2
            go_roundw
            case rel => exact ⟨p, by omega, by go_num, HGM.out, HX4.out, HSP.out.below (below_drewN' (Below.refl _ _) nq), below_drewN' HB.out nq⟩
            case measure => simp [intOf]
end Go.Proofs.Ytmhkelfmciepaaa
