import Derived.Test.YtmhkelfmciepaaaGrI2
import Derived.Deep.RegionHeld3
namespace Go.Proofs.Ytmhkelfmciepaaa
open Go.RowKit
set_option linter.unusedVariables false
/-! The program's votesFor (by gengri2.py). -/
theorem GpL.ges {w : World} {B gb N : Nat} {s : Gst} {pb : Nat → Nat} {la : Nat → Option Addr} {lc mb : Nat → Nat} (h : GpL w B gb N s pb la lc mb) {k : Nat} (hk : k < N) : Ges w (la k) (s k).lg.length (lc k) (geAt (s k).lg) := by
  obtain ⟨a, c, he, hl⟩ := OwnGe.logR (h.log k hk)
  cases he
  exact hl.ges
set_option maxRecDepth 20000 in
set_option maxHeartbeats 4000000 in
theorem iVotes (B gb N q k : Nat) (hq : q < N) (hk : k < N) (qk : q ≠ k) (s : Gst) (pb : Nat → Nat) (la : Nat → Option Addr) (lc mb : Nat → Nat) (hT : (s q).lg.length ≤ 500 ∧ (s k).lg.length ≤ 500) (w : World) (h : GpL w B gb N s pb la lc mb) (hBw : B ≤ w.heap.size) :
    Calls Try.prog 43 #[.pointer (some ⟨pb q, 0, none⟩), .pointer (some ⟨pb k, 0, none⟩)] w fun e w' => e = .returned (.bool (gWill (s k) k (gLate (s k) (s q)))) ∧ GpL w' B gb N (putM s q (gVote (s k) k (s q))) pb la lc mb ∧ Kq w w' ∧ Below B w w' := by
  obtain ⟨TQ, hTQ⟩ : ∃ t, t = (s q).tm := ⟨_, rfl⟩
  obtain ⟨TC, hTC⟩ : ∃ t, t = (s k).tm := ⟨_, rfl⟩
  obtain ⟨VQ, hVQ⟩ : ∃ t, t = (s q).vt := ⟨_, rfl⟩
  have HTQ := hid hTQ
  have HTC := hid hTC
  have HVQ := hid hVQ
  clear hTQ hTC hVQ
  obtain ⟨G1, hG1⟩ : ∃ G, G = gWill (s k) k (gLate (s k) (s q)) := ⟨_, rfl⟩
  rw [← hG1]
  have HG1 := hid hG1
  clear hG1
  have GX := hid h
  have hpq := hid (h.mlo q hq)
  have hpn := hid (h.nep q k hq hk qk)
  clear h
  have rq := GX.out.mem q hq
  have rk := GX.out.mem k hk
  have cq0 : w.cell? ⟨pb q, 0, none⟩ = some (.int .i64 TQ) := (rq.cell 0).trans (by rw [HTQ.out]; rfl)
  have cq1 : w.cell? ⟨pb q, 1, none⟩ = some (.int .i64 VQ) := (rq.cell 1).trans (by rw [HVQ.out]; rfl)
  have cq4 : w.cell? ⟨pb q, 4, none⟩ = some (.slice (la q) (s q).lg.length (lc q)) := (rq.cell 4).trans rfl
  have ck0 : w.cell? ⟨pb k, 0, none⟩ = some (.int .i64 TC) := (rk.cell 0).trans (by rw [HTC.out]; rfl)
  have ck4 : w.cell? ⟨pb k, 4, none⟩ = some (.slice (la k) (s k).lg.length (lc k)) := (rk.cell 4).trans rfl
  have ck6 : w.cell? ⟨pb k, 6, none⟩ = some (.int .i64 (k : Int)) := (rk.cell 6).trans rfl
  have fq1 := rq.free 1
  obtain ⟨l1, l2⟩ := hT
  clear rq rk
  go_enter Try.func43, Try.ntmps43
  go_wp2_with fail
  by_cases hlate : TQ < TC
  · have ML : Hid (gLate (s k) (s q) = { s q with tm := TC, vt := -1, ld := false }) := hid (by unfold gLate; rw [← HTC.out, if_pos (by rw [← HTQ.out]; exact hlate)])
    go_quiet (fail)
    have KE := hid (iEnter B gb N q hq s pb la lc mb TC (w.drewN nq) (GX.out.below (below_drewN' (Below.refl _ _) nq)))
    go_wp2_with fail
    refine KE.out.mono ?_
    rintro e w1 ⟨rfl, h1, hg1⟩
    have V1 : Hid (Kq w w1) := ⟨hg1.size, fun g t cs a b c r => (hg1.block g r.lt (fun e => row_apart r (GX.out.mem q hq) a (Option.some.inj e))).trans r⟩
    have B1 : Hid (Below B w w1) := (below_drewN' (Below.refl B w) nq).grown hg1 hBw (fun x hx => by cases hx; exact hpq.out)
    clear GX hg1 KE cq0 cq1 cq4 ck0 ck4 ck6 fq1
    have GX := hid h1
    clear h1
    have VX := V1
    have BX := B1
    clear V1 B1
    have rq := GX.out.mem q hq
    have rk := GX.out.mem k hk
    rw [putM_self] at rq
    rw [putM_ne _ _ _ (Ne.symm qk)] at rk
    have cq0 : w1.cell? ⟨pb q, 0, none⟩ = some (.int .i64 TC) := (rq.cell 0).trans (rfl)
    have cq1 : w1.cell? ⟨pb q, 1, none⟩ = some (.int .i64 (-1)) := (rq.cell 1).trans (rfl)
    have cq4 : w1.cell? ⟨pb q, 4, none⟩ = some (.slice (la q) (s q).lg.length (lc q)) := (rq.cell 4).trans rfl
    have ck0 : w1.cell? ⟨pb k, 0, none⟩ = some (.int .i64 TC) := (rk.cell 0).trans (by rw [HTC.out]; rfl)
    have ck4 : w1.cell? ⟨pb k, 4, none⟩ = some (.slice (la k) (s k).lg.length (lc k)) := (rk.cell 4).trans rfl
    have ck6 : w1.cell? ⟨pb k, 6, none⟩ = some (.int .i64 (k : Int)) := (rk.cell 6).trans rfl
    have fq1 := rq.free 1
    clear rq rk
    obtain ⟨NB, hNB⟩ : ∃ n, n = gNewer (s q).lg (s k).lg := ⟨_, rfl⟩
    have HNB := hid hNB
    clear hNB
    cases NB with
    | true =>
      have EW : Hid (G1 = false) := hid (by rw [HG1.out]; rw [ML.out]; unfold gWill; rw [← HNB.out]; simp [← HTC.out])
      have EV : Hid (gVote (s k) k (s q) = gLate (s k) (s q)) := hid (by unfold gVote; rw [← HG1.out, EW.out]; rfl)
      go_wp2_with fail
      go_quiet (fail)
      obtain ⟨w3, hw3⟩ : ∃ W, W = w1.drewN nq := ⟨_, rfl⟩
      have bw3 : Below w1.heap.size w1 w3 := by rw [hw3]; exact below_drewN' (Below.refl _ _) nq
      have GY := hid (GX.out.below bw3)
      have VY := hid (VX.out.below bw3)
      have BY := hid (BX.out.trans (bw3.mono (Nat.le_trans hBw VX.out.size)))
      rw [← hw3]
      clear GX VX BX hw3 bw3 nq cq0 cq1 cq4 ck0 ck4 ck6 fq1
      have GX := GY
      have VX := VY
      have BX := BY
      clear GY VY BY
      have rq := GX.out.mem q hq
      have rk := GX.out.mem k hk
      rw [putM_self] at rq
      rw [putM_ne _ _ _ (Ne.symm qk)] at rk
      have cq0 : w3.cell? ⟨pb q, 0, none⟩ = some (.int .i64 TC) := (rq.cell 0).trans (rfl)
      have cq1 : w3.cell? ⟨pb q, 1, none⟩ = some (.int .i64 (-1)) := (rq.cell 1).trans (rfl)
      have cq4 : w3.cell? ⟨pb q, 4, none⟩ = some (.slice (la q) (s q).lg.length (lc q)) := (rq.cell 4).trans rfl
      have ck0 : w3.cell? ⟨pb k, 0, none⟩ = some (.int .i64 TC) := (rk.cell 0).trans (by rw [HTC.out]; rfl)
      have ck4 : w3.cell? ⟨pb k, 4, none⟩ = some (.slice (la k) (s k).lg.length (lc k)) := (rk.cell 4).trans rfl
      have ck6 : w3.cell? ⟨pb k, 6, none⟩ = some (.int .i64 (k : Int)) := (rk.cell 6).trans rfl
      have fq1 := rq.free 1
      clear rq rk
      go_wp2_with fail
      have lq := GX.out.ges hq
      have lk := GX.out.ges hk
      rw [putM_self] at lq
      rw [putM_ne _ _ _ (Ne.symm qk)] at lk
      dsimp only at lq
      have KN := fun wx (hx : Below w3.heap.size w3 wx) => hid (iNewer (la q) (lc q) (s q).lg (la k) (lc k) (s k).lg (by omega) (by omega) wx (lq.below hx) (lk.below hx))
      rw [← HNB.out] at KN
      clear lq lk
      have pq := (GX.out.mem q hq).lt
      have pk := (GX.out.mem k hk).lt
      go_region_held3 (fun wx => wx.cell? ⟨pb q, 0, none⟩ = some (.int .i64 TC) ∧ wx.cell? ⟨pb k, 0, none⟩ = some (.int .i64 TC) ∧ wx.cell? ⟨pb q, 4, none⟩ = some (.slice (la q) (s q).lg.length (lc q)) ∧ wx.cell? ⟨pb k, 4, none⟩ = some (.slice (la k) (s k).lg.length (lc k))) (first | with_reducible exact ⟨cq0, ck0, cq4, ck4⟩ | exact ⟨(hb9.cell pq).trans cq0, (hb9.cell pk).trans ck0, (hb9.cell pq).trans cq4, (hb9.cell pk).trans ck4⟩ | exact ⟨cq0, ck0, cq4, ck4⟩) ((go_at_call 47; refine (KN _ (Below.refl _ _).drew).out.mono ?_; rintro e w9 ⟨rfl, hb9⟩))
      have b9 : Below w3.heap.size w3 w9 := (Below.refl _ w3).drew.trans hb9
      have GY := hid (GX.out.below b9)
      have VY := hid (VX.out.below b9)
      have BY := hid (BX.out.trans (b9.mono (Nat.le_trans hBw VX.out.size)))
      clear GX VX BX b9 hb9 KN pq pk cq0 cq1 cq4 ck0 ck4 ck6 fq1
      have GX := GY
      have VX := VY
      have BX := BY
      clear GY VY BY
      have rq := GX.out.mem q hq
      have rk := GX.out.mem k hk
      rw [putM_self] at rq
      rw [putM_ne _ _ _ (Ne.symm qk)] at rk
      have cq0 : w9.cell? ⟨pb q, 0, none⟩ = some (.int .i64 TC) := (rq.cell 0).trans (rfl)
      have cq1 : w9.cell? ⟨pb q, 1, none⟩ = some (.int .i64 (-1)) := (rq.cell 1).trans (rfl)
      have cq4 : w9.cell? ⟨pb q, 4, none⟩ = some (.slice (la q) (s q).lg.length (lc q)) := (rq.cell 4).trans rfl
      have ck0 : w9.cell? ⟨pb k, 0, none⟩ = some (.int .i64 TC) := (rk.cell 0).trans (by rw [HTC.out]; rfl)
      have ck4 : w9.cell? ⟨pb k, 4, none⟩ = some (.slice (la k) (s k).lg.length (lc k)) := (rk.cell 4).trans rfl
      have ck6 : w9.cell? ⟨pb k, 6, none⟩ = some (.int .i64 (k : Int)) := (rk.cell 6).trans rfl
      have fq1 := rq.free 1
      have GE : Hid (GpL w9 B gb N (putM s q (gVote (s k) k (s q))) pb la lc mb) := by rw [EV.out, ML.out]; exact GX.out
      clear cq0 cq1 cq4 ck0 ck4 ck6 fq1
      go_wp2
      go_ret
      exact ⟨by rw [EW.out]; rfl, GE.out, VX.out, BX.out⟩
    | false =>
      have EW : Hid (G1 = true) := hid (by rw [HG1.out]; rw [ML.out]; unfold gWill; rw [← HNB.out]; simp [← HTC.out])
      have EV : Hid (gVote (s k) k (s q) = { gLate (s k) (s q) with vt := (k : Int) }) := hid (by unfold gVote; rw [← HG1.out, EW.out]; rfl)
      go_wp2_with fail
      go_quiet (fail)
      obtain ⟨w3, hw3⟩ : ∃ W, W = w1.drewN nq := ⟨_, rfl⟩
      have bw3 : Below w1.heap.size w1 w3 := by rw [hw3]; exact below_drewN' (Below.refl _ _) nq
      have GY := hid (GX.out.below bw3)
      have VY := hid (VX.out.below bw3)
      have BY := hid (BX.out.trans (bw3.mono (Nat.le_trans hBw VX.out.size)))
      rw [← hw3]
      clear GX VX BX hw3 bw3 nq cq0 cq1 cq4 ck0 ck4 ck6 fq1
      have GX := GY
      have VX := VY
      have BX := BY
      clear GY VY BY
      have rq := GX.out.mem q hq
      have rk := GX.out.mem k hk
      rw [putM_self] at rq
      rw [putM_ne _ _ _ (Ne.symm qk)] at rk
      have cq0 : w3.cell? ⟨pb q, 0, none⟩ = some (.int .i64 TC) := (rq.cell 0).trans (rfl)
      have cq1 : w3.cell? ⟨pb q, 1, none⟩ = some (.int .i64 (-1)) := (rq.cell 1).trans (rfl)
      have cq4 : w3.cell? ⟨pb q, 4, none⟩ = some (.slice (la q) (s q).lg.length (lc q)) := (rq.cell 4).trans rfl
      have ck0 : w3.cell? ⟨pb k, 0, none⟩ = some (.int .i64 TC) := (rk.cell 0).trans (by rw [HTC.out]; rfl)
      have ck4 : w3.cell? ⟨pb k, 4, none⟩ = some (.slice (la k) (s k).lg.length (lc k)) := (rk.cell 4).trans rfl
      have ck6 : w3.cell? ⟨pb k, 6, none⟩ = some (.int .i64 (k : Int)) := (rk.cell 6).trans rfl
      have fq1 := rq.free 1
      clear rq rk
      go_wp2_with fail
      have lq := GX.out.ges hq
      have lk := GX.out.ges hk
      rw [putM_self] at lq
      rw [putM_ne _ _ _ (Ne.symm qk)] at lk
      dsimp only at lq
      have KN := fun wx (hx : Below w3.heap.size w3 wx) => hid (iNewer (la q) (lc q) (s q).lg (la k) (lc k) (s k).lg (by omega) (by omega) wx (lq.below hx) (lk.below hx))
      rw [← HNB.out] at KN
      clear lq lk
      have pq := (GX.out.mem q hq).lt
      have pk := (GX.out.mem k hk).lt
      go_region_held3 (fun wx => wx.cell? ⟨pb q, 0, none⟩ = some (.int .i64 TC) ∧ wx.cell? ⟨pb k, 0, none⟩ = some (.int .i64 TC) ∧ wx.cell? ⟨pb q, 4, none⟩ = some (.slice (la q) (s q).lg.length (lc q)) ∧ wx.cell? ⟨pb k, 4, none⟩ = some (.slice (la k) (s k).lg.length (lc k))) (first | with_reducible exact ⟨cq0, ck0, cq4, ck4⟩ | exact ⟨(hb9.cell pq).trans cq0, (hb9.cell pk).trans ck0, (hb9.cell pq).trans cq4, (hb9.cell pk).trans ck4⟩ | exact ⟨cq0, ck0, cq4, ck4⟩) ((go_at_call 47; refine (KN _ (Below.refl _ _).drew).out.mono ?_; rintro e w9 ⟨rfl, hb9⟩))
      have b9 : Below w3.heap.size w3 w9 := (Below.refl _ w3).drew.trans hb9
      have GY := hid (GX.out.below b9)
      have VY := hid (VX.out.below b9)
      have BY := hid (BX.out.trans (b9.mono (Nat.le_trans hBw VX.out.size)))
      clear GX VX BX b9 hb9 KN pq pk cq0 cq1 cq4 ck0 ck4 ck6 fq1
      have GX := GY
      have VX := VY
      have BX := BY
      clear GY VY BY
      have rq := GX.out.mem q hq
      have rk := GX.out.mem k hk
      rw [putM_self] at rq
      rw [putM_ne _ _ _ (Ne.symm qk)] at rk
      have cq0 : w9.cell? ⟨pb q, 0, none⟩ = some (.int .i64 TC) := (rq.cell 0).trans (rfl)
      have cq1 : w9.cell? ⟨pb q, 1, none⟩ = some (.int .i64 (-1)) := (rq.cell 1).trans (rfl)
      have cq4 : w9.cell? ⟨pb q, 4, none⟩ = some (.slice (la q) (s q).lg.length (lc q)) := (rq.cell 4).trans rfl
      have ck0 : w9.cell? ⟨pb k, 0, none⟩ = some (.int .i64 TC) := (rk.cell 0).trans (by rw [HTC.out]; rfl)
      have ck4 : w9.cell? ⟨pb k, 4, none⟩ = some (.slice (la k) (s k).lg.length (lc k)) := (rk.cell 4).trans rfl
      have ck6 : w9.cell? ⟨pb k, 6, none⟩ = some (.int .i64 (k : Int)) := (rk.cell 6).trans rfl
      have fq1 := rq.free 1
      have GE : Hid (GpL (w9.setCell ⟨pb q, 1, none⟩ (.int .i64 (k : Int))) B gb N (putM s q (gVote (s k) k (s q))) pb la lc mb) := by
        have z := GX.out.setVt hq (k : Int)
        rw [EV.out, ML.out]
        rw [putM_self, putM_putM] at z
        exact z
      have VE := hid (VX.out.set (a := ⟨pb q, 1, none⟩) (.int .i64 (k : Int)) (GX.out.mem q hq) (.inl rfl))
      have BE := hid (BX.out.setCell (p := ⟨pb q, 1, none⟩) hpq.out (.int .i64 (k : Int)))
      clear GX VX BX rq rk
      go_wp2
      go_ret
      exact ⟨by rw [EW.out]; rfl, GE.out, VE.out, BE.out⟩
  · have ML : Hid (gLate (s k) (s q) = s q) := hid (by unfold gLate; rw [← HTC.out, if_neg (by rw [← HTQ.out]; exact hlate)])
    go_quiet (fail)
    have VX : Hid (Kq w w) := Kq.refl w
    have BX : Hid (Below B w w) := Below.refl _ _
    obtain ⟨w1, hw1⟩ : ∃ W, W = w.drewN nq := ⟨_, rfl⟩
    have bw1 : Below w.heap.size w w1 := by rw [hw1]; exact below_drewN' (Below.refl _ _) nq
    have GY := hid (GX.out.below bw1)
    have VY := hid (VX.out.below bw1)
    have BY := hid (BX.out.trans (bw1.mono (Nat.le_trans hBw VX.out.size)))
    rw [← hw1]
    clear GX VX BX hw1 bw1 nq cq0 cq1 cq4 ck0 ck4 ck6 fq1
    have GX := GY
    have VX := VY
    have BX := BY
    clear GY VY BY
    have rq := GX.out.mem q hq
    have rk := GX.out.mem k hk
    have cq0 : w1.cell? ⟨pb q, 0, none⟩ = some (.int .i64 TQ) := (rq.cell 0).trans (by rw [HTQ.out]; rfl)
    have cq1 : w1.cell? ⟨pb q, 1, none⟩ = some (.int .i64 VQ) := (rq.cell 1).trans (by rw [HVQ.out]; rfl)
    have cq4 : w1.cell? ⟨pb q, 4, none⟩ = some (.slice (la q) (s q).lg.length (lc q)) := (rq.cell 4).trans rfl
    have ck0 : w1.cell? ⟨pb k, 0, none⟩ = some (.int .i64 TC) := (rk.cell 0).trans (by rw [HTC.out]; rfl)
    have ck4 : w1.cell? ⟨pb k, 4, none⟩ = some (.slice (la k) (s k).lg.length (lc k)) := (rk.cell 4).trans rfl
    have ck6 : w1.cell? ⟨pb k, 6, none⟩ = some (.int .i64 (k : Int)) := (rk.cell 6).trans rfl
    have fq1 := rq.free 1
    clear rq rk
    obtain ⟨NB, hNB⟩ : ∃ n, n = gNewer (s q).lg (s k).lg := ⟨_, rfl⟩
    have HNB := hid hNB
    clear hNB
    by_cases ht : TQ = TC
    · have d1 : (TQ != TC) = false := by rw [bne_eq_false_iff_eq]; exact ht
      have HTT := hid ht
      clear ht
      by_cases hv1 : VQ = -1
      · have d2 : (VQ == -1) = true := by rw [beq_iff_eq]; exact hv1
        have HV1 := hid hv1
        clear hv1
        cases NB with
        | true =>
          have EW : Hid (G1 = false) := hid (by rw [HG1.out]; rw [ML.out]; unfold gWill; rw [← HNB.out, ← HTC.out, ← HTQ.out, ← HVQ.out]; simp [HTT.out, HV1.out])
          have EV : Hid (gVote (s k) k (s q) = gLate (s k) (s q)) := hid (by unfold gVote; rw [← HG1.out, EW.out]; rfl)
          go_wp2_with fail
          go_quiet (fail)
          obtain ⟨w3, hw3⟩ : ∃ W, W = w1.drewN nq := ⟨_, rfl⟩
          have bw3 : Below w1.heap.size w1 w3 := by rw [hw3]; exact below_drewN' (Below.refl _ _) nq
          have GY := hid (GX.out.below bw3)
          have VY := hid (VX.out.below bw3)
          have BY := hid (BX.out.trans (bw3.mono (Nat.le_trans hBw VX.out.size)))
          rw [← hw3]
          clear GX VX BX hw3 bw3 nq cq0 cq1 cq4 ck0 ck4 ck6 fq1
          have GX := GY
          have VX := VY
          have BX := BY
          clear GY VY BY
          have rq := GX.out.mem q hq
          have rk := GX.out.mem k hk
          have cq0 : w3.cell? ⟨pb q, 0, none⟩ = some (.int .i64 TQ) := (rq.cell 0).trans (by rw [HTQ.out]; rfl)
          have cq1 : w3.cell? ⟨pb q, 1, none⟩ = some (.int .i64 VQ) := (rq.cell 1).trans (by rw [HVQ.out]; rfl)
          have cq4 : w3.cell? ⟨pb q, 4, none⟩ = some (.slice (la q) (s q).lg.length (lc q)) := (rq.cell 4).trans rfl
          have ck0 : w3.cell? ⟨pb k, 0, none⟩ = some (.int .i64 TC) := (rk.cell 0).trans (by rw [HTC.out]; rfl)
          have ck4 : w3.cell? ⟨pb k, 4, none⟩ = some (.slice (la k) (s k).lg.length (lc k)) := (rk.cell 4).trans rfl
          have ck6 : w3.cell? ⟨pb k, 6, none⟩ = some (.int .i64 (k : Int)) := (rk.cell 6).trans rfl
          have fq1 := rq.free 1
          clear rq rk
          go_wp2_with fail
          have lq := GX.out.ges hq
          have lk := GX.out.ges hk
          have KN := fun wx (hx : Below w3.heap.size w3 wx) => hid (iNewer (la q) (lc q) (s q).lg (la k) (lc k) (s k).lg (by omega) (by omega) wx (lq.below hx) (lk.below hx))
          rw [← HNB.out] at KN
          clear lq lk
          have pq := (GX.out.mem q hq).lt
          have pk := (GX.out.mem k hk).lt
          go_region_held3 (fun wx => wx.cell? ⟨pb q, 0, none⟩ = some (.int .i64 TQ) ∧ wx.cell? ⟨pb k, 0, none⟩ = some (.int .i64 TC) ∧ wx.cell? ⟨pb q, 4, none⟩ = some (.slice (la q) (s q).lg.length (lc q)) ∧ wx.cell? ⟨pb k, 4, none⟩ = some (.slice (la k) (s k).lg.length (lc k))) (first | with_reducible exact ⟨cq0, ck0, cq4, ck4⟩ | exact ⟨(hb9.cell pq).trans cq0, (hb9.cell pk).trans ck0, (hb9.cell pq).trans cq4, (hb9.cell pk).trans ck4⟩ | exact ⟨cq0, ck0, cq4, ck4⟩) ((go_at_call 47; refine (KN _ (Below.refl _ _).drew).out.mono ?_; rintro e w9 ⟨rfl, hb9⟩))
          have b9 : Below w3.heap.size w3 w9 := (Below.refl _ w3).drew.trans hb9
          have GY := hid (GX.out.below b9)
          have VY := hid (VX.out.below b9)
          have BY := hid (BX.out.trans (b9.mono (Nat.le_trans hBw VX.out.size)))
          clear GX VX BX b9 hb9 KN pq pk cq0 cq1 cq4 ck0 ck4 ck6 fq1
          have GX := GY
          have VX := VY
          have BX := BY
          clear GY VY BY
          have rq := GX.out.mem q hq
          have rk := GX.out.mem k hk
          have cq0 : w9.cell? ⟨pb q, 0, none⟩ = some (.int .i64 TQ) := (rq.cell 0).trans (by rw [HTQ.out]; rfl)
          have cq1 : w9.cell? ⟨pb q, 1, none⟩ = some (.int .i64 VQ) := (rq.cell 1).trans (by rw [HVQ.out]; rfl)
          have cq4 : w9.cell? ⟨pb q, 4, none⟩ = some (.slice (la q) (s q).lg.length (lc q)) := (rq.cell 4).trans rfl
          have ck0 : w9.cell? ⟨pb k, 0, none⟩ = some (.int .i64 TC) := (rk.cell 0).trans (by rw [HTC.out]; rfl)
          have ck4 : w9.cell? ⟨pb k, 4, none⟩ = some (.slice (la k) (s k).lg.length (lc k)) := (rk.cell 4).trans rfl
          have ck6 : w9.cell? ⟨pb k, 6, none⟩ = some (.int .i64 (k : Int)) := (rk.cell 6).trans rfl
          have fq1 := rq.free 1
          have GE : Hid (GpL w9 B gb N (putM s q (gVote (s k) k (s q))) pb la lc mb) := by rw [EV.out, ML.out, putM_same]; exact GX.out
          clear cq0 cq1 cq4 ck0 ck4 ck6 fq1
          go_wp2
          go_ret
          exact ⟨by rw [EW.out]; rfl, GE.out, VX.out, BX.out⟩
        | false =>
          have EW : Hid (G1 = true) := hid (by rw [HG1.out]; rw [ML.out]; unfold gWill; rw [← HNB.out, ← HTC.out, ← HTQ.out, ← HVQ.out]; simp [HTT.out, HV1.out])
          have EV : Hid (gVote (s k) k (s q) = { gLate (s k) (s q) with vt := (k : Int) }) := hid (by unfold gVote; rw [← HG1.out, EW.out]; rfl)
          go_wp2_with fail
          go_quiet (fail)
          obtain ⟨w3, hw3⟩ : ∃ W, W = w1.drewN nq := ⟨_, rfl⟩
          have bw3 : Below w1.heap.size w1 w3 := by rw [hw3]; exact below_drewN' (Below.refl _ _) nq
          have GY := hid (GX.out.below bw3)
          have VY := hid (VX.out.below bw3)
          have BY := hid (BX.out.trans (bw3.mono (Nat.le_trans hBw VX.out.size)))
          rw [← hw3]
          clear GX VX BX hw3 bw3 nq cq0 cq1 cq4 ck0 ck4 ck6 fq1
          have GX := GY
          have VX := VY
          have BX := BY
          clear GY VY BY
          have rq := GX.out.mem q hq
          have rk := GX.out.mem k hk
          have cq0 : w3.cell? ⟨pb q, 0, none⟩ = some (.int .i64 TQ) := (rq.cell 0).trans (by rw [HTQ.out]; rfl)
          have cq1 : w3.cell? ⟨pb q, 1, none⟩ = some (.int .i64 VQ) := (rq.cell 1).trans (by rw [HVQ.out]; rfl)
          have cq4 : w3.cell? ⟨pb q, 4, none⟩ = some (.slice (la q) (s q).lg.length (lc q)) := (rq.cell 4).trans rfl
          have ck0 : w3.cell? ⟨pb k, 0, none⟩ = some (.int .i64 TC) := (rk.cell 0).trans (by rw [HTC.out]; rfl)
          have ck4 : w3.cell? ⟨pb k, 4, none⟩ = some (.slice (la k) (s k).lg.length (lc k)) := (rk.cell 4).trans rfl
          have ck6 : w3.cell? ⟨pb k, 6, none⟩ = some (.int .i64 (k : Int)) := (rk.cell 6).trans rfl
          have fq1 := rq.free 1
          clear rq rk
          go_wp2_with fail
          have lq := GX.out.ges hq
          have lk := GX.out.ges hk
          have KN := fun wx (hx : Below w3.heap.size w3 wx) => hid (iNewer (la q) (lc q) (s q).lg (la k) (lc k) (s k).lg (by omega) (by omega) wx (lq.below hx) (lk.below hx))
          rw [← HNB.out] at KN
          clear lq lk
          have pq := (GX.out.mem q hq).lt
          have pk := (GX.out.mem k hk).lt
          go_region_held3 (fun wx => wx.cell? ⟨pb q, 0, none⟩ = some (.int .i64 TQ) ∧ wx.cell? ⟨pb k, 0, none⟩ = some (.int .i64 TC) ∧ wx.cell? ⟨pb q, 4, none⟩ = some (.slice (la q) (s q).lg.length (lc q)) ∧ wx.cell? ⟨pb k, 4, none⟩ = some (.slice (la k) (s k).lg.length (lc k))) (first | with_reducible exact ⟨cq0, ck0, cq4, ck4⟩ | exact ⟨(hb9.cell pq).trans cq0, (hb9.cell pk).trans ck0, (hb9.cell pq).trans cq4, (hb9.cell pk).trans ck4⟩ | exact ⟨cq0, ck0, cq4, ck4⟩) ((go_at_call 47; refine (KN _ (Below.refl _ _).drew).out.mono ?_; rintro e w9 ⟨rfl, hb9⟩))
          have b9 : Below w3.heap.size w3 w9 := (Below.refl _ w3).drew.trans hb9
          have GY := hid (GX.out.below b9)
          have VY := hid (VX.out.below b9)
          have BY := hid (BX.out.trans (b9.mono (Nat.le_trans hBw VX.out.size)))
          clear GX VX BX b9 hb9 KN pq pk cq0 cq1 cq4 ck0 ck4 ck6 fq1
          have GX := GY
          have VX := VY
          have BX := BY
          clear GY VY BY
          have rq := GX.out.mem q hq
          have rk := GX.out.mem k hk
          have cq0 : w9.cell? ⟨pb q, 0, none⟩ = some (.int .i64 TQ) := (rq.cell 0).trans (by rw [HTQ.out]; rfl)
          have cq1 : w9.cell? ⟨pb q, 1, none⟩ = some (.int .i64 VQ) := (rq.cell 1).trans (by rw [HVQ.out]; rfl)
          have cq4 : w9.cell? ⟨pb q, 4, none⟩ = some (.slice (la q) (s q).lg.length (lc q)) := (rq.cell 4).trans rfl
          have ck0 : w9.cell? ⟨pb k, 0, none⟩ = some (.int .i64 TC) := (rk.cell 0).trans (by rw [HTC.out]; rfl)
          have ck4 : w9.cell? ⟨pb k, 4, none⟩ = some (.slice (la k) (s k).lg.length (lc k)) := (rk.cell 4).trans rfl
          have ck6 : w9.cell? ⟨pb k, 6, none⟩ = some (.int .i64 (k : Int)) := (rk.cell 6).trans rfl
          have fq1 := rq.free 1
          have GE : Hid (GpL (w9.setCell ⟨pb q, 1, none⟩ (.int .i64 (k : Int))) B gb N (putM s q (gVote (s k) k (s q))) pb la lc mb) := by
            have z := GX.out.setVt hq (k : Int)
            rw [EV.out, ML.out]
            exact z
          have VE := hid (VX.out.set (a := ⟨pb q, 1, none⟩) (.int .i64 (k : Int)) (GX.out.mem q hq) (.inl rfl))
          have BE := hid (BX.out.setCell (p := ⟨pb q, 1, none⟩) hpq.out (.int .i64 (k : Int)))
          clear GX VX BX rq rk
          go_wp2
          go_ret
          exact ⟨by rw [EW.out]; rfl, GE.out, VE.out, BE.out⟩
      · have d2 : (VQ == -1) = false := by rw [beq_eq_false_iff_ne]; exact hv1
        have HV1 := hid hv1
        clear hv1
        by_cases hv2 : VQ = (k : Int)
        · have d3 : (VQ == (k : Int)) = true := by rw [beq_iff_eq]; exact hv2
          have HV2 := hid hv2
          clear hv2
          cases NB with
          | true =>
            have EW : Hid (G1 = false) := hid (by rw [HG1.out]; rw [ML.out]; unfold gWill; rw [← HNB.out, ← HTC.out, ← HTQ.out, ← HVQ.out]; simp [HTT.out, HV2.out])
            have EV : Hid (gVote (s k) k (s q) = gLate (s k) (s q)) := hid (by unfold gVote; rw [← HG1.out, EW.out]; rfl)
            go_wp2_with fail
            go_quiet (fail)
            obtain ⟨w3, hw3⟩ : ∃ W, W = w1.drewN nq := ⟨_, rfl⟩
            have bw3 : Below w1.heap.size w1 w3 := by rw [hw3]; exact below_drewN' (Below.refl _ _) nq
            have GY := hid (GX.out.below bw3)
            have VY := hid (VX.out.below bw3)
            have BY := hid (BX.out.trans (bw3.mono (Nat.le_trans hBw VX.out.size)))
            rw [← hw3]
            clear GX VX BX hw3 bw3 nq cq0 cq1 cq4 ck0 ck4 ck6 fq1
            have GX := GY
            have VX := VY
            have BX := BY
            clear GY VY BY
            have rq := GX.out.mem q hq
            have rk := GX.out.mem k hk
            have cq0 : w3.cell? ⟨pb q, 0, none⟩ = some (.int .i64 TQ) := (rq.cell 0).trans (by rw [HTQ.out]; rfl)
            have cq1 : w3.cell? ⟨pb q, 1, none⟩ = some (.int .i64 VQ) := (rq.cell 1).trans (by rw [HVQ.out]; rfl)
            have cq4 : w3.cell? ⟨pb q, 4, none⟩ = some (.slice (la q) (s q).lg.length (lc q)) := (rq.cell 4).trans rfl
            have ck0 : w3.cell? ⟨pb k, 0, none⟩ = some (.int .i64 TC) := (rk.cell 0).trans (by rw [HTC.out]; rfl)
            have ck4 : w3.cell? ⟨pb k, 4, none⟩ = some (.slice (la k) (s k).lg.length (lc k)) := (rk.cell 4).trans rfl
            have ck6 : w3.cell? ⟨pb k, 6, none⟩ = some (.int .i64 (k : Int)) := (rk.cell 6).trans rfl
            have fq1 := rq.free 1
            clear rq rk
            go_wp2_with fail
            have lq := GX.out.ges hq
            have lk := GX.out.ges hk
            have KN := fun wx (hx : Below w3.heap.size w3 wx) => hid (iNewer (la q) (lc q) (s q).lg (la k) (lc k) (s k).lg (by omega) (by omega) wx (lq.below hx) (lk.below hx))
            rw [← HNB.out] at KN
            clear lq lk
            have pq := (GX.out.mem q hq).lt
            have pk := (GX.out.mem k hk).lt
            go_region_held3 (fun wx => wx.cell? ⟨pb q, 0, none⟩ = some (.int .i64 TQ) ∧ wx.cell? ⟨pb k, 0, none⟩ = some (.int .i64 TC) ∧ wx.cell? ⟨pb q, 4, none⟩ = some (.slice (la q) (s q).lg.length (lc q)) ∧ wx.cell? ⟨pb k, 4, none⟩ = some (.slice (la k) (s k).lg.length (lc k))) (first | with_reducible exact ⟨cq0, ck0, cq4, ck4⟩ | exact ⟨(hb9.cell pq).trans cq0, (hb9.cell pk).trans ck0, (hb9.cell pq).trans cq4, (hb9.cell pk).trans ck4⟩ | exact ⟨cq0, ck0, cq4, ck4⟩) ((go_at_call 47; refine (KN _ (Below.refl _ _).drew).out.mono ?_; rintro e w9 ⟨rfl, hb9⟩))
            have b9 : Below w3.heap.size w3 w9 := (Below.refl _ w3).drew.trans hb9
            have GY := hid (GX.out.below b9)
            have VY := hid (VX.out.below b9)
            have BY := hid (BX.out.trans (b9.mono (Nat.le_trans hBw VX.out.size)))
            clear GX VX BX b9 hb9 KN pq pk cq0 cq1 cq4 ck0 ck4 ck6 fq1
            have GX := GY
            have VX := VY
            have BX := BY
            clear GY VY BY
            have rq := GX.out.mem q hq
            have rk := GX.out.mem k hk
            have cq0 : w9.cell? ⟨pb q, 0, none⟩ = some (.int .i64 TQ) := (rq.cell 0).trans (by rw [HTQ.out]; rfl)
            have cq1 : w9.cell? ⟨pb q, 1, none⟩ = some (.int .i64 VQ) := (rq.cell 1).trans (by rw [HVQ.out]; rfl)
            have cq4 : w9.cell? ⟨pb q, 4, none⟩ = some (.slice (la q) (s q).lg.length (lc q)) := (rq.cell 4).trans rfl
            have ck0 : w9.cell? ⟨pb k, 0, none⟩ = some (.int .i64 TC) := (rk.cell 0).trans (by rw [HTC.out]; rfl)
            have ck4 : w9.cell? ⟨pb k, 4, none⟩ = some (.slice (la k) (s k).lg.length (lc k)) := (rk.cell 4).trans rfl
            have ck6 : w9.cell? ⟨pb k, 6, none⟩ = some (.int .i64 (k : Int)) := (rk.cell 6).trans rfl
            have fq1 := rq.free 1
            have GE : Hid (GpL w9 B gb N (putM s q (gVote (s k) k (s q))) pb la lc mb) := by rw [EV.out, ML.out, putM_same]; exact GX.out
            clear cq0 cq1 cq4 ck0 ck4 ck6 fq1
            go_wp2
            go_ret
            exact ⟨by rw [EW.out]; rfl, GE.out, VX.out, BX.out⟩
          | false =>
            have EW : Hid (G1 = true) := hid (by rw [HG1.out]; rw [ML.out]; unfold gWill; rw [← HNB.out, ← HTC.out, ← HTQ.out, ← HVQ.out]; simp [HTT.out, HV2.out])
            have EV : Hid (gVote (s k) k (s q) = { gLate (s k) (s q) with vt := (k : Int) }) := hid (by unfold gVote; rw [← HG1.out, EW.out]; rfl)
            go_wp2_with fail
            go_quiet (fail)
            obtain ⟨w3, hw3⟩ : ∃ W, W = w1.drewN nq := ⟨_, rfl⟩
            have bw3 : Below w1.heap.size w1 w3 := by rw [hw3]; exact below_drewN' (Below.refl _ _) nq
            have GY := hid (GX.out.below bw3)
            have VY := hid (VX.out.below bw3)
            have BY := hid (BX.out.trans (bw3.mono (Nat.le_trans hBw VX.out.size)))
            rw [← hw3]
            clear GX VX BX hw3 bw3 nq cq0 cq1 cq4 ck0 ck4 ck6 fq1
            have GX := GY
            have VX := VY
            have BX := BY
            clear GY VY BY
            have rq := GX.out.mem q hq
            have rk := GX.out.mem k hk
            have cq0 : w3.cell? ⟨pb q, 0, none⟩ = some (.int .i64 TQ) := (rq.cell 0).trans (by rw [HTQ.out]; rfl)
            have cq1 : w3.cell? ⟨pb q, 1, none⟩ = some (.int .i64 VQ) := (rq.cell 1).trans (by rw [HVQ.out]; rfl)
            have cq4 : w3.cell? ⟨pb q, 4, none⟩ = some (.slice (la q) (s q).lg.length (lc q)) := (rq.cell 4).trans rfl
            have ck0 : w3.cell? ⟨pb k, 0, none⟩ = some (.int .i64 TC) := (rk.cell 0).trans (by rw [HTC.out]; rfl)
            have ck4 : w3.cell? ⟨pb k, 4, none⟩ = some (.slice (la k) (s k).lg.length (lc k)) := (rk.cell 4).trans rfl
            have ck6 : w3.cell? ⟨pb k, 6, none⟩ = some (.int .i64 (k : Int)) := (rk.cell 6).trans rfl
            have fq1 := rq.free 1
            clear rq rk
            go_wp2_with fail
            have lq := GX.out.ges hq
            have lk := GX.out.ges hk
            have KN := fun wx (hx : Below w3.heap.size w3 wx) => hid (iNewer (la q) (lc q) (s q).lg (la k) (lc k) (s k).lg (by omega) (by omega) wx (lq.below hx) (lk.below hx))
            rw [← HNB.out] at KN
            clear lq lk
            have pq := (GX.out.mem q hq).lt
            have pk := (GX.out.mem k hk).lt
            go_region_held3 (fun wx => wx.cell? ⟨pb q, 0, none⟩ = some (.int .i64 TQ) ∧ wx.cell? ⟨pb k, 0, none⟩ = some (.int .i64 TC) ∧ wx.cell? ⟨pb q, 4, none⟩ = some (.slice (la q) (s q).lg.length (lc q)) ∧ wx.cell? ⟨pb k, 4, none⟩ = some (.slice (la k) (s k).lg.length (lc k))) (first | with_reducible exact ⟨cq0, ck0, cq4, ck4⟩ | exact ⟨(hb9.cell pq).trans cq0, (hb9.cell pk).trans ck0, (hb9.cell pq).trans cq4, (hb9.cell pk).trans ck4⟩ | exact ⟨cq0, ck0, cq4, ck4⟩) ((go_at_call 47; refine (KN _ (Below.refl _ _).drew).out.mono ?_; rintro e w9 ⟨rfl, hb9⟩))
            have b9 : Below w3.heap.size w3 w9 := (Below.refl _ w3).drew.trans hb9
            have GY := hid (GX.out.below b9)
            have VY := hid (VX.out.below b9)
            have BY := hid (BX.out.trans (b9.mono (Nat.le_trans hBw VX.out.size)))
            clear GX VX BX b9 hb9 KN pq pk cq0 cq1 cq4 ck0 ck4 ck6 fq1
            have GX := GY
            have VX := VY
            have BX := BY
            clear GY VY BY
            have rq := GX.out.mem q hq
            have rk := GX.out.mem k hk
            have cq0 : w9.cell? ⟨pb q, 0, none⟩ = some (.int .i64 TQ) := (rq.cell 0).trans (by rw [HTQ.out]; rfl)
            have cq1 : w9.cell? ⟨pb q, 1, none⟩ = some (.int .i64 VQ) := (rq.cell 1).trans (by rw [HVQ.out]; rfl)
            have cq4 : w9.cell? ⟨pb q, 4, none⟩ = some (.slice (la q) (s q).lg.length (lc q)) := (rq.cell 4).trans rfl
            have ck0 : w9.cell? ⟨pb k, 0, none⟩ = some (.int .i64 TC) := (rk.cell 0).trans (by rw [HTC.out]; rfl)
            have ck4 : w9.cell? ⟨pb k, 4, none⟩ = some (.slice (la k) (s k).lg.length (lc k)) := (rk.cell 4).trans rfl
            have ck6 : w9.cell? ⟨pb k, 6, none⟩ = some (.int .i64 (k : Int)) := (rk.cell 6).trans rfl
            have fq1 := rq.free 1
            have GE : Hid (GpL (w9.setCell ⟨pb q, 1, none⟩ (.int .i64 (k : Int))) B gb N (putM s q (gVote (s k) k (s q))) pb la lc mb) := by
              have z := GX.out.setVt hq (k : Int)
              rw [EV.out, ML.out]
              exact z
            have VE := hid (VX.out.set (a := ⟨pb q, 1, none⟩) (.int .i64 (k : Int)) (GX.out.mem q hq) (.inl rfl))
            have BE := hid (BX.out.setCell (p := ⟨pb q, 1, none⟩) hpq.out (.int .i64 (k : Int)))
            clear GX VX BX rq rk
            go_wp2
            go_ret
            exact ⟨by rw [EW.out]; rfl, GE.out, VE.out, BE.out⟩
        · have d3 : (VQ == (k : Int)) = false := by rw [beq_eq_false_iff_ne]; exact hv2
          have HV2 := hid hv2
          clear hv2
          have EW : Hid (G1 = false) := hid (by rw [HG1.out]; rw [ML.out]; unfold gWill; rw [← HNB.out, ← HTC.out, ← HTQ.out, ← HVQ.out]; simp [HV1.out, HV2.out])
          have EV : Hid (gVote (s k) k (s q) = gLate (s k) (s q)) := hid (by unfold gVote; rw [← HG1.out, EW.out]; rfl)
          go_wp2_with fail
          go_quiet (fail)
          obtain ⟨w3, hw3⟩ : ∃ W, W = w1.drewN nq := ⟨_, rfl⟩
          have bw3 : Below w1.heap.size w1 w3 := by rw [hw3]; exact below_drewN' (Below.refl _ _) nq
          have GY := hid (GX.out.below bw3)
          have VY := hid (VX.out.below bw3)
          have BY := hid (BX.out.trans (bw3.mono (Nat.le_trans hBw VX.out.size)))
          rw [← hw3]
          clear GX VX BX hw3 bw3 nq cq0 cq1 cq4 ck0 ck4 ck6 fq1
          have GX := GY
          have VX := VY
          have BX := BY
          clear GY VY BY
          have rq := GX.out.mem q hq
          have rk := GX.out.mem k hk
          have cq0 : w3.cell? ⟨pb q, 0, none⟩ = some (.int .i64 TQ) := (rq.cell 0).trans (by rw [HTQ.out]; rfl)
          have cq1 : w3.cell? ⟨pb q, 1, none⟩ = some (.int .i64 VQ) := (rq.cell 1).trans (by rw [HVQ.out]; rfl)
          have cq4 : w3.cell? ⟨pb q, 4, none⟩ = some (.slice (la q) (s q).lg.length (lc q)) := (rq.cell 4).trans rfl
          have ck0 : w3.cell? ⟨pb k, 0, none⟩ = some (.int .i64 TC) := (rk.cell 0).trans (by rw [HTC.out]; rfl)
          have ck4 : w3.cell? ⟨pb k, 4, none⟩ = some (.slice (la k) (s k).lg.length (lc k)) := (rk.cell 4).trans rfl
          have ck6 : w3.cell? ⟨pb k, 6, none⟩ = some (.int .i64 (k : Int)) := (rk.cell 6).trans rfl
          have fq1 := rq.free 1
          clear rq rk
          go_wp2_with fail
          go_quiet (fail)
          obtain ⟨w9, hw9⟩ : ∃ W, W = w3.drewN nq := ⟨_, rfl⟩
          have bw9 : Below w3.heap.size w3 w9 := by rw [hw9]; exact below_drewN' (Below.refl _ _) nq
          have GY := hid (GX.out.below bw9)
          have VY := hid (VX.out.below bw9)
          have BY := hid (BX.out.trans (bw9.mono (Nat.le_trans hBw VX.out.size)))
          rw [← hw9]
          clear GX VX BX hw9 bw9 nq cq0 cq1 cq4 ck0 ck4 ck6 fq1
          have GX := GY
          have VX := VY
          have BX := BY
          clear GY VY BY
          have rq := GX.out.mem q hq
          have rk := GX.out.mem k hk
          have cq0 : w9.cell? ⟨pb q, 0, none⟩ = some (.int .i64 TQ) := (rq.cell 0).trans (by rw [HTQ.out]; rfl)
          have cq1 : w9.cell? ⟨pb q, 1, none⟩ = some (.int .i64 VQ) := (rq.cell 1).trans (by rw [HVQ.out]; rfl)
          have cq4 : w9.cell? ⟨pb q, 4, none⟩ = some (.slice (la q) (s q).lg.length (lc q)) := (rq.cell 4).trans rfl
          have ck0 : w9.cell? ⟨pb k, 0, none⟩ = some (.int .i64 TC) := (rk.cell 0).trans (by rw [HTC.out]; rfl)
          have ck4 : w9.cell? ⟨pb k, 4, none⟩ = some (.slice (la k) (s k).lg.length (lc k)) := (rk.cell 4).trans rfl
          have ck6 : w9.cell? ⟨pb k, 6, none⟩ = some (.int .i64 (k : Int)) := (rk.cell 6).trans rfl
          have fq1 := rq.free 1
          clear rq rk
          have GE : Hid (GpL w9 B gb N (putM s q (gVote (s k) k (s q))) pb la lc mb) := by rw [EV.out, ML.out, putM_same]; exact GX.out
          clear cq0 cq1 cq4 ck0 ck4 ck6 fq1
          go_wp2
          go_ret
          exact ⟨by rw [EW.out]; rfl, GE.out, VX.out, BX.out⟩
    · have d1 : (TQ != TC) = true := by rw [bne_iff_ne]; exact ht
      have HTT := hid ht
      clear ht
      by_cases hv1 : VQ = -1
      · have d2 : (VQ == -1) = true := by rw [beq_iff_eq]; exact hv1
        clear hv1
        have EW : Hid (G1 = false) := hid (by rw [HG1.out]; rw [ML.out]; unfold gWill; rw [← HNB.out, ← HTC.out, ← HTQ.out, ← HVQ.out]; simp [HTT.out])
        have EV : Hid (gVote (s k) k (s q) = gLate (s k) (s q)) := hid (by unfold gVote; rw [← HG1.out, EW.out]; rfl)
        go_wp2_with fail
        go_quiet (fail)
        obtain ⟨w3, hw3⟩ : ∃ W, W = w1.drewN nq := ⟨_, rfl⟩
        have bw3 : Below w1.heap.size w1 w3 := by rw [hw3]; exact below_drewN' (Below.refl _ _) nq
        have GY := hid (GX.out.below bw3)
        have VY := hid (VX.out.below bw3)
        have BY := hid (BX.out.trans (bw3.mono (Nat.le_trans hBw VX.out.size)))
        rw [← hw3]
        clear GX VX BX hw3 bw3 nq cq0 cq1 cq4 ck0 ck4 ck6 fq1
        have GX := GY
        have VX := VY
        have BX := BY
        clear GY VY BY
        have rq := GX.out.mem q hq
        have rk := GX.out.mem k hk
        have cq0 : w3.cell? ⟨pb q, 0, none⟩ = some (.int .i64 TQ) := (rq.cell 0).trans (by rw [HTQ.out]; rfl)
        have cq1 : w3.cell? ⟨pb q, 1, none⟩ = some (.int .i64 VQ) := (rq.cell 1).trans (by rw [HVQ.out]; rfl)
        have cq4 : w3.cell? ⟨pb q, 4, none⟩ = some (.slice (la q) (s q).lg.length (lc q)) := (rq.cell 4).trans rfl
        have ck0 : w3.cell? ⟨pb k, 0, none⟩ = some (.int .i64 TC) := (rk.cell 0).trans (by rw [HTC.out]; rfl)
        have ck4 : w3.cell? ⟨pb k, 4, none⟩ = some (.slice (la k) (s k).lg.length (lc k)) := (rk.cell 4).trans rfl
        have ck6 : w3.cell? ⟨pb k, 6, none⟩ = some (.int .i64 (k : Int)) := (rk.cell 6).trans rfl
        have fq1 := rq.free 1
        clear rq rk
        go_wp2_with fail
        go_quiet (fail)
        obtain ⟨w9, hw9⟩ : ∃ W, W = w3.drewN nq := ⟨_, rfl⟩
        have bw9 : Below w3.heap.size w3 w9 := by rw [hw9]; exact below_drewN' (Below.refl _ _) nq
        have GY := hid (GX.out.below bw9)
        have VY := hid (VX.out.below bw9)
        have BY := hid (BX.out.trans (bw9.mono (Nat.le_trans hBw VX.out.size)))
        rw [← hw9]
        clear GX VX BX hw9 bw9 nq cq0 cq1 cq4 ck0 ck4 ck6 fq1
        have GX := GY
        have VX := VY
        have BX := BY
        clear GY VY BY
        have rq := GX.out.mem q hq
        have rk := GX.out.mem k hk
        have cq0 : w9.cell? ⟨pb q, 0, none⟩ = some (.int .i64 TQ) := (rq.cell 0).trans (by rw [HTQ.out]; rfl)
        have cq1 : w9.cell? ⟨pb q, 1, none⟩ = some (.int .i64 VQ) := (rq.cell 1).trans (by rw [HVQ.out]; rfl)
        have cq4 : w9.cell? ⟨pb q, 4, none⟩ = some (.slice (la q) (s q).lg.length (lc q)) := (rq.cell 4).trans rfl
        have ck0 : w9.cell? ⟨pb k, 0, none⟩ = some (.int .i64 TC) := (rk.cell 0).trans (by rw [HTC.out]; rfl)
        have ck4 : w9.cell? ⟨pb k, 4, none⟩ = some (.slice (la k) (s k).lg.length (lc k)) := (rk.cell 4).trans rfl
        have ck6 : w9.cell? ⟨pb k, 6, none⟩ = some (.int .i64 (k : Int)) := (rk.cell 6).trans rfl
        have fq1 := rq.free 1
        clear rq rk
        have GE : Hid (GpL w9 B gb N (putM s q (gVote (s k) k (s q))) pb la lc mb) := by rw [EV.out, ML.out, putM_same]; exact GX.out
        clear cq0 cq1 cq4 ck0 ck4 ck6 fq1
        go_wp2
        go_ret
        exact ⟨by rw [EW.out]; rfl, GE.out, VX.out, BX.out⟩
      · have d2 : (VQ == -1) = false := by rw [beq_eq_false_iff_ne]; exact hv1
        clear hv1
        by_cases hv2 : VQ = (k : Int)
        · have d3 : (VQ == (k : Int)) = true := by rw [beq_iff_eq]; exact hv2
          clear hv2
          have EW : Hid (G1 = false) := hid (by rw [HG1.out]; rw [ML.out]; unfold gWill; rw [← HNB.out, ← HTC.out, ← HTQ.out, ← HVQ.out]; simp [HTT.out])
          have EV : Hid (gVote (s k) k (s q) = gLate (s k) (s q)) := hid (by unfold gVote; rw [← HG1.out, EW.out]; rfl)
          go_wp2_with fail
          go_quiet (fail)
          obtain ⟨w3, hw3⟩ : ∃ W, W = w1.drewN nq := ⟨_, rfl⟩
          have bw3 : Below w1.heap.size w1 w3 := by rw [hw3]; exact below_drewN' (Below.refl _ _) nq
          have GY := hid (GX.out.below bw3)
          have VY := hid (VX.out.below bw3)
          have BY := hid (BX.out.trans (bw3.mono (Nat.le_trans hBw VX.out.size)))
          rw [← hw3]
          clear GX VX BX hw3 bw3 nq cq0 cq1 cq4 ck0 ck4 ck6 fq1
          have GX := GY
          have VX := VY
          have BX := BY
          clear GY VY BY
          have rq := GX.out.mem q hq
          have rk := GX.out.mem k hk
          have cq0 : w3.cell? ⟨pb q, 0, none⟩ = some (.int .i64 TQ) := (rq.cell 0).trans (by rw [HTQ.out]; rfl)
          have cq1 : w3.cell? ⟨pb q, 1, none⟩ = some (.int .i64 VQ) := (rq.cell 1).trans (by rw [HVQ.out]; rfl)
          have cq4 : w3.cell? ⟨pb q, 4, none⟩ = some (.slice (la q) (s q).lg.length (lc q)) := (rq.cell 4).trans rfl
          have ck0 : w3.cell? ⟨pb k, 0, none⟩ = some (.int .i64 TC) := (rk.cell 0).trans (by rw [HTC.out]; rfl)
          have ck4 : w3.cell? ⟨pb k, 4, none⟩ = some (.slice (la k) (s k).lg.length (lc k)) := (rk.cell 4).trans rfl
          have ck6 : w3.cell? ⟨pb k, 6, none⟩ = some (.int .i64 (k : Int)) := (rk.cell 6).trans rfl
          have fq1 := rq.free 1
          clear rq rk
          go_wp2_with fail
          go_quiet (fail)
          obtain ⟨w9, hw9⟩ : ∃ W, W = w3.drewN nq := ⟨_, rfl⟩
          have bw9 : Below w3.heap.size w3 w9 := by rw [hw9]; exact below_drewN' (Below.refl _ _) nq
          have GY := hid (GX.out.below bw9)
          have VY := hid (VX.out.below bw9)
          have BY := hid (BX.out.trans (bw9.mono (Nat.le_trans hBw VX.out.size)))
          rw [← hw9]
          clear GX VX BX hw9 bw9 nq cq0 cq1 cq4 ck0 ck4 ck6 fq1
          have GX := GY
          have VX := VY
          have BX := BY
          clear GY VY BY
          have rq := GX.out.mem q hq
          have rk := GX.out.mem k hk
          have cq0 : w9.cell? ⟨pb q, 0, none⟩ = some (.int .i64 TQ) := (rq.cell 0).trans (by rw [HTQ.out]; rfl)
          have cq1 : w9.cell? ⟨pb q, 1, none⟩ = some (.int .i64 VQ) := (rq.cell 1).trans (by rw [HVQ.out]; rfl)
          have cq4 : w9.cell? ⟨pb q, 4, none⟩ = some (.slice (la q) (s q).lg.length (lc q)) := (rq.cell 4).trans rfl
          have ck0 : w9.cell? ⟨pb k, 0, none⟩ = some (.int .i64 TC) := (rk.cell 0).trans (by rw [HTC.out]; rfl)
          have ck4 : w9.cell? ⟨pb k, 4, none⟩ = some (.slice (la k) (s k).lg.length (lc k)) := (rk.cell 4).trans rfl
          have ck6 : w9.cell? ⟨pb k, 6, none⟩ = some (.int .i64 (k : Int)) := (rk.cell 6).trans rfl
          have fq1 := rq.free 1
          clear rq rk
          have GE : Hid (GpL w9 B gb N (putM s q (gVote (s k) k (s q))) pb la lc mb) := by rw [EV.out, ML.out, putM_same]; exact GX.out
          clear cq0 cq1 cq4 ck0 ck4 ck6 fq1
          go_wp2
          go_ret
          exact ⟨by rw [EW.out]; rfl, GE.out, VX.out, BX.out⟩
        · have d3 : (VQ == (k : Int)) = false := by rw [beq_eq_false_iff_ne]; exact hv2
          clear hv2
          have EW : Hid (G1 = false) := hid (by rw [HG1.out]; rw [ML.out]; unfold gWill; rw [← HNB.out, ← HTC.out, ← HTQ.out, ← HVQ.out]; simp [HTT.out])
          have EV : Hid (gVote (s k) k (s q) = gLate (s k) (s q)) := hid (by unfold gVote; rw [← HG1.out, EW.out]; rfl)
          go_wp2_with fail
          go_quiet (fail)
          obtain ⟨w3, hw3⟩ : ∃ W, W = w1.drewN nq := ⟨_, rfl⟩
          have bw3 : Below w1.heap.size w1 w3 := by rw [hw3]; exact below_drewN' (Below.refl _ _) nq
          have GY := hid (GX.out.below bw3)
          have VY := hid (VX.out.below bw3)
          have BY := hid (BX.out.trans (bw3.mono (Nat.le_trans hBw VX.out.size)))
          rw [← hw3]
          clear GX VX BX hw3 bw3 nq cq0 cq1 cq4 ck0 ck4 ck6 fq1
          have GX := GY
          have VX := VY
          have BX := BY
          clear GY VY BY
          have rq := GX.out.mem q hq
          have rk := GX.out.mem k hk
          have cq0 : w3.cell? ⟨pb q, 0, none⟩ = some (.int .i64 TQ) := (rq.cell 0).trans (by rw [HTQ.out]; rfl)
          have cq1 : w3.cell? ⟨pb q, 1, none⟩ = some (.int .i64 VQ) := (rq.cell 1).trans (by rw [HVQ.out]; rfl)
          have cq4 : w3.cell? ⟨pb q, 4, none⟩ = some (.slice (la q) (s q).lg.length (lc q)) := (rq.cell 4).trans rfl
          have ck0 : w3.cell? ⟨pb k, 0, none⟩ = some (.int .i64 TC) := (rk.cell 0).trans (by rw [HTC.out]; rfl)
          have ck4 : w3.cell? ⟨pb k, 4, none⟩ = some (.slice (la k) (s k).lg.length (lc k)) := (rk.cell 4).trans rfl
          have ck6 : w3.cell? ⟨pb k, 6, none⟩ = some (.int .i64 (k : Int)) := (rk.cell 6).trans rfl
          have fq1 := rq.free 1
          clear rq rk
          go_wp2_with fail
          go_quiet (fail)
          obtain ⟨w9, hw9⟩ : ∃ W, W = w3.drewN nq := ⟨_, rfl⟩
          have bw9 : Below w3.heap.size w3 w9 := by rw [hw9]; exact below_drewN' (Below.refl _ _) nq
          have GY := hid (GX.out.below bw9)
          have VY := hid (VX.out.below bw9)
          have BY := hid (BX.out.trans (bw9.mono (Nat.le_trans hBw VX.out.size)))
          rw [← hw9]
          clear GX VX BX hw9 bw9 nq cq0 cq1 cq4 ck0 ck4 ck6 fq1
          have GX := GY
          have VX := VY
          have BX := BY
          clear GY VY BY
          have rq := GX.out.mem q hq
          have rk := GX.out.mem k hk
          have cq0 : w9.cell? ⟨pb q, 0, none⟩ = some (.int .i64 TQ) := (rq.cell 0).trans (by rw [HTQ.out]; rfl)
          have cq1 : w9.cell? ⟨pb q, 1, none⟩ = some (.int .i64 VQ) := (rq.cell 1).trans (by rw [HVQ.out]; rfl)
          have cq4 : w9.cell? ⟨pb q, 4, none⟩ = some (.slice (la q) (s q).lg.length (lc q)) := (rq.cell 4).trans rfl
          have ck0 : w9.cell? ⟨pb k, 0, none⟩ = some (.int .i64 TC) := (rk.cell 0).trans (by rw [HTC.out]; rfl)
          have ck4 : w9.cell? ⟨pb k, 4, none⟩ = some (.slice (la k) (s k).lg.length (lc k)) := (rk.cell 4).trans rfl
          have ck6 : w9.cell? ⟨pb k, 6, none⟩ = some (.int .i64 (k : Int)) := (rk.cell 6).trans rfl
          have fq1 := rq.free 1
          clear rq rk
          have GE : Hid (GpL w9 B gb N (putM s q (gVote (s k) k (s q))) pb la lc mb) := by rw [EV.out, ML.out, putM_same]; exact GX.out
          clear cq0 cq1 cq4 ck0 ck4 ck6 fq1
          go_wp2
          go_ret
          exact ⟨by rw [EW.out]; rfl, GE.out, VX.out, BX.out⟩
end Go.Proofs.Ytmhkelfmciepaaa
