import Derived.Test.YtmhkelfmciepaaaGrI12
namespace Go.Proofs.Ytmhkelfmciepaaa
open Go.RowKit
set_option linter.unusedVariables false
/-! The program's take. -/
theorem geL_take : ∀ (L : List Ge) (m : Nat), geL (L.take m) = (geL L).take (m * 2)
  | [], m => by simp [geL]
  | e :: L, 0 => by simp [geL]
  | e :: L, m + 1 => by
    have e1 : geL (e :: L) = .int .i64 e.tm :: .string e.tx :: geL L := rfl
    have e2 : geL ((e :: L).take (m + 1)) = .int .i64 e.tm :: .string e.tx :: geL (L.take m) := rfl
    rw [e1, e2, geL_take L m, show (m + 1) * 2 = m * 2 + 1 + 1 by omega, List.take_succ_cons, List.take_succ_cons]
theorem OwnGe.pre {w : World} {B : Nat} {a : Option Addr} {c : Nat} {L : List Ge} (h : OwnGe w B (.slice a L.length c) L) {m : Nat} (hm : m ≤ L.length) : OwnGe w B (.slice a m c) (L.take m) := by
  have e : (L.take m).length = m := by rw [List.length_take]; omega
  unfold OwnGe World.ownsRow
  rw [e]
  refine ⟨by rw [geL_len, e], ?_⟩
  rcases h.2 with ⟨h0, h1⟩ | ⟨g, cap, cur, he, hb, hr, hnc, hmx, hsz, htk⟩
  · have : m = 0 := by omega
    subst this
    have h2 : a = none ∧ c = 0 := by
      rw [h1] at h0
      cases h0
      exact ⟨rfl, rfl⟩
    exact .inl ⟨by rw [h2.1, h2.2], rfl⟩
  · cases he
    refine .inr ⟨g, c, cur, rfl, hb, hr, by omega, hmx, hsz, ?_⟩
    rw [geL_take, ← htk, List.take_take, Nat.min_eq_left (by omega)]
theorem geAt_drop (L : List Ge) (i k : Nat) : geAt (L.drop i) k = geAt L (i + k) := by
  unfold geAt
  simp [List.getD_eq_getElem?_getD, List.getElem?_drop]
theorem step_append_gesN {ops : Array Oper} {o : Oper} {a : Act} {K : Act → World → Prop} {Q : Exit → Act → World → Prop} {E : Prop} (base : Nat) (w : World) (hgd : o.guard = none) (s x : Operand)
    (ho : o.op = .call { callee := .builtin .append, args := #[s, x], argTypes := #[26, 26] })
    (v : Value) (L M : List Ge) (n m : Nat) (hn : L.length + M.length = n) (hm : M.length = m) (hs : a.eval s = v) (hown : OwnGe w base v L) (hsz : base ≤ w.heap.size) (ad : Addr) (c : Nat) (hx : a.eval x = .slice (some ad) m c) (hM : ∀ k, k < M.length → w.cell? (ad.add (k * 2)) = some (.int .i64 (geAt M k).tm) ∧ w.cell? (ad.add (k * 2 + 1)) = some (.string (geAt M k).tx)) (h0 : 0 < M.length) (hlen : L.length + M.length ≤ 1048576)
    (h : ∀ g cap w', OwnGe w' base (.slice (some ⟨g, 0, none⟩) n cap) (L ++ M) → w.grownBy w' v.ownBlock → (v.ownBlock = some g ∨ g = w.heap.size) → K (a.put o.dst (.slice (some ⟨g, 0, none⟩) n cap)) w') :
    if Region.wanted o (yielded ops a.tmps) = true then Oper.wp Try.prog o a w K Q else E := by
  subst hn hm
  exact step_append_ges base w hgd s x ho v L M hs hown hsz ad c hx hM h0 hlen h
theorem GpL.afterAppN {w : World} {B gb N : Nat} {s : Gst} {pb : Nat → Nat} {la : Nat → Option Addr} {lc mb : Nat → Nat} (h : GpL w B gb N s pb la lc mb) {k : Nat} (hk : k < N) {L : List Ge} (hL : L = (s k).lg) {wa w7 : World} {M : List Ge} {g cap n : Nat} (hn : M.length = n) (hBn : B ≤ w.heap.size) (b : Below w.heap.size w wa) (v : Value) (hv : v.ownBlock = (Value.slice (la k) (s k).lg.length (lc k)).ownBlock) (hO : OwnGe w7 B (.slice (some ⟨g, 0, none⟩) n cap) M) (hg : wa.grownBy w7 v.ownBlock) (hl : v.ownBlock = some g ∨ g = wa.heap.size) :
    w7.cell? ⟨pb k, 4, none⟩ = some (.slice (la k) L.length (lc k)) ∧ w7.frozen? ⟨pb k, 4, none⟩ = false ∧ GpAt (w7.setCell ⟨pb k, 4, none⟩ (.slice (some ⟨g, 0, none⟩) n cap)) B gb N (putM s k { s k with lg := M }) pb ∧ Kq w (w7.setCell ⟨pb k, 4, none⟩ (.slice (some ⟨g, 0, none⟩) n cap)) ∧ Below B w (w7.setCell ⟨pb k, 4, none⟩ (.slice (some ⟨g, 0, none⟩) n cap)) := by
  subst hn
  have z := GpL.afterApp (n := 0) h hk hL (Nat.zero_le _) hBn b v hv hO hg hl
  exact ⟨z.1, z.2.1, ⟨_, _, _, z.2.2.1⟩, z.2.2.2⟩
set_option maxRecDepth 20000 in
set_option maxHeartbeats 8000000 in
theorem iTake (B gb N q k : Nat) (hq : q < N) (hk : k < N) (qk : q ≠ k) (s : Gst) (pb : Nat → Nat) (la : Nat → Option Addr) (lc mb : Nat → Nat) (hT : (s q).tm ≤ (s k).tm) (hl : (s q).lg.length ≤ 500 ∧ (s k).lg.length ≤ 500) (w : World) (hBw : B ≤ w.heap.size) (h : GpL w B gb N s pb la lc mb) :
    Calls Try.prog 41 #[.pointer (some ⟨pb q, 0, none⟩), .pointer (some ⟨pb k, 0, none⟩)] w fun e w' => e = .returned (.tuple #[]) ∧ GpAt w' B gb N (putM s q { s q with tm := (s k).tm, vt := if (s q).tm < (s k).tm then -1 else (s q).vt, ld := false, lg := gNext (s q).lg (s k).lg }) pb ∧ Kq w w' ∧ Below B w w' := by
  obtain ⟨TQ, hTQ⟩ : ∃ t, t = (s q).tm := ⟨_, rfl⟩
  obtain ⟨TK, hTK⟩ : ∃ t, t = (s k).tm := ⟨_, rfl⟩
  obtain ⟨VV, hVV⟩ : ∃ t, t = if (s q).tm < (s k).tm then -1 else (s q).vt := ⟨_, rfl⟩
  obtain ⟨LQ, hLQ⟩ : ∃ l, l = (s q).lg := ⟨_, rfl⟩
  obtain ⟨LK, hLK⟩ : ∃ l, l = (s k).lg := ⟨_, rfl⟩
  rw [← hVV, ← hTK, ← hLQ, ← hLK]
  obtain ⟨MQ, hMQ⟩ : ∃ M : Mb, M = { s q with tm := TK, vt := VV, ld := false } := ⟨_, rfl⟩
  have hle : TQ ≤ TK := by rw [hTQ, hTK]; exact hT
  have hlq : LQ.length ≤ 500 := by rw [hLQ]; exact hl.1
  have hlk : LK.length ≤ 500 := by rw [hLK]; exact hl.2
  have HTQ := hid hTQ
  have HTK := hid hTK
  have HVV := hid hVV
  have HLQ := hid hLQ
  have HLK := hid hLK
  have HMQ := hid hMQ
  have GX := hid h
  have HBw := hid hBw
  have q0 : w.cell? ⟨pb q, 0, none⟩ = some (.int .i64 TQ) := ((h.mem q hq).cell 0).trans (by rw [hTQ]; rfl)
  have k0 : w.cell? ⟨pb k, 0, none⟩ = some (.int .i64 TK) := ((h.mem k hk).cell 0).trans (by rw [hTK]; rfl)
  clear hTQ hTK hVV hLQ hLK hMQ h hT hl hBw
  go_enter Try.func41, Try.ntmps41
  go_upto_region 0 with fail
  go_quiet (fail)
  obtain ⟨W1, hW1⟩ : ∃ W, W = w.drewN nq := ⟨_, rfl⟩
  have b1 : Below w.heap.size w W1 := by rw [hW1]; exact below_drewN' (Below.refl _ _) nq
  have G1 := hid (GX.out.below b1)
  have K1 : Hid (Kq w W1) := (Kq.refl w).below b1
  have B1 := hid (b1.mono HBw.out)
  have Z1 : Hid (B ≤ W1.heap.size) := Nat.le_trans HBw.out b1.size
  rw [← hW1]
  clear hW1 b1 nq q0 GX
  have k0 : W1.cell? ⟨pb k, 0, none⟩ = some (.int .i64 TK) := ((G1.out.mem k hk).cell 0).trans (by rw [HTK.out]; rfl)
  go_upto_if 15 with fail
  go_cut [] from 5 to 22 (fun wx => ∃ m : Mb, GpL wx B gb N (putM s q m) pb la lc mb ∧ { m with ld := false } = MQ ∧ Kq w wx ∧ Below B w wx)
  case first =>
    by_cases hlt : TQ < TK
    · have d1 : decide (TQ < TK) = true := decide_eq_true hlt
      have EV : Hid (VV = -1) := hid (by rw [HVV.out, ← HTQ.out, ← HTK.out, if_pos hlt])
      have KE := hid (iEnter B gb N q hq s pb la lc mb TK W1 G1.out)
      go_wp2_with fail
      refine KE.out.mono ?_
      rintro e w2 ⟨rfl, h2, hg2⟩
      have G2 := hid h2
      have K2 := hid (K1.out.grownP G1.out hq hg2)
      have B2 := hid (B1.out.grown hg2 Z1.out (fun x hx => by cases hx; exact G1.out.mlo q hq))
      clear h2 hg2
      go_wp2_with fail
      go_meet
      case rel => exact ⟨_, G2.out, by rw [HMQ.out, EV.out], K2.out, B2.out⟩
    · have d1 : decide (TQ < TK) = false := decide_eq_false hlt
      have EQ : Hid ({ s q with ld := false } = MQ) := hid (by
        have e1 : TK = (s q).tm := by rw [← HTQ.out]; omega
        have e2 : VV = (s q).vt := by rw [HVV.out, ← HTQ.out, ← HTK.out, if_neg hlt]
        rw [HMQ.out, e1, e2])
      go_wp2_with fail
      go_meet
      case rel => exact ⟨s q, by rw [putM_same]; exact G1.out, EQ.out, K1.out, B1.out⟩
  case rest =>
    obtain ⟨m2, hG2, hm2, hK2, hB2⟩ := hcut
    obtain ⟨W2, hW2⟩ : ∃ W, W = wc := ⟨_, rfl⟩
    rw [← hW2] at hG2 hK2 hB2 ⊢
    have G2 := hid hG2
    have K2 := hid hK2
    have B2 := hid hB2
    have M2 := hid hm2
    clear hG2 hm2 hK2 hB2 hW2 G1 K1 B1 Z1 k0
    obtain ⟨W3, hW3⟩ : ∃ W, W = W2.setCell ⟨pb q, 2, none⟩ (.bool false) := ⟨_, rfl⟩
    have G3 : Hid (GpL W3 B gb N (putM s q MQ) pb la lc mb) := by
      have z := G2.out.setLd hq false
      rw [putM_self, putM_putM, M2.out] at z
      rw [hW3]
      exact z
    have K3 : Hid (Kq w W3) := by rw [hW3]; exact K2.out.set (a := ⟨pb q, 2, none⟩) _ (G2.out.mem q hq) (.inl rfl)
    have B3 : Hid (Below B w W3) := by rw [hW3]; exact B2.out.setCell (G2.out.mlo q hq) _
    have c2 : W2.cell? ⟨pb q, 2, none⟩ = some (.bool (putM s q m2 q).ld) := (G2.out.mem q hq).cell 2
    have f2 := (G2.out.mem q hq).free 2
    generalize (putM s q m2 q).ld = old at c2
    have HW3 := hid hW3
    clear hW3 G2 K2 B2 M2
    go_upto_region 3 with fail
    rw [← HW3.out]
    clear HW3 c2 f2
    have eq4 : Hid (MQ.lg = LQ) := hid (by rw [HMQ.out, HLQ.out])
    have q4 : W3.cell? ⟨pb q, 4, none⟩ = some (.slice (la q) LQ.length (lc q)) := ((G3.out.mem q hq).cell 4).trans (by rw [putM_self, ← eq4.out]; rfl)
    have k4 : W3.cell? ⟨pb k, 4, none⟩ = some (.slice (la k) LK.length (lc k)) := ((G3.out.mem k hk).cell 4).trans (by rw [putM_ne _ _ _ (Ne.symm qk), HLK.out]; rfl)
    have gq : Hid (Ges W3 (la q) LQ.length (lc q) (geAt LQ)) := by have z := G3.out.ges hq; rw [putM_self, eq4.out] at z; exact z
    have gk : Hid (Ges W3 (la k) LK.length (lc k) (geAt LK)) := by have z := G3.out.ges hk; rw [putM_ne _ _ _ (Ne.symm qk), ← HLK.out] at z; exact z
    obtain ⟨SM, hSM⟩ : ∃ n, n = gPart LQ LK := ⟨_, rfl⟩
    have KP : Hid (∀ x, Calls Try.prog 46 #[.slice (la q) LQ.length (lc q), .slice (la k) LK.length (lc k)] (W3.drewN x) fun e w'' => e = .returned (.int .i64 (SM : Int)) ∧ ∃ m, w'' = W3.drewN m) := fun x => by
      rw [hSM]
      exact (iPart LQ LK (la q) (la k) (lc q) (lc k) hlq hlk (W3.drewN x) (gq.out.below (below_drewN' (Below.refl _ _) x)) (gk.out.below (below_drewN' (Below.refl _ _) x))).mono fun _ _ ⟨he, n, hm⟩ => ⟨he, x + n, by rw [hm, World.drewN_drewN]⟩
    have hsle := gPart_le LQ LK
    rw [← hSM] at hsle
    obtain ⟨hsq, hsk⟩ := hsle
    have HSM := hid hSM
    clear hSM
    go_quiet ((go_at_call 46; exact KP.out _))
    obtain ⟨W4, hW4⟩ : ∃ W, W = W3.drewN nq := ⟨_, rfl⟩
    have b4 : Below W3.heap.size W3 W4 := by rw [hW4]; exact below_drewN' (Below.refl _ _) nq
    have G4 := hid (G3.out.below b4)
    have K4 : Hid (Kq w W4) := K3.out.below b4
    have B4 : Hid (Below B w W4) := B3.out.trans (b4.mono (Nat.le_trans HBw.out B3.out.size))
    have k5 : W4.cell? ⟨pb k, 4, none⟩ = some (.slice (la k) LK.length (lc k)) := by rw [hW4]; exact k4
    have q5 : W4.cell? ⟨pb q, 4, none⟩ = some (.slice (la q) LQ.length (lc q)) := by rw [hW4]; exact q4
    have gk4 := hid (gk.out.below b4)
    rw [← hW4]
    clear hW4 b4 G3 K3 B3 k4 q4 gq gk KP
    by_cases he : SM = LK.length
    · have d1 : ((SM : Int) == (LK.length : Int)) = true := by rw [beq_iff_eq]; omega
      have EN : Hid (gNext LQ LK = LQ) := hid (by unfold gNext; rw [← HSM.out, if_pos he])
      clear he
      go_wp2
      refine bodyPost_ret (results_none rfl _ _ _) rfl ?_
      refine ⟨rfl, ⟨la, lc, mb, ?_⟩, K4.out, B4.out⟩
      rw [EN.out]
      have z := G4.out
      rw [HMQ.out] at z
      rw [HLQ.out]
      exact z
    · have d1 : ((SM : Int) == (LK.length : Int)) = false := by rw [beq_eq_false_iff_ne]; omega
      have EN : Hid (gNext LQ LK = LQ.take SM ++ LK.drop SM) := hid (by unfold gNext; rw [← HSM.out, if_neg he])
      have hlt : SM < LK.length := by omega
      clear he
      go_upto_region 5 with fail
      rcases gk4.out.2 with h00 | ⟨gK, oK, eK, hlK, hcK⟩
      · omega
      have OQ : Hid (OwnGe W4 B (.slice (la q) LQ.length (lc q)) LQ) := by have z := G4.out.log q hq; rw [putM_self, eq4.out] at z; exact z
      have hcap : LK.length ≤ lc k := gk4.out.1
      have oP : Hid (OwnGe W4 B (.slice (la q) SM (lc q)) (LQ.take SM)) := OQ.out.pre hsq
      have hqc : LQ.length ≤ lc q ∧ (la q = none ∧ lc q = 0 ∧ LQ.length = 0 ∨ ∃ g, la q = some ⟨g, 0, none⟩) := by
        rcases OQ.out.2 with ⟨h0, h1⟩ | ⟨g, cap, cur, h0, _, _, h1, _⟩
        · injection h0 with e1 e2 e3
          exact ⟨by omega, .inl ⟨e1, e3, h1⟩⟩
        · injection h0 with e1 e2 e3
          exact ⟨by omega, .inr ⟨g, e1⟩⟩
      rw [eK] at k5
      have HM : Hid (∀ j, j < (LK.drop SM).length → W4.cell? ((⟨gK, oK + SM * 2, none⟩ : Addr).add (j * 2)) = some (.int .i64 (geAt (LK.drop SM) j).tm) ∧ W4.cell? ((⟨gK, oK + SM * 2, none⟩ : Addr).add (j * 2 + 1)) = some (.string (geAt (LK.drop SM) j).tx)) := fun j hj => by
        have hj2 : SM + j < LK.length := by rw [List.length_drop] at hj; omega
        have z := hcK (SM + j) hj2
        have hadd : ∀ i, (⟨gK, oK + SM * 2, none⟩ : Addr).add i = ⟨gK, oK + SM * 2 + i, none⟩ := by intro i; unfold Addr.add; split <;> simp_all
        rw [geAt_drop, hadd, hadd, show oK + SM * 2 + j * 2 = oK + (SM + j) * 2 by omega, show oK + SM * 2 + (j * 2 + 1) = oK + (SM + j) * 2 + 1 by omega]
        exact z
      obtain ⟨hqc1, hqc2⟩ := hqc
      have HBs : Hid (B ≤ W4.heap.size) := Nat.le_trans HBw.out B4.out.size
      have hTL : (LQ.take SM).length + (LK.drop SM).length = LK.length := by rw [List.length_take, List.length_drop]; omega
      have HTL := hid hTL
      have HDL : Hid ((LK.drop SM).length = LK.length - SM) := List.length_drop
      have HLL : Hid (LQ = (putM s q MQ q).lg) := hid (by rw [putM_self, eq4.out])
      have EF : Hid (putM (putM s q MQ) q { putM s q MQ q with lg := LQ.take SM ++ LK.drop SM } = putM s q { s q with tm := TK, vt := VV, ld := false, lg := gNext LQ LK }) := hid (by rw [putM_putM, putM_self, HMQ.out, EN.out])
      have s0 : (0 : Int) ≤ (SM : Int) := by omega
      have s1 : (SM : Int) ≤ (LK.length : Int) := by omega
      have s2 : (SM : Int) ≤ (lc q : Int) := by omega
      have s3 : (SM : Int) ≤ (lc k : Int) := by omega
      have s4 : ¬ (lc k = SM) := by omega
      have s5 : (LK.length : Int) ≤ (lc k : Int) := by omega
      rcases hqc2 with ⟨qa, qb, qc⟩ | ⟨gQ, qa⟩
      · have hs0 : SM = 0 := by omega
        have HV : Hid ((Value.slice none 0 0).ownBlock = (Value.slice (la q) (putM s q MQ q).lg.length (lc q)).ownBlock) := hid (by rw [qa]; rfl)
        have oP2 : Hid (OwnGe W4 B (.slice none 0 0) []) := ⟨rfl, .inl ⟨rfl, rfl⟩⟩
        have HM0 : Hid (∀ j, j < LK.length → W4.cell? ((⟨gK, oK, none⟩ : Addr).add (j * 2)) = some (.int .i64 (geAt LK j).tm) ∧ W4.cell? ((⟨gK, oK, none⟩ : Addr).add (j * 2 + 1)) = some (.string (geAt LK j).tx)) := fun j hj => by
          have hadd : ∀ i, (⟨gK, oK, none⟩ : Addr).add i = ⟨gK, oK + i, none⟩ := by intro i; unfold Addr.add; split <;> simp_all
          rw [hadd, hadd, ← Nat.add_assoc]
          exact hcK j hj
        have EF0 : Hid (putM (putM s q MQ) q { putM s q MQ q with lg := LK } = putM s q { s q with tm := TK, vt := VV, ld := false, lg := gNext LQ LK }) := hid (by rw [putM_putM, putM_self, HMQ.out, EN.out, hs0, List.take_zero, List.drop_zero, List.nil_append])
        have Hq4 : Hid (la q = none ∧ lc q = 0 ∧ LQ.length = 0) := ⟨qa, qb, qc⟩
        rw [qa, qb, qc] at q5
        subst hs0
        have t4 : ¬ (lc k = 0) := by omega
        clear hcK hTL qa qb qc s0 s1 s2 s3 s4 HM EF HDL HTL
        go_region_law (refine step_append_gesN B _ (by rfl) _ _ (by rfl) (.slice none 0 0) [] LK LK.length LK.length (Nat.zero_add _) rfl (by rfl) (by first | exact World.ownsRow.drew oP2.out | exact oP2.out) (by exact HBs.out) ⟨gK, oK, none⟩ (lc k) (by rfl) HM0.out hlt (by show 0 + _ ≤ _; omega) ?_; intro g7 c7 w7 hO7 hg7 hl7; have Z7 := hid (GpL.afterAppN (M := LK) G4.out hq HLL.out rfl HBs.out (by first | exact (Below.refl _ _).drew | exact Below.refl _ _) _ HV.out hO7 hg7 hl7); have y1 := Z7.out.1; have y2 := Z7.out.2.1; rw [Hq4.out.1, Hq4.out.2.1, Hq4.out.2.2] at y1; clear hO7 hg7 hl7; dsimp only)
        all_goals go_wp2
        all_goals go_end0
        all_goals exact ⟨rfl, by have z := Z7.out.2.2.1; rw [EF0.out] at z; exact z, K4.out.trans Z7.out.2.2.2.1, B4.out.trans Z7.out.2.2.2.2⟩
      · have oP2 : Hid (OwnGe W4 B (.slice (some ⟨gQ, 0, none⟩) SM (lc q)) (LQ.take SM)) := by have z := oP.out; rw [qa] at z; exact z
        have HV : Hid ((Value.slice (some ⟨gQ, 0, none⟩) SM (lc q)).ownBlock = (Value.slice (la q) (putM s q MQ q).lg.length (lc q)).ownBlock) := hid (by rw [qa]; rfl)
        have Hq4 : Hid (la q = some ⟨gQ, 0, none⟩) := qa
        rw [qa] at q5
        clear hcK hTL qa
        go_region_law (refine step_append_gesN B _ (by rfl) _ _ (by rfl) (.slice (some ⟨gQ, 0, none⟩) SM (lc q)) (LQ.take SM) (LK.drop SM) LK.length (LK.length - SM) HTL.out HDL.out (by rfl) (by first | exact World.ownsRow.drew oP2.out | exact oP2.out) (by exact HBs.out) ⟨gK, oK + SM * 2, none⟩ (lc k - SM) (by rfl) HM.out (by rw [HDL.out]; omega) (by rw [HTL.out]; omega) ?_; intro g7 c7 w7 hO7 hg7 hl7; have Z7 := hid (GpL.afterAppN (M := LQ.take SM ++ LK.drop SM) G4.out hq HLL.out (by rw [List.length_append]; exact HTL.out) HBs.out (by first | exact (Below.refl _ _).drew | exact Below.refl _ _) _ HV.out hO7 hg7 hl7); have y1 := Z7.out.1; have y2 := Z7.out.2.1; rw [Hq4.out] at y1; clear hO7 hg7 hl7; dsimp only)
        all_goals go_wp2
        all_goals go_end0
        all_goals exact ⟨rfl, by have z := Z7.out.2.2.1; rw [EF.out] at z; exact z, K4.out.trans Z7.out.2.2.2.1, B4.out.trans Z7.out.2.2.2.2⟩
end Go.Proofs.Ytmhkelfmciepaaa
