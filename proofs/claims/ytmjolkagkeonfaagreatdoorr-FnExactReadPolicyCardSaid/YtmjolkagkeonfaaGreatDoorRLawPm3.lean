import Derived.Test.YtmjolkagkeonfaaGreatDoorRLawPm2
namespace Go.Proofs.YtmjolkagkeonfaaGreatDoorR
open Go.RowKit
set_option linter.unusedVariables false
/-! Marks of statements held; a policy marked and held. -/
set_option maxRecDepth 20000 in
set_option maxHeartbeats 8000000 in
theorem heldSts (B g c k0 : Nat) (R : Nat → St) (m : Nat) (f : Nat → Value) (hA : MdS B g c R m f) (hk1 : 1 ≤ k0) (hk : k0 ≤ 1000) (w : World) (h : MdP w B g c R m m k0 f) :
    Calls Tryz.prog 40 #[.slice (some ⟨g, 0, none⟩) m c, .int .i64 (k0 : Int)] w fun e w' => e = .returned (.int .i64 ((kS k0 R m : Nat) : Int)) ∧ Below w.heap.size w w' := by
  have H0 := hid h
  have HA := hid hA
  have hcap := hA.cap
  have hmb := hA.mb
  clear h hA
  go_enter Tryz.func40, Tryz.ntmps40
  go_wp2_with fail
  go_loopw [1, 5] (fun y1 y5 wr => ∃ i : Nat, i ≤ m ∧ y5 = .int .i64 (i : Int) ∧ y1 = .int .i64 ((kS k0 R i : Nat) : Int) ∧ Below w.heap.size w wr) (fun _ y5 _ => m - (intOf y5).toNat)
  case atStart => exact ⟨0, Nat.zero_le _, rfl, rfl, Below.refl _ _⟩
  case round =>
    obtain ⟨i, hi, rfl, rfl, hB⟩ := hrel
    have BB := hid hB
    clear hB
    by_cases hlt : i < m
    · have hlt' : (i : Int) < (m : Int) := by omega
      have i0 : (0 : Int) ≤ (i : Int) := by omega
      obtain ⟨K, hK⟩ : ∃ K, K = kS k0 R i := ⟨_, rfl⟩
      rw [← hK]
      have kle := kS_le (k0 := k0) HA.out.ln i (by omega)
      have kge := kS_ge k0 R i
      rw [← hK] at kle kge
      obtain ⟨l1, l2, l3, l4⟩ := HA.out.ln i hlt
      have hKb : K ≤ 400000000 := by omega
      have hK1 : 1 ≤ K := by omega
      have k1 := (kQ0 k0 R i).trans (by rw [← hK])
      have k2 := (kQ1 k0 R i).trans (by rw [← hK])
      have k3 := (kQ2 k0 R i).trans (by rw [← hK])
      have k4 := (kQ3 k0 R i).trans (by rw [← hK])
      have KE : Hid (kS k0 R (i + 1) = K + 1 + (R i).wo.n + (R i).wa.n + (R i).wi.n + (R i).cs.n * 3) := by show _ = _; rw [kS, ← hK]
      have s0 := slQ0 R i
      have s1 := slQ1 R i
      have s2 := slQ2 R i
      have s3 := slQ3 R i
      have SLB : ∀ wx, Below w.heap.size w wx → MdQ wx R m (4 * m) k0 := fun wx hb => H0.out.sl.below hb
      have N1 := fun (wx : World) (hb : Below w.heap.size w wx) => hid (heldQs R m (4 * i) k0 (by omega) (by rw [s0]) hk1 (by rw [k1]; omega) (by rw [s0]; exact l1) wx (SLB wx hb))
      have N2 := fun (wx : World) (hb : Below w.heap.size w wx) => hid (heldQs R m (4 * i + 1) k0 (by omega) (by rw [s1]) hk1 (by rw [k2]; omega) (by rw [s1]; exact l2) wx (SLB wx hb))
      have N3 := fun (wx : World) (hb : Below w.heap.size w wx) => hid (heldQs R m (4 * i + 2) k0 (by omega) (by rw [s2]) hk1 (by rw [k3]; omega) (by rw [s2]; exact l3) wx (SLB wx hb))
      have N4 := fun (wx : World) (hb : Below w.heap.size w wx) => hid (heldQc R m (4 * i + 3) k0 (by omega) (by rw [s3]) hk1 (by rw [k4]; omega) (by rw [s3]; exact l4) wx (SLB wx hb))
      rw [s0, k1] at N1
      rw [s1, k2] at N2
      rw [s2, k3] at N3
      rw [s3, k4] at N4
      have RW : Hid (∀ wx, Below w.heap.size w wx → FRow wx g 45 (c * 5) (upS k0 R f m)) := fun wx hb => H0.out.row.below hb H0.out.row.lt
      have CE : Hid (∀ wx, Below w.heap.size w wx → wx.cell? ⟨g, i * 5 + 1, none⟩ = some (.slice (R i).wo.ad (R i).wo.n (R i).wo.cap) ∧ wx.cell? ⟨g, i * 5 + 2, none⟩ = some (.slice (R i).wa.ad (R i).wa.n (R i).wa.cap) ∧ wx.cell? ⟨g, i * 5 + 3, none⟩ = some (.slice (R i).wi.ad (R i).wi.n (R i).wi.cap) ∧ wx.cell? ⟨g, i * 5 + 4, none⟩ = some (.slice (R i).cs.ad (R i).cs.n (R i).cs.cap)) := fun wx hb => by
        have hx := RW.out wx hb
        exact ⟨(hx.cell (by omega)).trans (by rw [upS_r _ _ _ _ _ _ (by omega) (by omega), HA.out.fs _ (by omega), stF1]), (hx.cell (by omega)).trans (by rw [upS_r _ _ _ _ _ _ (by omega) (by omega), HA.out.fs _ (by omega), stF2]), (hx.cell (by omega)).trans (by rw [upS_r _ _ _ _ _ _ (by omega) (by omega), HA.out.fs _ (by omega), stF3]), (hx.cell (by omega)).trans (by rw [upS_r _ _ _ _ _ _ (by omega) (by omega), HA.out.fs _ (by omega), stF4])⟩
      have c0 : wr.cell? ⟨g, i * 5, none⟩ = some (.int .i64 (K : Int)) := ((RW.out wr BB.out).cell (by omega)).trans (by unfold upS; rw [if_pos (by omega), show i * 5 / 5 = i by omega, hK])
      have d0 : ((K : Int) != (K : Int)) = false := by simp
      clear k1 k2 k3 k4 s0 s1 s2 s3 kle kge hK SLB RW
      generalize R i = S at l1 l2 l3 l4 KE CE N1 N2 N3 N4
      obtain ⟨ef, ⟨a1, n1, e1, t1⟩, ⟨a2, n2, e2, t2⟩, ⟨a3, n3, e3, t3⟩, ⟨a4, n4, e4, o4⟩⟩ := S
      dsimp only at l1 l2 l3 l4 KE CE N1 N2 N3 N4
      obtain ⟨K2, hK2⟩ : ∃ x, x = K + 1 + n1 := ⟨_, rfl⟩
      rw [← hK2] at N1 N2 N3 N4 KE
      obtain ⟨K3, hK3⟩ : ∃ x, x = K2 + n2 := ⟨_, rfl⟩
      rw [← hK3] at N2 N3 N4 KE
      obtain ⟨K4, hK4⟩ : ∃ x, x = K3 + n3 := ⟨_, rfl⟩
      rw [← hK4] at N3 N4 KE
      obtain ⟨K5, hK5⟩ : ∃ x, x = K4 + n4 * 3 := ⟨_, rfl⟩
      rw [← hK5] at N4 KE
      rw [show ((K + 1 : Nat) : Int) = (K : Int) + 1 by omega] at N1
      have hb2 : K2 ≤ 500000000 := by omega
      have hb3 : K3 ≤ 500000000 := by omega
      have hb4 : K4 ≤ 500000000 := by omega
      have hb5 : K5 ≤ 500000000 := by omega
      have m2 : ¬ (K2 : Int) < 0 := by omega
      have m3 : ¬ (K3 : Int) < 0 := by omega
      have m4 : ¬ (K4 : Int) < 0 := by omega
      have m5 : ¬ (K5 : Int) < 0 := by omega
      clear hK2 hK3 hK4 hK5
      have x1 := (CE.out _ BB.out).1
      go_wp2_with fail
      refine (N1 wr BB.out).out.mono ?_
      rintro e w2 ⟨rfl, hb2'⟩
      have B2 := hid (BB.out.trans (hb2'.mono BB.out.size))
      clear hb2' x1 BB N1 c0 d0
      have x2 := (CE.out _ B2.out).2.1
      go_wp2_with fail
      refine (N2 w2 B2.out).out.mono ?_
      rintro e w3 ⟨rfl, hb3'⟩
      have B3 := hid (B2.out.trans (hb3'.mono B2.out.size))
      clear hb3' x2 B2 N2
      have x3 := (CE.out _ B3.out).2.2.1
      go_wp2_with fail
      refine (N3 w3 B3.out).out.mono ?_
      rintro e w4 ⟨rfl, hb4'⟩
      have B4 := hid (B3.out.trans (hb4'.mono B3.out.size))
      clear hb4' x3 B3 N3
      have x4 := (CE.out _ B4.out).2.2.2
      go_wp2_with fail
      refine (N4 w4 B4.out).out.mono ?_
      rintro e w5 ⟨rfl, hb5'⟩
      have B5 := hid (B4.out.trans (hb5'.mono B4.out.size))
      clear hb5' x4 B4 N4
      go_wp2
      go_roundw
      case rel => exact ⟨i + 1, by omega, by go_num, by rw [KE.out], B5.out⟩
      case measure => simp [intOf]; omega
    · have hlt' : ¬ (i : Int) < (m : Int) := by omega
      have ei : i = m := by omega
      have HE := hid ei
      clear ei
      go_wp2
      go_ret
      exact ⟨by rw [← HE.out]; rfl, BB.out⟩
set_option maxRecDepth 20000 in
theorem heldSt0 (a : Option Addr) (c k0 : Nat) (w : World) :
    Calls Tryz.prog 40 #[.slice a 0 c, .int .i64 (k0 : Int)] w fun e w' => e = .returned (.int .i64 (k0 : Int)) ∧ w' = w := by
  go_enter Tryz.func40, Tryz.ntmps40
  go_wp2_with fail
  go_loopw [1, 5] (fun y1 y5 wr => y1 = .int .i64 (k0 : Int) ∧ y5 = .int .i64 0 ∧ wr = w) (fun _ _ _ => 0)
  case atStart => exact ⟨rfl, rfl, rfl⟩
  case round =>
    obtain ⟨rfl, rfl, hw⟩ := hrel
    obtain rfl := hw.symm
    go_wp2
    go_ret
    exact ⟨rfl, rfl⟩
set_option maxRecDepth 20000 in
theorem markSt0 (a : Option Addr) (c k0 : Nat) (w : World) :
    Calls Tryz.prog 39 #[.slice a 0 c, .int .i64 (k0 : Int)] w fun e w' => e = .returned (.int .i64 (k0 : Int)) ∧ w' = w := by
  go_enter Tryz.func39, Tryz.ntmps39
  go_wp2_with fail
  go_loopw [1, 5] (fun y1 y5 wr => y1 = .int .i64 (k0 : Int) ∧ y5 = .int .i64 0 ∧ wr = w) (fun _ _ _ => 0)
  case atStart => exact ⟨rfl, rfl, rfl⟩
  case round =>
    obtain ⟨rfl, rfl, hw⟩ := hrel
    obtain rfl := hw.symm
    go_wp2
    go_ret
    exact ⟨rfl, rfl⟩
theorem OwnStrs.uns {w : World} {base : Nat} {a : Option Addr} {n c : Nat} {xs : List ByteArray} (h : OwnStrs w base (.slice a n c) xs) : UnS w ⟨a, n, c, false⟩ := by
  rcases h.2 with ⟨h0, h1⟩ | ⟨g, cap, cur, he, hb, hr, hnc, hm, hsz, htk⟩
  · cases h0; exact .inl rfl
  · cases he
    refine .inr ⟨g, fun p => cur.getD p (.int .i64 0), rfl, hnc, fun _ => FRow.of (show RowAt w g 9 cur from hr) (hsz.trans (Nat.mul_one _)) fun p hp => ?_, fun z => by cases z⟩
    have : p < cur.size := by dsimp only at hp; omega
    rw [Array.getElem?_eq_getElem this]
    simp [Array.getD, this]
theorem OwnCn.uns {w : World} {base : Nat} {a : Option Addr} {n c : Nat} {L : List Cn} (h : OwnCn w base (.slice a n c) L) : UnS w ⟨a, n, c, true⟩ := by
  rcases h.2 with ⟨h0, h1⟩ | ⟨g, cap, cur, he, hb, hr, hnc, hm, hsz, htk⟩
  · cases h0; exact .inl rfl
  · cases he
    have e0 : ∀ p, p < L.length * 3 → cur[p]? = (cnL L)[p]? := fun p hp => by
      have q := congrArg (·[p]?) htk
      simp only [List.getElem?_take] at q
      rw [if_pos hp, Array.getElem?_toList] at q
      exact q
    have hd : ∀ p v, cur[p]? = some v → cur.getD p (.int .i64 0) = v := fun p v hp => by simp [Array.getD_eq_getD_getElem?, hp]
    refine .inr ⟨g, fun p => cur.getD p (.int .i64 0), rfl, hnc, (fun z => by cases z), fun _ => ⟨FRow.of (show RowAt w g 55 cur from hr) hsz fun p hp => ?_, fun i hi => ?_⟩⟩
    · have : p < cur.size := by dsimp only at hp; omega
      rw [Array.getElem?_eq_getElem this]
      simp [Array.getD, this]
    · dsimp only at hi
      have q := cnL_at L i hi
      exact ⟨⟨_, hd _ _ ((e0 _ (by omega)).trans q.1)⟩, ⟨_, hd _ _ ((e0 _ (by omega)).trans q.2.1)⟩, ⟨_, hd _ _ ((e0 _ (by omega)).trans q.2.2)⟩⟩
theorem slQ_at (R : Nat → St) (j : Nat) : (j = 4 * (j / 4) ∧ slQ R j = ⟨(R (j / 4)).wo.ad, (R (j / 4)).wo.n, (R (j / 4)).wo.cap, false⟩) ∨ (j = 4 * (j / 4) + 1 ∧ slQ R j = ⟨(R (j / 4)).wa.ad, (R (j / 4)).wa.n, (R (j / 4)).wa.cap, false⟩) ∨ (j = 4 * (j / 4) + 2 ∧ slQ R j = ⟨(R (j / 4)).wi.ad, (R (j / 4)).wi.n, (R (j / 4)).wi.cap, false⟩) ∨ (j = 4 * (j / 4) + 3 ∧ slQ R j = ⟨(R (j / 4)).cs.ad, (R (j / 4)).cs.n, (R (j / 4)).cs.cap, true⟩) := by
  rcases (by omega : j = 4 * (j / 4) ∨ j = 4 * (j / 4) + 1 ∨ j = 4 * (j / 4) + 2 ∨ j = 4 * (j / 4) + 3) with e | e | e | e
  · exact .inl ⟨e, by conv => lhs; rw [e]
                      rw [slQ0]⟩
  · exact .inr (.inl ⟨e, by conv => lhs; rw [e]
                            rw [slQ1]⟩)
  · exact .inr (.inr (.inl ⟨e, by conv => lhs; rw [e]
                                  rw [slQ2]⟩))
  · exact .inr (.inr (.inr ⟨e, by conv => lhs; rw [e]
                                  rw [slQ3]⟩))
/-- a policy in memory, ready to be marked -/
theorem PolR.md {w : World} {B : Nat} {v : Value} {L : List PS} {Rs : List St} {X : Nat → Nat} (h : PolR w B v L Rs X) (hl : L.length ≤ 50) (hb : ∀ i, i < L.length → psB (psA L i)) (h0 : Rs.length ≠ 0) (k0 : Nat) : ∃ g c f, v = .slice (some ⟨g, 0, none⟩) Rs.length c ∧ MdS B g c (stA Rs) Rs.length f ∧ MdP w B g c (stA Rs) Rs.length 0 k0 f := by
  obtain ⟨a, c, rfl⟩ := h.own.slice
  obtain ⟨g, f, rfl, hBg, hc, hF, hfs⟩ := h.own.frow h0
  have each : ∀ i, ∃ y : Nat × Nat × Nat, i < L.length → X i ≤ y.1 ∧ y.1 ≤ y.2.1 ∧ y.2.1 ≤ y.2.2 ∧ y.2.2 ≤ X (i + 1) ∧ (OwnStrs w (X i) (.slice (stA Rs i).wo.ad (stA Rs i).wo.n (stA Rs i).wo.cap) (psA L i).wo ∧ blt (.slice (stA Rs i).wo.ad (stA Rs i).wo.n (stA Rs i).wo.cap) y.1) ∧ (OwnStrs w y.1 (.slice (stA Rs i).wa.ad (stA Rs i).wa.n (stA Rs i).wa.cap) (psA L i).wa ∧ blt (.slice (stA Rs i).wa.ad (stA Rs i).wa.n (stA Rs i).wa.cap) y.2.1) ∧ (OwnStrs w y.2.1 (.slice (stA Rs i).wi.ad (stA Rs i).wi.n (stA Rs i).wi.cap) (psA L i).wi ∧ blt (.slice (stA Rs i).wi.ad (stA Rs i).wi.n (stA Rs i).wi.cap) y.2.2) ∧ (OwnCn w y.2.2 (.slice (stA Rs i).cs.ad (stA Rs i).cs.n (stA Rs i).cs.cap) (psA L i).cs ∧ blt (.slice (stA Rs i).cs.ad (stA Rs i).cs.n (stA Rs i).cs.cap) (X (i + 1))) := fun i => by
    by_cases hi : i < L.length
    · obtain ⟨x1, x2, x3, q⟩ := (h.at_ i hi).mem
      exact ⟨(x1, x2, x3), fun _ => q⟩
    · exact ⟨(0, 0, 0), fun z => absurd z hi⟩
  obtain ⟨Yf, EA⟩ := Classical.skolem.1 each
  have hm := h.len
  -- bounds of each slice's block
  obtain ⟨Y, hY0, hY1, hY2, hY3⟩ : ∃ Y : Nat → Nat, (∀ i, Y (4 * i) = X i) ∧ (∀ i, Y (4 * i + 1) = (Yf i).1) ∧ (∀ i, Y (4 * i + 2) = (Yf i).2.1) ∧ (∀ i, Y (4 * i + 3) = (Yf i).2.2) := by
    refine ⟨fun q => if q % 4 = 0 then X (q / 4) else if q % 4 = 1 then (Yf (q / 4)).1 else if q % 4 = 2 then (Yf (q / 4)).2.1 else (Yf (q / 4)).2.2, fun i => ?_, fun i => ?_, fun i => ?_, fun i => ?_⟩
    · dsimp only; rw [if_pos (by omega), show 4 * i / 4 = i by omega]
    · dsimp only; rw [if_neg (by omega), if_pos (by omega), show (4 * i + 1) / 4 = i by omega]
    · dsimp only; rw [if_neg (by omega), if_neg (by omega), if_pos (by omega), show (4 * i + 2) / 4 = i by omega]
    · dsimp only; rw [if_neg (by omega), if_neg (by omega), if_neg (by omega), show (4 * i + 3) / 4 = i by omega]
  have hY4 : ∀ i, Y (4 * i + 3 + 1) = X (i + 1) := fun i => by rw [show 4 * i + 3 + 1 = 4 * (i + 1) by omega]; exact hY0 _
  have STEP : ∀ j, j < 4 * Rs.length → Y j ≤ Y (j + 1) ∧ UnS w (slQ (stA Rs) j) ∧ (∀ x, (slQ (stA Rs) j).ad = some ⟨x, 0, none⟩ → Y j ≤ x ∧ x < Y (j + 1) ∧ x ≠ g) := fun j hj => by
    have hi : j / 4 < L.length := by omega
    obtain ⟨l1, l2, l3, l4, ⟨o1, b1⟩, ⟨o2, b2⟩, ⟨o3, b3⟩, ⟨o4, b4⟩⟩ := EA (j / 4) hi
    obtain ⟨ds, hds, _⟩ := hF
    rcases slQ_at (stA Rs) j with ⟨e, q⟩ | ⟨e, q⟩ | ⟨e, q⟩ | ⟨e, q⟩
    · rw [q]
      have y0 := hY0 (j / 4); have y1 := hY1 (j / 4)
      rw [← e] at y0 y1
      refine ⟨by omega, o1.uns, fun x hx => ?_⟩
      dsimp only at hx
      have ob : (Value.slice (stA Rs (j / 4)).wo.ad (stA Rs (j / 4)).wo.n (stA Rs (j / 4)).wo.cap).ownBlock = some x := by rw [hx]; rfl
      obtain ⟨r1, _, cs, r3⟩ := o1.row ob
      have := b1 x ob
      exact ⟨by omega, by omega, rowApart r3 hds (by decide)⟩
    · rw [q]
      have y0 := hY1 (j / 4); have y1 := hY2 (j / 4)
      rw [show 4 * (j / 4) + 2 = 4 * (j / 4) + 1 + 1 from rfl] at y1
      rw [← e] at y0 y1
      refine ⟨by omega, o2.uns, fun x hx => ?_⟩
      dsimp only at hx
      have ob : (Value.slice (stA Rs (j / 4)).wa.ad (stA Rs (j / 4)).wa.n (stA Rs (j / 4)).wa.cap).ownBlock = some x := by rw [hx]; rfl
      obtain ⟨r1, _, cs, r3⟩ := o2.row ob
      have := b2 x ob
      exact ⟨by omega, by omega, rowApart r3 hds (by decide)⟩
    · rw [q]
      have y0 := hY2 (j / 4); have y1 := hY3 (j / 4)
      rw [show 4 * (j / 4) + 3 = 4 * (j / 4) + 2 + 1 from rfl] at y1
      rw [← e] at y0 y1
      refine ⟨by omega, o3.uns, fun x hx => ?_⟩
      dsimp only at hx
      have ob : (Value.slice (stA Rs (j / 4)).wi.ad (stA Rs (j / 4)).wi.n (stA Rs (j / 4)).wi.cap).ownBlock = some x := by rw [hx]; rfl
      obtain ⟨r1, _, cs, r3⟩ := o3.row ob
      have := b3 x ob
      exact ⟨by omega, by omega, rowApart r3 hds (by decide)⟩
    · rw [q]
      have y0 := hY3 (j / 4); have y1 := hY4 (j / 4)
      rw [← e] at y0 y1
      refine ⟨by omega, o4.uns, fun x hx => ?_⟩
      dsimp only at hx
      have ob : (Value.slice (stA Rs (j / 4)).cs.ad (stA Rs (j / 4)).cs.n (stA Rs (j / 4)).cs.cap).ownBlock = some x := by rw [hx]; rfl
      obtain ⟨r1, _, cs, r3⟩ := o4.row ob
      have := b4 x ob
      exact ⟨by omega, by omega, rowApart r3 hds (by decide)⟩
  have MONO : ∀ i j, i ≤ j → j ≤ 4 * Rs.length → Y i ≤ Y j := fun i j => by
    intro hij
    induction j with
    | zero => intro _; rw [show i = 0 by omega]; exact Nat.le_refl _
    | succ j ih =>
      intro hj
      by_cases e : i = j + 1
      · rw [e]; exact Nat.le_refl _
      · exact Nat.le_trans (ih (by omega) (by omega)) (STEP j (by omega)).1
  refine ⟨g, c, f, rfl, ⟨hBg, hc, hfs, ⟨fun j x hj hn ha => ?_, fun j j' x hj hj' hne hn hn' ha ha' => ?_⟩, fun i hi => ?_, by omega⟩, hF.congr fun p _ => by unfold upS; rw [if_neg (by omega)], ⟨fun j hj hq => absurd hq (by omega), fun j hj _ => (STEP j hj).2.1⟩⟩
  · have q := (STEP j hj).2.2 x ha
    have := MONO 0 j (Nat.zero_le _) (by omega)
    have := hY0 0
    rw [Nat.mul_zero] at this
    have := h.lo
    exact ⟨by omega, q.2.2⟩
  · have q := (STEP j hj).2.2 x ha
    have q' := (STEP j' hj').2.2 x ha'
    rcases Nat.lt_or_gt_of_ne hne with e | e
    · have := MONO (j + 1) j' (by omega) (by omega); omega
    · have := MONO (j' + 1) j (by omega) (by omega); omega
  · have hi' : i < L.length := by omega
    have q := (h.at_ i hi').lens
    obtain ⟨b1, b2, b3, b4⟩ := hb i hi'
    rw [q.1, q.2.1, q.2.2.1, q.2.2.2]
    exact ⟨b1.1, b2.1, b3.1, b4.1⟩
/-- a policy that was marked -/
def MdV (w : World) (B : Nat) (v : Value) (Rs : List St) : Prop := (Rs.length = 0 ∧ ∃ a c, v = .slice a 0 c) ∨ ∃ g c f, v = .slice (some ⟨g, 0, none⟩) Rs.length c ∧ MdS B g c (stA Rs) Rs.length f ∧ MdP w B g c (stA Rs) Rs.length Rs.length 1 f
theorem MdV.below {w w' : World} {B : Nat} {v : Value} {Rs : List St} (h : MdV w B v Rs) (hb : Below w.heap.size w w') : MdV w' B v Rs := by
  rcases h with h | ⟨g, c, f, h1, h2, h3⟩
  · exact .inl h
  · exact .inr ⟨g, c, f, h1, h2, h3.row.below hb h3.row.lt, h3.sl.below hb⟩
set_option maxRecDepth 20000 in
set_option maxHeartbeats 4000000 in
theorem markPol (B : Nat) (v : Value) (L : List PS) (Rs : List St) (X : Nat → Nat) (hl : L.length ≤ 50) (hb : ∀ i, i < L.length → psB (psA L i)) (c l : Int) (w : World) (hBw : B ≤ w.heap.size) (h : PolR w B v L Rs X) :
    Calls Tryz.prog 15 #[.agg #[.int .i64 c, .int .i64 l, v], .int .i64 1] w fun e w' => e = .returned (.int .i64 ((kS 1 (stA Rs) Rs.length : Nat) : Int)) ∧ MdV w' B v Rs ∧ Below B w w' ∧ KT w w' := by
  obtain ⟨W1, hW1⟩ : ∃ W, W = w.alloc (.cells #[.int .i64 c, .int .i64 l, v] 28) := ⟨_, rfl⟩
  have B1 : Hid (Below w.heap.size w W1) := by rw [hW1]; exact (Below.refl _ _).alloc (Nat.le_refl _) _
  have h1 := h.below B1.out
  have Z1 : Hid (B ≤ W1.heap.size) := Nat.le_trans hBw B1.out.size
  have KK : Hid (Calls Tryz.prog 39 #[v, .int .i64 1] W1 fun e w' => e = .returned (.int .i64 ((kS 1 (stA Rs) Rs.length : Nat) : Int)) ∧ MdV w' B v Rs ∧ Below B W1 w' ∧ KT W1 w') := by
    by_cases h0 : Rs.length = 0
    · obtain ⟨a, c, hv⟩ := h.own.slice
      rw [h0] at hv ⊢
      rw [hv]
      exact (markSt0 a c 1 W1).mono fun e w' ⟨q1, q2⟩ => ⟨q1, .inl ⟨h0, a, c, rfl⟩, by rw [q2]; exact Below.refl _ _, by rw [q2]; exact KT.refl _⟩
    · obtain ⟨g, c, f, hv, hS, hP⟩ := h1.md hl hb h0 1
      rw [hv]
      exact (markSts B g c 1 (stA Rs) Rs.length f hS (Nat.le_refl _) (by omega) W1 Z1.out hP).mono fun e w' ⟨q1, q2, q3, q4⟩ => ⟨q1, .inr ⟨g, c, f, rfl, hS, q2⟩, q3, q4⟩
  obtain ⟨a, cc, rfl⟩ := h.own.slice
  obtain ⟨M, hM⟩ : ∃ M, M = kS 1 (stA Rs) Rs.length := ⟨_, rfl⟩
  rw [← hM] at KK ⊢
  obtain ⟨m, hm⟩ : ∃ m, m = Rs.length := ⟨_, rfl⟩
  rw [← hm] at KK hW1 ⊢
  have BB : Hid (Below B w W1) := B1.out.mono hBw
  have R1 : Hid (RowAt W1 w.heap.size 28 #[.int .i64 c, .int .i64 l, .slice a m cc]) := by rw [hW1]; exact RowAt.new _ _ _
  have x2 := R1.out.cell 2
  clear h h1 hb hM hm
  go_enter Tryz.func15, Tryz.ntmps15
  go_wp2_with fail
  rw [← hW1]
  clear hW1
  refine KK.out.mono ?_
  rintro e w2 ⟨rfl, hm2, hb2, ht2⟩
  have M2 := hid hm2
  have B2 := hid (BB.out.trans hb2)
  have T2 := hid ((KT.below B1.out).trans ht2)
  clear hm2 hb2 ht2 KK x2
  go_wp2
  go_ret
  exact ⟨rfl, M2.out, B2.out, T2.out⟩
set_option maxRecDepth 20000 in
set_option maxHeartbeats 4000000 in
theorem heldPol (B : Nat) (v : Value) (Rs : List St) (hRs : Rs.length ≤ 50) (c l : Int) (w : World) (h : MdV w B v Rs) :
    Calls Tryz.prog 16 #[.agg #[.int .i64 c, .int .i64 l, v], .int .i64 1] w fun e w' => e = .returned (.int .i64 ((kS 1 (stA Rs) Rs.length : Nat) : Int)) ∧ Below w.heap.size w w' := by
  obtain ⟨W1, hW1⟩ : ∃ W, W = w.alloc (.cells #[.int .i64 c, .int .i64 l, v] 28) := ⟨_, rfl⟩
  have B1 : Hid (Below w.heap.size w W1) := by rw [hW1]; exact (Below.refl _ _).alloc (Nat.le_refl _) _
  have h1 := h.below B1.out
  have KK : Hid (Calls Tryz.prog 40 #[v, .int .i64 1] W1 fun e w' => e = .returned (.int .i64 ((kS 1 (stA Rs) Rs.length : Nat) : Int)) ∧ Below W1.heap.size W1 w') := by
    rcases h1 with ⟨h0, a, c, hv⟩ | ⟨g, c, f, hv, hS, hP⟩
    · rw [h0, hv]
      exact (heldSt0 a c 1 W1).mono fun e w' ⟨q1, q2⟩ => ⟨q1, by rw [q2]; exact Below.refl _ _⟩
    · rw [hv]
      exact heldSts B g c 1 (stA Rs) Rs.length f hS (Nat.le_refl _) (by omega) W1 hP
  have SH : ∃ a n cc, v = .slice a n cc := by
    rcases h with ⟨_, a, c, hv⟩ | ⟨g, c, f, hv, _⟩
    · exact ⟨_, _, _, hv⟩
    · exact ⟨_, _, _, hv⟩
  obtain ⟨a, m, cc, rfl⟩ := SH
  obtain ⟨M, hM⟩ : ∃ M, M = kS 1 (stA Rs) Rs.length := ⟨_, rfl⟩
  rw [← hM] at KK ⊢
  have R1 : Hid (RowAt W1 w.heap.size 28 #[.int .i64 c, .int .i64 l, .slice a m cc]) := by rw [hW1]; exact RowAt.new _ _ _
  have x2 := R1.out.cell 2
  have d0 : ¬ (M : Int) < 0 := by omega
  clear h h1 hM
  go_enter Tryz.func16, Tryz.ntmps16
  go_wp2_with fail
  rw [← hW1]
  clear hW1
  refine KK.out.mono ?_
  rintro e w2 ⟨rfl, hb2⟩
  have B2 := hid (B1.out.trans (hb2.mono B1.out.size))
  clear hb2 KK x2
  go_wp2
  go_ret
  exact ⟨rfl, B2.out⟩
theorem PolR.sts {w : World} {B : Nat} {v : Value} {L : List PS} {Rs : List St} {X : Nat → Nat} (h : PolR w B v L Rs X) : ∃ a c, v = .slice a L.length c ∧ Sts w a L.length c (stA Rs) := by
  obtain ⟨a, c, hv⟩ := h.own.slice
  rw [h.len] at hv
  have hin : ∀ k, k < L.length → StIn w (stA Rs k) := fun k hk => (h.at_ k hk).in
  by_cases h0 : L.length = 0
  · refine ⟨a, c, hv, by omega, .inl h0, hin⟩
  · have ho := h.own
    rw [hv, ← h.len] at ho
    obtain ⟨g, f, ha, hBg, hc, hF, hfs⟩ := ho.frow (by rw [h.len]; exact h0)
    rw [h.len] at hc hfs
    refine ⟨a, c, hv, hc, .inr ⟨g, 0, ha, hF.lt, fun k hk => ?_⟩, hin⟩
    unfold StCell
    rw [Nat.zero_add]
    exact ⟨(hF.cell (by omega)).trans (by rw [hfs _ (by omega), stF0]), (hF.cell (by omega)).trans (by rw [hfs _ (by omega), stF1]), (hF.cell (by omega)).trans (by rw [hfs _ (by omega), stF2]), (hF.cell (by omega)).trans (by rw [hfs _ (by omega), stF3]), (hF.cell (by omega)).trans (by rw [hfs _ (by omega), stF4])⟩
set_option maxRecDepth 20000 in
set_option maxHeartbeats 4000000 in
theorem eqPol (c l : Int) (L : List PS) (hl : L.length ≤ 50) (hb : ∀ i, i < L.length → psB (psA L i)) (v v' : Value) (B B' : Nat) (w : World) (h : PolAt w B v L) (h' : PolAt w B' v' L) :
    Calls Tryz.prog 14 #[.agg #[.int .i64 c, .int .i64 l, v], .agg #[.int .i64 c, .int .i64 l, v']] w fun e w' => e = .returned (.bool true) ∧ Below w.heap.size w w' := by
  obtain ⟨W1, hW1⟩ : ∃ W, W = (w.alloc (.cells #[.int .i64 c, .int .i64 l, v] 28)).alloc (.cells #[.int .i64 c, .int .i64 l, v'] 28) := ⟨_, rfl⟩
  have B1 : Hid (Below w.heap.size w W1) := by rw [hW1]; exact ((Below.refl _ _).alloc (Nat.le_refl _) _).alloc (by rw [size_al]; omega) _
  obtain ⟨Rs, X, h⟩ := h
  obtain ⟨Rs', X', h'⟩ := h'
  obtain ⟨a, ca, rfl, hs⟩ := (h.below B1.out).sts
  obtain ⟨a', ca', rfl, hs'⟩ := (h'.below B1.out).sts
  have K := hid (eqSts a L.length ca (stA Rs) a' ca' (stA Rs') (by omega) (fun k hk => (h.at_ k hk).eq (h'.at_ k hk)) (fun k hk => (h.at_ k hk).stB (hb k hk)) W1 hs hs')
  obtain ⟨m, hm⟩ : ∃ m, m = L.length := ⟨_, rfl⟩
  rw [← hm] at K hW1 ⊢
  have R0 : Hid (RowAt W1 w.heap.size 28 #[.int .i64 c, .int .i64 l, .slice a m ca]) := by rw [hW1]; exact (RowAt.new _ _ _).alloc _
  have R1 : Hid (RowAt W1 (w.heap.size + 1) 28 #[.int .i64 c, .int .i64 l, .slice a' m ca']) := by rw [hW1]; exact RowAt.next _ _ _ (by rw [size_al])
  have x0 := R0.out.cell 0
  have x1 := R0.out.cell 1
  have x2 := R0.out.cell 2
  have y0 := R1.out.cell 0
  have y1 := R1.out.cell 1
  have y2 := R1.out.cell 2
  have d0 : (c != c) = false := by simp
  have d1 : (l != l) = false := by simp
  clear h h' hs hs' hb hm
  go_enter Tryz.func14, Tryz.ntmps14
  go_upto_region 1 with fail
  rw [← hW1]
  clear hW1
  go_wp2_with fail
  refine K.out.mono ?_
  rintro e w2 ⟨rfl, hb2⟩
  have B2 := hid (B1.out.trans (hb2.mono B1.out.size))
  clear hb2 K
  go_wp2
  go_ret
  exact ⟨rfl, B2.out⟩
end Go.Proofs.YtmjolkagkeonfaaGreatDoorR
