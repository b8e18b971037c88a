import Derived.Test.YtcbmgpdpjagaoaaGreatF1
import Derived.Test.YtcbmgpdpjagaoaaGreatFndI
import Derived.Deep.RegionLaw
namespace Go.Proofs.YtcbmgpdpjagaoaaGreat
open Go.RowKit
set_option linter.unusedVariables false
theorem RtU.below {W W' : World} {base : Nat} {t : Tt} {vF vR : Value} {Q : List (Value × List En)} {vO : Value} {O : List (Ot × Value)} (h : RtU W base t vF vR Q vO O) (hb : Below W.heap.size W W') : RtU W' base t vF vR Q vO O :=
 ⟨h.fr.below hb, or_keep h.rs fun g cs _ r => r.below hb r.lt, fun p hp => (h.ru p hp).below hb, h.eq, or_keep h.ou fun g cs _ r => r.below hb r.lt, fun p hp => (h.oe p hp).below hb⟩
theorem RtV.toU {W : World} {base : Nat} {t : Tt} {vF vR : Value} {Q : List (Value × List En)} {vO : Value} {O : List (Ot × Value)} (h : RtV W base t vF vR Q vO O) : RtU W base t vF vR Q vO O := ⟨h.fr, h.rs, h.ru, h.eq, h.ou, h.oe⟩
theorem out_at {W : World} {base : Nat} {a : Option Addr} {n c : Nat} {O : List (Ot × Value)} (h : W.ownsRow base 41 3 (.slice a n c) O.length (ouL O)) (hu : ∀ p ∈ O, OwnEn W base p.2 p.1.en) {k : Nat} (hk : k < O.length) : ∃ g u ax cx, a = some ⟨g, 0, none⟩ ∧ (O.map Prod.fst)[k]? = some u ∧ g < W.heap.size ∧ W.cell? ⟨g, k * 3, none⟩ = some (.int .i64 u.cd) ∧ W.cell? ⟨g, k * 3 + 1, none⟩ = some (.string u.tx) ∧ W.cell? ⟨g, k * 3 + 2, none⟩ = some (.slice ax u.en.length cx) ∧ Ens W ax u.en.length cx (enA u.en) := by
 obtain ⟨a', c', hv, h2⟩ := ou_cells h
 injection hv with e1 e2 e3
 subst e1
 rcases h2 with h2 | ⟨g, rfl, hg, hc⟩
 · omega
 · obtain ⟨⟨u, x⟩, hO⟩ : ∃ p, p = O[k] := ⟨_, rfl⟩
   have e : O[k]? = some (u, x) := by rw [List.getElem?_eq_getElem hk, ← hO]
   obtain ⟨c0, c1, c2⟩ := hc k u x e; have hE := hu (u, x) (by rw [hO]; exact List.getElem_mem hk); obtain ⟨ax, cx, hx⟩ := hE.slice; have hx' : x = .slice ax u.en.length cx := hx; subst hx'; exact ⟨g, u, ax, cx, rfl, by rw [List.getElem?_map, e]; rfl, hg, c0, c1, c2, hE.ens.2⟩
theorem Stp.enl {t t' : Tt} {o : TOp} {u : Ot} (h : TbOk t) (hs : Stp t o t' u) : u.en.length ≤ 1000 := by
 cases hs with
 | scan L fe _ _ _ hL _ =>
  have h1 := scN_len o.lm fe L o.ky o.til L.length; have h2 := hL.len; have h3 := h.cnt
  show (scN o.lm fe L o.ky o.til L.length).length ≤ 1000
  omega
 | _ => exact Nat.zero_le _
theorem outs_len {o : Nat → TOp} {t0 t : Tt} {n : Nat} {us : List Ot} (h0 : TbOk t0) (h : Rns8 o t0 n t us) : ∀ {u : Ot}, u ∈ us → u.en.length ≤ 1000 := by
 induction h with
 | zero => intro u hu; cases hu
 | next hr hs ih =>
  intro u hu
  rcases List.mem_append.1 hu with hu | hu
  · exact ih hu
  · rw [List.mem_singleton] at hu
    subst hu; exact hs.enl (hr.tb h0)
set_option maxRecDepth 20000 in
set_option maxHeartbeats 32000000 in
theorem tablesWalk (a : Option Addr) (len cap : Nat) (hl : len ≤ 1048576) (w : World) (KD : Hid (Calls Tryz.prog 5 #[.slice a len cap] w fun e w' => DrT w e w')) :
 Calls Tryz.prog 4 #[.slice a len cap] w fun e w' => e = .returned (.bool true) ∧ Below w.heap.size w w' := by
 have d0 : decide ((1048576 : Int) < (len : Int)) = false := by simp; omega
 go_enter Tryz.func4, Tryz.ntmps4
 go_wp2_with fail
 refine KD.out.mono ?_; intro e w1 hD; obtain ⟨⟨s, f, aF, nF, cF, F, aR, nR, cR, Q, aO, nO, cO, L, rfl, hTb, hOp, hLn, hTo, hnO⟩, hb1⟩ := hD; have G1 := hid (tbg_of hTb.fr hTb.rs hTb.ru hTb.nF hTb.nQ hTb.tot hTb.eF hTb.eQ); obtain ⟨aT, cT, hvT, hTops⟩ := own_tops hOp
 injection hvT with e1 e2 e3
 subst e1 e2 e3; obtain ⟨o, ho⟩ : ∃ o : Nat → TOp, o = fun k => L.getD k ⟨0, ⟨#[]⟩, ⟨#[]⟩, 0, ⟨#[]⟩, 0⟩ := ⟨_, rfl⟩; rw [← ho] at hTops; obtain ⟨nO, hnO2⟩ : ∃ x, x = L.length := ⟨_, rfl⟩
 have hPB : ∀ k, k < nO → (o k).ky.size ≤ 100000 ∧ (o k).til.size ≤ 100000 ∧ (o k).sq ≤ 9223372036854775807 := fun k hk => by
  have hm : o k ∈ L := by
   have hk' : k < L.length := by omega
   rw [ho]
   show L.getD k _ ∈ L
   rw [List.getD_eq_getElem?_getD, List.getElem?_eq_getElem hk']; exact List.getElem_mem hk'
  have := hTo _ hm
  omega
 rw [← hnO2] at hTops hnO ⊢; have TO1 := hid hTops; have PB := hid hPB; have B1 := hid hb1; obtain ⟨W2, hW2⟩ : ∃ W, W = w1.alloc (.cells #[.int .i64 s, .int .i64 f, .slice aF nF cF, .slice aR nR cR] 28) := ⟨_, rfl⟩; have b2 : Below w1.heap.size w1 W2 := by rw [hW2]; exact (Below.refl _ _).alloc (Nat.le_refl _) _
 have Y2 : Hid (RowAt W2 w1.heap.size 28 #[.int .i64 s, .int .i64 f, .slice aF nF cF, .slice aR nR cR]) := by rw [hW2]; exact RowAt.new _ _ _
 have B2 := hid (hb1.trans (b2.mono hb1.size)); have G2 := hid (G1.out.below b2); have TO2 := hid (TO1.out.below b2); obtain ⟨y, hy⟩ : ∃ x, x = w1.heap.size := ⟨_, rfl⟩; clear hTb hOp hLn hTo hb1 ho hPB hTops KD hnO2
 go_upto_region 4 with ((refine wpList_store_row rfl 28 (.tmp 3) (.tmp 16) rfl w1.heap.size #[.int .i64 s, .int .i64 f, .slice aF nF cF, .slice aR nR cR] rfl rfl _ _ (RowAt.new w1 _ _) (by kernel_rfl) rfl (by simp [Value.oneCell']) ?_); rw [World.setRow_alloc_new])
 rw [← hW2, ← hy]; rw [← hy] at Y2; clear hW2 b2 hy G1 TO1 B1; have t0 := Y2.out.cell 0; have t1 := Y2.out.cell 1; have t2 := Y2.out.cell 2; have t3 := Y2.out.cell 3
 by_cases htab : tabOk s f nF (enA F) nR (Rq Q)
 · obtain ⟨T0, hT0⟩ : ∃ x, x = ttOf s f nF (enA F) nR (Rq Q) := ⟨_, rfl⟩
   have TB0 : Hid (TbOk T0) := by show TbOk T0; rw [hT0]; exact tb_of_tab htab
   have KI := hid (iRunT_ok s f aF nF cF (enA F) aR nR cR (Rq Q) aO nO cO o (by omega) PB.out htab W2 G2.out.en G2.out.rn G2.out.ra TO2.out); have KS := fun wx (hb : Below W2.heap.size W2 wx) => hid (sRunTbG s f aF nF cF (enA F) aR nR cR (Rq Q) htab G2.out.zF G2.out.zR aO nO cO o (by omega) wx (G2.out.en.below hb) (G2.out.rn.below hb) (TO2.out.below hb)); rw [← hT0] at KI KS; clear htab hT0
   go_wp2_with fail
   refine KI.out.mono ?_; intro e w3 hR3; obtain ⟨⟨t, vF1, vR1, Q1, vO1, O1, rfl, hRun, hU⟩, hb3⟩ := hR3; obtain ⟨aF1, cF1, hvF1⟩ := hU.fr.slice; obtain ⟨aR1, cR1, hvR1⟩ := or_slice hU.rs; obtain ⟨aO1, cO1, hvO1⟩ := or_slice hU.ou; have hOn : O1.length = nO := by have := hRun.len; rw [List.length_map] at this; exact this
   rw [hOn] at hvO1; obtain ⟨nF1, hnF1⟩ : ∃ x, x = t.fr.length := ⟨_, rfl⟩; obtain ⟨nR1, hnR1⟩ : ∃ x, x = Q1.length := ⟨_, rfl⟩; rw [← hnF1] at hvF1; rw [← hnR1] at hvR1; subst hvF1 hvR1 hvO1; obtain ⟨SQ, hSQ⟩ : ∃ x, x = t.sq := ⟨_, rfl⟩; obtain ⟨FL, hFL⟩ : ∃ x, x = t.fl := ⟨_, rfl⟩; rw [← hSQ, ← hFL]; have RUN := hid hRun; have HSQ := hid hSQ; have HFL := hid hFL; have HON := hid hOn; obtain ⟨W4, hW4⟩ : ∃ W, W = w3.alloc (.cells #[.int .i64 SQ, .int .i64 FL, .slice aF1 nF1 cF1, .slice aR1 nR1 cR1, .slice aO1 nO cO1] 35) := ⟨_, rfl⟩; have b4 : Below w3.heap.size w3 W4 := by rw [hW4]; exact (Below.refl _ _).alloc (Nat.le_refl _) _
   have X4 : Hid (RowAt W4 w3.heap.size 35 #[.int .i64 SQ, .int .i64 FL, .slice aF1 nF1 cF1, .slice aR1 nR1 cR1, .slice aO1 nO cO1]) := by rw [hW4]; exact RowAt.new _ _ _
   have U4 := hid (hU.below b4); have B24 : Hid (Below W2.heap.size W2 W4) := hb3.trans (b4.mono hb3.size); have Y4 := hid (Y2.out.below B24.out Y2.out.lt); obtain ⟨x5, hx5⟩ : ∃ x, x = w3.heap.size := ⟨_, rfl⟩; clear hU hRun hSQ hFL hnF1 hnR1 hOn
   go_upto_region 5 with ((refine wpList_store_row rfl 35 (.tmp 5) (.tmp 20) rfl w3.heap.size #[.int .i64 SQ, .int .i64 FL, .slice aF1 nF1 cF1, .slice aR1 nR1 cR1, .slice aO1 nO cO1] rfl rfl _ _ (RowAt.new w3 _ _) (by kernel_rfl) rfl (by simp [Value.oneCell']) ?_); rw [World.setRow_alloc_new])
   rw [← hW4, ← hx5]; rw [← hx5] at X4; clear hW4 b4 hx5 hb3 KI t0 t1 t2 t3; have t0 := Y4.out.cell 0; have t1 := Y4.out.cell 1; have t2 := Y4.out.cell 2; have t3 := Y4.out.cell 3; have KS4 := KS W4 B24.out; clear KS
   go_wp2_with fail
   refine KS4.out.mono ?_; intro e w5 hR5; obtain ⟨⟨t', vF2, vR2, Q2, vO2, O2, rfl, hRun2, hV⟩, hb5⟩ := hR5; obtain ⟨rfl, hUS⟩ := Rns8.det TB0.out.tok RUN.out hRun2; have hU2 := hV.toU; obtain ⟨aF2, cF2, hvF2⟩ := hU2.fr.slice; obtain ⟨aR2, cR2, hvR2⟩ := or_slice hU2.rs; obtain ⟨aO2, cO2, hvO2⟩ := or_slice hU2.ou; have hOn2 : O2.length = nO := by have := hRun2.len; rw [List.length_map] at this; exact this
   rw [hOn2] at hvO2; obtain ⟨nF2, hnF2⟩ : ∃ x, x = t.fr.length := ⟨_, rfl⟩; obtain ⟨nR2, hnR2⟩ : ∃ x, x = Q2.length := ⟨_, rfl⟩; rw [← hnF2] at hvF2; rw [← hnR2] at hvR2; subst hvF2 hvR2 hvO2; rw [← HSQ.out, ← HFL.out]; have HON2 := hid hOn2; have HUS := hid hUS; obtain ⟨W6, hW6⟩ : ∃ W, W = w5.alloc (.cells #[.int .i64 SQ, .int .i64 FL, .slice aF2 nF2 cF2, .slice aR2 nR2 cR2, .slice aO2 nO cO2] 35) := ⟨_, rfl⟩; have b6 : Below w5.heap.size w5 W6 := by rw [hW6]; exact (Below.refl _ _).alloc (Nat.le_refl _) _
   have X6 : Hid (RowAt W6 w5.heap.size 35 #[.int .i64 SQ, .int .i64 FL, .slice aF2 nF2 cF2, .slice aR2 nR2 cR2, .slice aO2 nO cO2]) := by rw [hW6]; exact RowAt.new _ _ _
   have b46 : Below W4.heap.size W4 W6 := hb5.trans (b6.mono hb5.size); have Z6 := hid (X4.out.below b46 X4.out.lt); have U6 := hid (U4.out.below b46); have V6 := hid (hU2.below b6); have TO6 := hid ((TO2.out.below B24.out).below b46); have B6 : Hid (Below w.heap.size w W6) := (B2.out.trans (B24.out.mono B2.out.size)).trans (b46.mono (B2.out.trans (B24.out.mono B2.out.size)).size); obtain ⟨x6, hx6⟩ : ∃ x, x = w5.heap.size := ⟨_, rfl⟩; clear hV hRun2 hnF2 hnR2 hOn2 hUS hU2
   go_upto_region 6 with ((refine wpList_store_row rfl 35 (.tmp 6) (.tmp 23) rfl w5.heap.size #[.int .i64 SQ, .int .i64 FL, .slice aF2 nF2 cF2, .slice aR2 nR2 cR2, .slice aO2 nO cO2] rfl rfl _ _ (RowAt.new w5 _ _) (by kernel_rfl) rfl (by simp [Value.oneCell']) ?_); rw [World.setRow_alloc_new])
   rw [← hW6, ← hx6]; rw [← hx6] at X6; clear hW6 b6 hx6 hb5 KS4 t0 t1 t2 t3 b46 X4 Y4 Y2 B24 B2 G2 U4 TO2; have r0 := Z6.out.cell 0; have r1 := Z6.out.cell 1; have r4 := Z6.out.cell 4; have q0 := X6.out.cell 0; have q1 := X6.out.cell 1; have q4 := X6.out.cell 4; have wn : IntKind.i64.wrap ((nO : Int) - 1) = (nO : Int) - 1 := by simp [IntKind.wrap, IntKind.bits, IntKind.signed]; omega
   go_wp2_with fail
   clear r0 r1 r4 q0 q1 q4
   go_loopw [7] (fun q wr => ∃ i : Nat, i ≤ nO ∧ q = .int .i64 (i : Int) ∧ Below W6.heap.size W6 wr) (fun q _ => nO - (intOf q).toNat)
   case atStart => exact ⟨0, Nat.zero_le _, rfl, Below.refl _ _⟩
   case round =>
    obtain ⟨i, hi, rfl, hB⟩ := hrel; have BB := hid hB; have Z7 := hid (Z6.out.below hB Z6.out.lt); have X7 := hid (X6.out.below hB X6.out.lt); have r4 := Z7.out.cell 4; clear hB
    by_cases hlt : i < nO
    · have dl : (i : Int) < (nO : Int) := by omega
      have i0 : (0 : Int) ≤ (i : Int) := by omega
      have q4 := X7.out.cell 4; obtain ⟨g1, u, ax, cx, ha1, hu1, hg1, k0, k1, k2, hE1⟩ := out_at U6.out.ou U6.out.oe (k := i) (by have := HON.out; omega); obtain ⟨g2, u2, ay, cy, ha2, hu2, hg2, l0, l1, l2, hE2⟩ := out_at V6.out.ou V6.out.oe (k := i) (by have := HON2.out; omega); rw [HUS.out] at hu1
      obtain rfl : u2 = u := by rw [hu1] at hu2; exact (Option.some.inj hu2).symm
      subst ha1 ha2; obtain ⟨cd, tx, en⟩ := u2; dsimp only at k0 k1 k2 l0 l1 l2 hE1 hE2; obtain ⟨ne, hne⟩ : ∃ x, x = en.length := ⟨_, rfl⟩; rw [← hne] at k2 l2 hE1 hE2
      have hnb : ne ≤ 1048576 := by
       have hm : (⟨cd, tx, en⟩ : Ot) ∈ O2.map Prod.fst := List.mem_of_getElem? hu2; have := outs_len TB0.out RUN.out (by rw [HUS.out]; exact hm); have h2 : en.length ≤ 1000 := this
       omega
      clear hne hu1 hu2; have SF : Hid (∀ wx, Below W6.heap.size W6 wx → (wx.cell? ⟨x5, 4, none⟩ = some (.slice (some ⟨g1, 0, none⟩) nO cO1) ∧ wx.cell? ⟨x6, 4, none⟩ = some (.slice (some ⟨g2, 0, none⟩) nO cO2)) ∧ (wx.cell? ⟨g1, i * 3, none⟩ = some (.int .i64 cd) ∧ wx.cell? ⟨g1, i * 3 + 1, none⟩ = some (.string tx) ∧ wx.cell? ⟨g1, i * 3 + 2, none⟩ = some (.slice ax ne cx)) ∧ wx.cell? ⟨g2, i * 3, none⟩ = some (.int .i64 cd) ∧ wx.cell? ⟨g2, i * 3 + 1, none⟩ = some (.string tx) ∧ wx.cell? ⟨g2, i * 3 + 2, none⟩ = some (.slice ay ne cy)) := fun wx hb => ⟨⟨(Z6.out.below hb Z6.out.lt).cell 4, (X6.out.below hb X6.out.lt).cell 4⟩, ⟨(hb.cell (p := ⟨g1, _, none⟩) hg1).trans k0, (hb.cell (p := ⟨g1, _, none⟩) hg1).trans k1, (hb.cell (p := ⟨g1, _, none⟩) hg1).trans k2⟩, (hb.cell (p := ⟨g2, _, none⟩) hg2).trans l0, (hb.cell (p := ⟨g2, _, none⟩) hg2).trans l1, (hb.cell (p := ⟨g2, _, none⟩) hg2).trans l2⟩; have KL := fun wx (hb : Below W6.heap.size W6 wx) => hid (lwEns ax ne cx ay cy (enA en) hnb wx (hE1.below hb) (hE2.below hb)); obtain ⟨⟨m0, m1⟩, ⟨m2, m3, m4⟩, m5, m6, m7⟩ := SF.out wr BB.out; have txe : (tx.toList == tx.toList) = true := by simp
      have txn : (!(tx.toList == tx.toList)) = false := by simp
      clear k0 k1 k2 l0 l1 l2 hE1 hE2 r4 q4 hnb
      go_upto_region 11 with fail
      go_cut [99] from 56 to 98 (fun c wx => c = .bool false ∧ Below W6.heap.size W6 wx)
      case first =>
       go_region_held3 (fun wx => (wx.cell? ⟨x5, 4, none⟩ = some (.slice (some ⟨g1, 0, none⟩) nO cO1) ∧ wx.cell? ⟨x6, 4, none⟩ = some (.slice (some ⟨g2, 0, none⟩) nO cO2)) ∧ (wx.cell? ⟨g1, i * 3, none⟩ = some (.int .i64 cd) ∧ wx.cell? ⟨g1, i * 3 + 1, none⟩ = some (.string tx) ∧ wx.cell? ⟨g1, i * 3 + 2, none⟩ = some (.slice ax ne cx)) ∧ wx.cell? ⟨g2, i * 3, none⟩ = some (.int .i64 cd) ∧ wx.cell? ⟨g2, i * 3 + 1, none⟩ = some (.string tx) ∧ wx.cell? ⟨g2, i * 3 + 2, none⟩ = some (.slice ay ne cy))
        ((first | exact SF.out _ BB.out | exact SF.out _ BB.out.drew))
        ((go_at_call 11; (first | refine (KL _ BB.out).out.mono ?_ | refine (KL _ BB.out.drew).out.mono ?_); rintro e w9 ⟨rfl, hb⟩; (first | replace BB := hid (BB.out.trans (hb.mono BB.out.size)) | replace BB := hid (BB.out.drew.trans (hb.mono BB.out.size)))))
       all_goals go_wp2_with fail
       all_goals go_meet
       all_goals exact ⟨rfl, BB.out⟩
      case rest =>
       obtain ⟨rfl, hBc⟩ := hcut
       go_wp2_with fail
       go_roundw
       case rel => exact ⟨i + 1, by omega, by go_num, hBc⟩
       case measure => simp [intOf]; omega
    · have dl : ¬ (i : Int) < (nO : Int) := by omega
      clear hi hlt; have TBt := hid (RUN.out.tb TB0.out); obtain ⟨GT, htt⟩ := tbg_tb TBt.out U6.out.fr U6.out.rs U6.out.ru U6.out.eq; have GT6 := hid GT; have HTT := hid htt; have W0r := hid BB.out; clear GT htt
      go_wp2_with fail
      go_loopw [8] (fun q wr => ∃ (k : Nat) (J : Int), k ≤ nO ∧ J + 1 = k ∧ q = .int .i64 J ∧ Below W6.heap.size W6 wr ∧ ∀ p v, k ≤ p → (O2.map Prod.fst)[p]? = some v → ¬ isPut (o p) v) (fun q _ => (intOf q + 1).toNat)
      case atStart => exact ⟨nO, (nO : Int) - 1, Nat.le_refl _, by omega, rfl, W0r.out, fun p v hp hv => by
       have := (List.getElem?_eq_some_iff.1 hv).1; rw [List.length_map] at this; have := HON2.out
       omega⟩
      case round =>
       clear BB Z7 X7 r4; obtain ⟨k, J, hk, hJ, rfl, hB, hno⟩ := hrel; have BB := hid hB; have NOP := hid hno; clear hB hno
       by_cases hJ0 : J < 0
       · have z1 : ¬ (0 : Int) ≤ J := by omega
         have z2 : decide ((0 : Int) ≤ J) = false := by simp; omega
         go_wp2_with fail
         go_ret
         exact ⟨rfl, B6.out.trans (BB.out.mono B6.out.size)⟩
       · obtain ⟨j, rfl⟩ := Int.eq_ofNat_of_zero_le (show 0 ≤ J by omega)
         have hjk : k = j + 1 := by omega
         have hj : j < nO := by omega
         have HJK := hid hjk; clear hJ hjk hk hJ0; have z1 : (0 : Int) ≤ (j : Int) := by omega
         have z2 : decide ((0 : Int) ≤ (j : Int)) = true := by simp
         have z3 : (0 : Int) < (nO : Int) := by omega
         have z4 : decide ((0 : Int) < (nO : Int)) = true := by simp; omega
         have z5 : (j : Int) < (nO : Int) := by omega
         have z6 : 0 < nO := by omega
         have z7 : decide (0 < nO) = true := by simp; omega
         have wj : IntKind.i64.wrap ((j : Int) - 1) = (j : Int) - 1 := by simp [IntKind.wrap, IntKind.bits, IntKind.signed]; omega
         have q4 := (X6.out.below BB.out X6.out.lt).cell 4; obtain ⟨g2, u, ay, cy, ha2, hu2, hg2, l0, l1, l2, _⟩ := out_at V6.out.ou V6.out.oe (k := j) (by have := HON2.out; omega); subst ha2; have m0 := (BB.out.cell (p := ⟨g2, j * 3, none⟩) hg2).trans l0
         rcases TO6.out.2 with h00 | ⟨bo, off, hbo, hbl6, hcc⟩
         · omega
         subst hbo; obtain ⟨p06, p16, p26, p36, p46, p56⟩ := hcc j hj; have hky := PB.out j hj; have HU := hid hu2; obtain ⟨OP, hOP⟩ : ∃ x, x = o j := ⟨_, rfl⟩
         have FXX : Hid (∀ x, FnR SQ FL nF1 (enA t.fr) nR1 (Rq Q1) OP.ky SQ x → isPut OP u → x = fndE (some (lastE OP SQ))) := fun x hx hp => by
          rw [HSQ.out, HFL.out] at hx; rw [HSQ.out]; have htk := tab_of_tb (s := t.sq) (f := t.fl) (n0 := nF1) (o0 := enA t.fr) (m := nR1) (R := Rq Q1) (by rw [HTT.out]; exact TBt.out); have h1 := fnr_of htk hx; rw [← ttOf_all t.sq t.fl, HTT.out] at h1; rw [hOP] at hp h1 ⊢; have h2 := RUN.out.last TB0.out hj (by rw [HUS.out]; exact hu2) hp (fun p v hpj hv => NOP.out p v (by have := HJK.out; omega) (by rw [← HUS.out]; exact hv)); exact FndOf.uniq TBt.out.tok h1 h2
         have HOP := hid hOP; rw [← hOP] at p06 p16 p26 p36 p46 p56 hky; clear hcc hOP hu2 l0 l1 l2; obtain ⟨kd, ky, tx, oq, til, lm⟩ := OP; obtain ⟨cd, ut, ue⟩ := u; dsimp only at p06 p16 p26 hky m0 FXX; have KF := fun wx (hb : Below W6.heap.size W6 wx) => hid (iFindG SQ FL aF1 nF1 cF1 (enA t.fr) aR1 nR1 cR1 (Rq Q1) (by have := GT6.out.bF; omega) (by have := GT6.out.bR; omega) (by have := GT6.out.cn; omega) GT6.out.sF GT6.out.sz ky (by omega) SQ (by rw [HSQ.out]; have := TBt.out.q1; omega) wx (GT6.out.en.below hb) (GT6.out.rn.below hb) (GT6.out.ra.below hb)); have hbl : bo < wr.heap.size := Nat.lt_of_lt_of_le hbl6 BB.out.size; have p0 := (BB.out.cell (p := ⟨bo, off + j * 6, none⟩) hbl6).trans p06; have p1 := (BB.out.cell (p := ⟨bo, off + j * 6 + 1, none⟩) hbl6).trans p16; have p2 := (BB.out.cell (p := ⟨bo, off + j * 6 + 2, none⟩) hbl6).trans p26; clear hky
         have NEXT : Hid (¬ isPut ⟨kd, ky, tx, oq, til, lm⟩ ⟨cd, ut, ue⟩ → ∀ p v, j ≤ p → (O2.map Prod.fst)[p]? = some v → ¬ isPut (o p) v) := fun hn p v hp hv => by
          by_cases e : p = j
          · subst e
            rw [HU.out] at hv; rw [← Option.some.inj hv, ← HOP.out]; exact hn
          · exact NOP.out p v (by have := HJK.out; omega) hv
         by_cases hcd : cd = 0
         · obtain rfl : cd = 0 := hcd
           have c1 : ((0 : Int) == 0) = true := rfl
           by_cases hkd1 : kd = 1
           · obtain rfl : kd = 1 := hkd1
             have n1 : ((1 : Int) == 1) = true := rfl; have n2' : ((1 : Int) == 2) = false := rfl
             have FX : Hid (∀ x, FnR SQ FL nF1 (enA t.fr) nR1 (Rq Q1) ky SQ x → x = (⟨ky, SQ, false, tx⟩ : En)) := fun x hx => by
              have h1 := (FXX.out x hx ⟨.inl rfl, rfl⟩); rw [h1]
              rfl
             have BX := hid BB.out; have BD : Hid (Below W6.heap.size W6 (wr.drew.alloc (.cells #[.string ⟨#[]⟩, .int .i64 0, .bool false, .string ⟨#[]⟩] 46))) := BX.out.drew.alloc BX.out.size _; have SF17 : Hid (∀ wx, Below W6.heap.size W6 wx → (wx.cell? ⟨x5, 0, none⟩ = some (.int .i64 SQ) ∧ wx.cell? ⟨x5, 1, none⟩ = some (.int .i64 FL) ∧ wx.cell? ⟨x5, 2, none⟩ = some (.slice aF1 nF1 cF1) ∧ wx.cell? ⟨x5, 3, none⟩ = some (.slice aR1 nR1 cR1)) ∧ wx.cell? ⟨bo, off + j * 6 + 1, none⟩ = some (.string ky)) := fun wx hb => ⟨⟨(Z6.out.below hb Z6.out.lt).cell 0, (Z6.out.below hb Z6.out.lt).cell 1, (Z6.out.below hb Z6.out.lt).cell 2, (Z6.out.below hb Z6.out.lt).cell 3⟩, (hb.cell (p := ⟨bo, off + j * 6 + 1, none⟩) hbl6).trans p16⟩
             go_upto_region 17 with fail
             go_cut [9] from 136 to 146 (fun c wx => ∃ Y, c = .pointer (some ⟨Y, 0, none⟩) ∧ RowAt wx Y 46 #[.string ky, .int .i64 SQ, .bool false, .string tx] ∧ Below W6.heap.size W6 wx)
             case first =>
              go_region_held3 (fun wx => (wx.cell? ⟨x5, 0, none⟩ = some (.int .i64 SQ) ∧ wx.cell? ⟨x5, 1, none⟩ = some (.int .i64 FL) ∧ wx.cell? ⟨x5, 2, none⟩ = some (.slice aF1 nF1 cF1) ∧ wx.cell? ⟨x5, 3, none⟩ = some (.slice aR1 nR1 cR1)) ∧ wx.cell? ⟨bo, off + j * 6 + 1, none⟩ = some (.string ky))
               ((first | exact SF17.out _ BX.out.drew | exact SF17.out _ BD.out | exact SF17.out _ B7.out | exact SF17.out _ B70.out | exact SF17.out _ (B70.out.alloc B70.out.size _) | exact SF17.out _ ((((B7.out.setCell YG.out _).setCell YG.out _).setCell YG.out _).setCell YG.out _)))
               ((go_at_call 14; refine (KF _ (by first | exact BX.out.drew | exact BD.out)).out.mono ?_; rintro e w7 ⟨⟨x, rfl, hx⟩, hb⟩; obtain rfl := FX.out x hx; (first | (have hb4 : Below (wr.drew.alloc (.cells #[.string ⟨#[]⟩, .int .i64 0, .bool false, .string ⟨#[]⟩] 46)).heap.size (wr.drew.alloc (.cells #[.string ⟨#[]⟩, .int .i64 0, .bool false, .string ⟨#[]⟩] 46)) w7 := ⟨hb.os, hb.tape, hb.output, hb.size, hb.block⟩; have E7 : Hid (RowAt w7 wr.heap.size 46 #[.string ⟨#[]⟩, .int .i64 0, .bool false, .string ⟨#[]⟩]) := (RowAt.below (RowAt.new wr.drew 46 #[.string ⟨#[]⟩, .int .i64 0, .bool false, .string ⟨#[]⟩]) hb4 (RowAt.new wr.drew 46 #[.string ⟨#[]⟩, .int .i64 0, .bool false, .string ⟨#[]⟩]).lt); have B7 := hid (BD.out.trans (hb4.mono BD.out.size)); have YG : Hid (W6.heap.size ≤ wr.heap.size) := BX.out.size; clear hb4) | (have hb3 : Below wr.drew.heap.size wr.drew w7 := ⟨hb.os, hb.tape, hb.output, hb.size, hb.block⟩; have B70 := hid (BX.out.drew.trans (hb3.mono BX.out.size)); have E7 : Hid (RowAt (w7.alloc (.cells #[.string ⟨#[]⟩, .int .i64 0, .bool false, .string ⟨#[]⟩] 46)) w7.heap.size 46 #[.string ⟨#[]⟩, .int .i64 0, .bool false, .string ⟨#[]⟩]) := RowAt.new _ _ _; clear hb3)); clear hx hb; have y0 := E7.out.cell 0; have y1 := E7.out.cell 1; have y2 := E7.out.cell 2; have y3 := E7.out.cell 3; have f0 := E7.out.free 0; have f1 := E7.out.free 1; have f2 := E7.out.free 2; have f3 := E7.out.free 3))
              all_goals go_wp2_with fail
              all_goals go_meet
              all_goals (first | exact ⟨_, rfl, RowAt.new _ _ _, B70.out.alloc B70.out.size _⟩ | exact ⟨_, rfl, (((E7.out.set 0 _).set 1 _).set 2 _).set 3 _, (((B7.out.setCell YG.out _).setCell YG.out _).setCell YG.out _).setCell YG.out _⟩)
             case rest =>
              obtain ⟨Y, rfl, hE, hBc⟩ := hcut; have e0 := hE.cell 0; have e1 := hE.cell 1; have e2 := hE.cell 2; have e3 := hE.cell 3; have pk0 := (hBc.cell (p := ⟨bo, off + j * 6, none⟩) hbl6).trans p06; have pk2 := (hBc.cell (p := ⟨bo, off + j * 6 + 2, none⟩) hbl6).trans p26; clear p0 p1 p2 n1 n2' SF17 BD; have n2 : ((1 : Int) == 2) = false := rfl; have v4 := (Z6.out.below hBc Z6.out.lt).cell 0; have txe : (tx.toList == tx.toList) = true := by simp
              have sqe : (SQ == SQ) = true := by simp
              go_upto_region 20 with fail
              go_quiet (fail)
              go_wp2_with fail
              go_ret
              exact ⟨rfl, B6.out.trans ((below_dN hBc _).mono B6.out.size)⟩
           by_cases hkd2 : kd = 2
           · obtain rfl : kd = 2 := hkd2
             have n1 : ((2 : Int) == 1) = false := rfl; have n2' : ((2 : Int) == 2) = true := rfl
             have FX : Hid (∀ x, FnR SQ FL nF1 (enA t.fr) nR1 (Rq Q1) ky SQ x → x = (⟨⟨#[]⟩, 0, false, ⟨#[]⟩⟩ : En)) := fun x hx => by
              have h1 := (FXX.out x hx ⟨.inr rfl, rfl⟩); rw [h1]
              rfl
             have BX := hid BB.out; have BD : Hid (Below W6.heap.size W6 (wr.drew.alloc (.cells #[.string ⟨#[]⟩, .int .i64 0, .bool false, .string ⟨#[]⟩] 46))) := BX.out.drew.alloc BX.out.size _; have SF17 : Hid (∀ wx, Below W6.heap.size W6 wx → (wx.cell? ⟨x5, 0, none⟩ = some (.int .i64 SQ) ∧ wx.cell? ⟨x5, 1, none⟩ = some (.int .i64 FL) ∧ wx.cell? ⟨x5, 2, none⟩ = some (.slice aF1 nF1 cF1) ∧ wx.cell? ⟨x5, 3, none⟩ = some (.slice aR1 nR1 cR1)) ∧ wx.cell? ⟨bo, off + j * 6 + 1, none⟩ = some (.string ky)) := fun wx hb => ⟨⟨(Z6.out.below hb Z6.out.lt).cell 0, (Z6.out.below hb Z6.out.lt).cell 1, (Z6.out.below hb Z6.out.lt).cell 2, (Z6.out.below hb Z6.out.lt).cell 3⟩, (hb.cell (p := ⟨bo, off + j * 6 + 1, none⟩) hbl6).trans p16⟩
             go_upto_region 17 with fail
             go_cut [9] from 136 to 146 (fun c wx => ∃ Y, c = .pointer (some ⟨Y, 0, none⟩) ∧ RowAt wx Y 46 #[.string ⟨#[]⟩, .int .i64 0, .bool false, .string ⟨#[]⟩] ∧ Below W6.heap.size W6 wx)
             case first =>
              go_region_held3 (fun wx => (wx.cell? ⟨x5, 0, none⟩ = some (.int .i64 SQ) ∧ wx.cell? ⟨x5, 1, none⟩ = some (.int .i64 FL) ∧ wx.cell? ⟨x5, 2, none⟩ = some (.slice aF1 nF1 cF1) ∧ wx.cell? ⟨x5, 3, none⟩ = some (.slice aR1 nR1 cR1)) ∧ wx.cell? ⟨bo, off + j * 6 + 1, none⟩ = some (.string ky))
               ((first | exact SF17.out _ BX.out.drew | exact SF17.out _ BD.out | exact SF17.out _ B7.out | exact SF17.out _ B70.out | exact SF17.out _ (B70.out.alloc B70.out.size _) | exact SF17.out _ ((((B7.out.setCell YG.out _).setCell YG.out _).setCell YG.out _).setCell YG.out _)))
               ((go_at_call 14; refine (KF _ (by first | exact BX.out.drew | exact BD.out)).out.mono ?_; rintro e w7 ⟨⟨x, rfl, hx⟩, hb⟩; obtain rfl := FX.out x hx; (first | (have hb4 : Below (wr.drew.alloc (.cells #[.string ⟨#[]⟩, .int .i64 0, .bool false, .string ⟨#[]⟩] 46)).heap.size (wr.drew.alloc (.cells #[.string ⟨#[]⟩, .int .i64 0, .bool false, .string ⟨#[]⟩] 46)) w7 := ⟨hb.os, hb.tape, hb.output, hb.size, hb.block⟩; have E7 : Hid (RowAt w7 wr.heap.size 46 #[.string ⟨#[]⟩, .int .i64 0, .bool false, .string ⟨#[]⟩]) := (RowAt.below (RowAt.new wr.drew 46 #[.string ⟨#[]⟩, .int .i64 0, .bool false, .string ⟨#[]⟩]) hb4 (RowAt.new wr.drew 46 #[.string ⟨#[]⟩, .int .i64 0, .bool false, .string ⟨#[]⟩]).lt); have B7 := hid (BD.out.trans (hb4.mono BD.out.size)); have YG : Hid (W6.heap.size ≤ wr.heap.size) := BX.out.size; clear hb4) | (have hb3 : Below wr.drew.heap.size wr.drew w7 := ⟨hb.os, hb.tape, hb.output, hb.size, hb.block⟩; have B70 := hid (BX.out.drew.trans (hb3.mono BX.out.size)); have E7 : Hid (RowAt (w7.alloc (.cells #[.string ⟨#[]⟩, .int .i64 0, .bool false, .string ⟨#[]⟩] 46)) w7.heap.size 46 #[.string ⟨#[]⟩, .int .i64 0, .bool false, .string ⟨#[]⟩]) := RowAt.new _ _ _; clear hb3)); clear hx hb; have y0 := E7.out.cell 0; have y1 := E7.out.cell 1; have y2 := E7.out.cell 2; have y3 := E7.out.cell 3; have f0 := E7.out.free 0; have f1 := E7.out.free 1; have f2 := E7.out.free 2; have f3 := E7.out.free 3))
              all_goals go_wp2_with fail
              all_goals go_meet
              all_goals (first | exact ⟨_, rfl, RowAt.new _ _ _, B70.out.alloc B70.out.size _⟩ | exact ⟨_, rfl, (((E7.out.set 0 _).set 1 _).set 2 _).set 3 _, (((B7.out.setCell YG.out _).setCell YG.out _).setCell YG.out _).setCell YG.out _⟩)
             case rest =>
              obtain ⟨Y, rfl, hE, hBc⟩ := hcut; have e0 := hE.cell 0; have e1 := hE.cell 1; have e2 := hE.cell 2; have e3 := hE.cell 3; have pk0 := (hBc.cell (p := ⟨bo, off + j * 6, none⟩) hbl6).trans p06; have pk2 := (hBc.cell (p := ⟨bo, off + j * 6 + 2, none⟩) hbl6).trans p26; clear p0 p1 p2 n1 n2' SF17 BD; have n2 : ((2 : Int) == 2) = true := rfl
              go_wp2_with fail
              go_ret
              exact ⟨rfl, B6.out.trans (hBc.mono B6.out.size)⟩
           have n1 : (kd == 1) = false := by simpa using hkd1
           have n2 : (kd == 2) = false := by simpa using hkd2
           have HNX := hid (NEXT.out (fun z => z.1.elim hkd1 hkd2)); clear hkd1 hkd2
           go_wp2_with fail
           go_roundw
           case rel => exact ⟨j, (j : Int) - 1, by omega, by omega, rfl, BB.out, HNX.out⟩
           case measure => simp [intOf] <;> omega
         · have c1 : (cd == 0) = false := by simpa using hcd
           have HNX := hid (NEXT.out (fun z => hcd z.2)); clear hcd
           go_wp2_with fail
           go_roundw
           case rel => exact ⟨j, (j : Int) - 1, by omega, by omega, rfl, BB.out, HNX.out⟩
           case measure => simp [intOf] <;> omega
 · have KI := hid (iRunT_no s f aF nF cF (enA F) aR nR cR (Rq Q) (by have := G2.out.bF; omega) (by have := G2.out.bR; omega) (by have := G2.out.cn; omega) G2.out.sF G2.out.sz aO nO cO (by omega) htab W2 G2.out.en G2.out.rn G2.out.ra)
   have KS := fun wx (hb : Below W2.heap.size W2 wx) => hid (sRunT_no s f aF nF cF (enA F) aR nR cR (Rq Q) (by have := G2.out.bF; omega) (by have := G2.out.bR; omega) G2.out.sF G2.out.sz aO nO cO htab wx (G2.out.en.below hb) (G2.out.rn.below hb)); clear htab TO2 PB
   go_wp2_with fail
   refine KI.out.mono ?_
   rintro e w3 ⟨rfl, hb3⟩
   obtain ⟨W4, hW4⟩ : ∃ W, W = w3.alloc (.cells #[.int .i64 0, .int .i64 0, .slice none 0 0, .slice none 0 0, .slice none 0 0] 35) := ⟨_, rfl⟩; have b4 : Below w3.heap.size w3 W4 := by rw [hW4]; exact (Below.refl _ _).alloc (Nat.le_refl _) _
   have X4 : Hid (RowAt W4 w3.heap.size 35 #[.int .i64 0, .int .i64 0, .slice none 0 0, .slice none 0 0, .slice none 0 0]) := by rw [hW4]; exact RowAt.new _ _ _
   have B24 : Hid (Below W2.heap.size W2 W4) := hb3.trans (b4.mono hb3.size); have Y4 := hid (Y2.out.below B24.out Y2.out.lt); obtain ⟨x5, hx5⟩ : ∃ x, x = w3.heap.size := ⟨_, rfl⟩
   go_upto_region 5 with ((refine wpList_store_row rfl 35 (.tmp 5) (.tmp 20) rfl w3.heap.size #[.int .i64 0, .int .i64 0, .slice none 0 0, .slice none 0 0, .slice none 0 0] rfl rfl _ _ (RowAt.new w3 _ _) (by kernel_rfl) rfl (by simp [Value.oneCell']) ?_); rw [World.setRow_alloc_new])
   rw [← hW4, ← hx5]; rw [← hx5] at X4; clear hW4 b4 hx5 hb3 KI t0 t1 t2 t3; have t0 := Y4.out.cell 0; have t1 := Y4.out.cell 1; have t2 := Y4.out.cell 2; have t3 := Y4.out.cell 3; have KS4 := KS W4 B24.out; clear KS
   go_wp2_with fail
   refine KS4.out.mono ?_
   rintro e w5 ⟨rfl, hb5⟩
   obtain ⟨W6, hW6⟩ : ∃ W, W = w5.alloc (.cells #[.int .i64 0, .int .i64 0, .slice none 0 0, .slice none 0 0, .slice none 0 0] 35) := ⟨_, rfl⟩; have b6 : Below w5.heap.size w5 W6 := by rw [hW6]; exact (Below.refl _ _).alloc (Nat.le_refl _) _
   have X6 : Hid (RowAt W6 w5.heap.size 35 #[.int .i64 0, .int .i64 0, .slice none 0 0, .slice none 0 0, .slice none 0 0]) := by rw [hW6]; exact RowAt.new _ _ _
   have b46 : Below W4.heap.size W4 W6 := hb5.trans (b6.mono hb5.size); have Z6 := hid (X4.out.below b46 X4.out.lt); have B6 : Hid (Below w.heap.size w W6) := (B2.out.trans (B24.out.mono B2.out.size)).trans (b46.mono (B2.out.trans (B24.out.mono B2.out.size)).size); obtain ⟨x6, hx6⟩ : ∃ x, x = w5.heap.size := ⟨_, rfl⟩
   go_upto_region 6 with ((refine wpList_store_row rfl 35 (.tmp 6) (.tmp 23) rfl w5.heap.size #[.int .i64 0, .int .i64 0, .slice none 0 0, .slice none 0 0, .slice none 0 0] rfl rfl _ _ (RowAt.new w5 _ _) (by kernel_rfl) rfl (by simp [Value.oneCell']) ?_); rw [World.setRow_alloc_new])
   rw [← hW6, ← hx6]; rw [← hx6] at X6; clear hW6 b6 hx6 hb5 KS4 t0 t1 t2 t3 b46 X4 Y4 Y2 B24 B2 G2; have r0 := Z6.out.cell 0; have r1 := Z6.out.cell 1; have r4 := Z6.out.cell 4; have q0 := X6.out.cell 0; have q1 := X6.out.cell 1; have q4 := X6.out.cell 4; have wn : IntKind.i64.wrap ((nO : Int) - 1) = (nO : Int) - 1 := by simp [IntKind.wrap, IntKind.bits, IntKind.signed]; omega
   go_wp2_with fail
   go_loopw [7] (fun q wr => q = .int .i64 0 ∧ wr = W6) (fun _ _ => 0)
   case atStart => exact ⟨rfl, rfl⟩
   case round =>
    obtain ⟨rfl, hw⟩ := hrel; obtain rfl := hw.symm
    go_wp2_with fail
    go_loopw [8] (fun q wr => q = .int .i64 ((nO : Int) - 1) ∧ wr = W6) (fun _ _ => 0)
    case atStart => exact ⟨rfl, rfl⟩
    case round =>
     obtain ⟨rfl, hw⟩ := hrel; obtain rfl := hw.symm
     by_cases hz : nO = 0
     · have z1 : ¬ (0 : Int) ≤ (nO : Int) - 1 := by omega
       have z2 : decide ((0 : Int) ≤ (nO : Int) - 1) = false := by simp; omega
       go_wp2_with fail
       go_ret
       exact ⟨rfl, B6.out⟩
     · have z1 : (0 : Int) ≤ (nO : Int) - 1 := by omega
       have z2 : decide ((0 : Int) ≤ (nO : Int) - 1) = true := by simp; omega
       go_wp2_with fail
       go_ret
       exact ⟨rfl, B6.out⟩
end Go.Proofs.YtcbmgpdpjagaoaaGreat
