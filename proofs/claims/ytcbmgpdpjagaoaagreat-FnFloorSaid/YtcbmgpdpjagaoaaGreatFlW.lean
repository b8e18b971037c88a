import Derived.Test.YtcbmgpdpjagaoaaGreatFlX
import Derived.Test.YtcbmgpdpjagaoaaGreatRtbW
import Derived.Deep.RegionLaw
import Derived.BigQuiet
namespace Go.Proofs.YtcbmgpdpjagaoaaGreat
open Go.RowKit
set_option linter.unusedVariables false
theorem RtU.below {W W' : World} {base : Nat} {t : Tt} {vF vR : Value} {Q : List (Value × List En)} {vO : Value} {O : List (Ot × Value)} (h : RtU W base t vF vR Q vO O) (hb : Below W.heap.size W W') : RtU W' base t vF vR Q vO O :=
 ⟨h.fr.below hb, or_keep h.rs fun g cs _ r => r.below hb r.lt, fun p hp => (h.ru p hp).below hb, h.eq, or_keep h.ou fun g cs _ r => r.below hb r.lt, fun p hp => (h.oe p hp).below hb⟩
theorem RtV.toU {W : World} {base : Nat} {t : Tt} {vF vR : Value} {Q : List (Value × List En)} {vO : Value} {O : List (Ot × Value)} (h : RtV W base t vF vR Q vO O) : RtU W base t vF vR Q vO O := ⟨h.fr, h.rs, h.ru, h.eq, h.ou, h.oe⟩
theorem RtU.setT {W : World} {base y : Nat} {t : Tt} {vF vR : Value} {Q : List (Value × List En)} {vO : Value} {O : List (Ot × Value)} {c : Array Value} (h : RtU W base t vF vR Q vO O) (hx : RA W y 28 c) (c' : Array Value) : RtU (W.setRow y c') base t vF vR Q vO O :=
 ⟨h.fr.keep fun g cs _ r => r.otherRow y _ (row_ne r hx (by decide)), or_keep h.rs fun g cs _ r => r.otherRow y _ (row_ne r hx (by decide)), fun p hp => (h.ru p hp).keep fun g cs _ r => r.otherRow y _ (row_ne r hx (by decide)), h.eq, or_keep h.ou fun g cs _ r => r.otherRow y _ (row_ne r hx (by decide)), fun p hp => (h.oe p hp).keep fun g cs _ r => r.otherRow y _ (row_ne r hx (by decide))⟩
theorem cd_at {W : World} {base : Nat} {a : Option Addr} {n c : Nat} {O : List (Ot × Value)} (h : W.ownsRow base 41 3 (.slice a n c) O.length (ouL O)) {k : Nat} {u : Ot} (hk : (O.map Prod.fst)[k]? = some u) : ∃ g, a = some ⟨g, 0, none⟩ ∧ g < W.heap.size ∧ W.cell? ⟨g, k * 3, none⟩ = some (.int .i64 u.cd) := by
 have hl : k < O.length := by have := (List.getElem?_eq_some_iff.1 hk).1; rwa [List.length_map] at this
 obtain ⟨a', c', hv, h2⟩ := ou_cells h
 injection hv with e1 e2 e3
 subst e1
 rcases h2 with h2 | ⟨g, rfl, hg, hc⟩
 · omega
 · obtain ⟨⟨u', x⟩, hO⟩ : ∃ p, p = O[k] := ⟨_, rfl⟩
   have e : O[k]? = some (u', x) := by rw [List.getElem?_eq_getElem hl, ← hO]
   rw [List.getElem?_map, e] at hk; obtain rfl : u' = u := Option.some.inj hk; exact ⟨g, rfl, hg, (hc k u' x e).1⟩
theorem fldO (a b c d e : Value) (w : World) : (Instr.field 35 (.agg #[a, b, c, d, e]) 1).run Tryz.prog w = .ok e w := by kernel_rfl
theorem lockF {P : Prop} (h : Hid P) : P := h.out
theorem key4 (k : Nat) (h : k < 4) : ∃ x : ByteArray, (#[.string ⟨#[97]⟩, .string ⟨#[98]⟩, .string ⟨#[99]⟩, .string ⟨#[100]⟩] : Array Value)[k]? = some (.string x) ∧ x.size ≤ 1 := by
 rcases (by omega : k = 0 ∨ k = 1 ∨ k = 2 ∨ k = 3) with rfl | rfl | rfl | rfl
 all_goals exact ⟨_, rfl, by decide⟩
theorem allTb_of {s f : Int} {n : Nat} {F : List En} {m : Nat} {R : Nat → Rn} {t : Tt} (h : ttOf s f n (enA F) m R = t) : allTb n (enA F) R m = t.all := by rw [← ttOf_all s f, h]
theorem scan_both {w : World} {t t' : Tt} {s f f' : Int} {a1 a2 a3 a4 : Option Addr} {n1 c1 n2 c2 n3 c3 n4 c4 : Nat} {Q1 Q3 : List (Value × List En)} (T : TbOk t) (T' : TbOk t') (G : TbG w a1 n1 c1 t.fr a2 n2 c2 Q1) (G' : TbG w a3 n3 c3 t'.fr a4 n4 c4 Q3) (k1 : tabOk s f n1 (enA t.fr) n2 (Rq Q1)) (k3 : tabOk s f' n3 (enA t'.fr) n4 (Rq Q3)) (e1 : ttOf s f n1 (enA t.fr) n2 (Rq Q1) = t) (e3 : ttOf s f' n3 (enA t'.fr) n4 (Rq Q3) = t') (K : Int) (hk : ∀ k x, FndOf t.all k K x → FndOf t'.all k K x) :
 ∃ X : List En, X.length ≤ 1000 ∧ (∀ wx, Below w.heap.size w wx → Calls Tryz.prog 12 #[.agg #[.int .i64 s, .int .i64 f', .slice a3 n3 c3, .slice a4 n4 c4], .string ⟨#[]⟩, .string ⟨#[]⟩, .int .i64 K, .int .i64 1000] wx fun e w' => (∃ v, e = .returned v ∧ OwnEn w' wx.heap.size v X) ∧ Below wx.heap.size wx w') ∧ (∀ wx, Below w.heap.size w wx → Calls Tryz.prog 13 #[.agg #[.int .i64 s, .int .i64 f, .slice a1 n1 c1, .slice a2 n2 c2], .string ⟨#[]⟩, .string ⟨#[]⟩, .int .i64 K, .int .i64 1000] wx fun e w' => (∃ v, e = .returned v ∧ OwnEn w' wx.heap.size v X) ∧ Below wx.heap.size wx w') := by
 have g1 := allTb_of e1; have g3 := allTb_of e3; obtain ⟨L, hL⟩ := srt_ex t.all; obtain ⟨L', hL'⟩ := srt_ex t'.all; obtain ⟨fe, hfe, _⟩ := fe_ex T.tok K; obtain ⟨fe', hfe', _⟩ := fe_ex T'.tok K; refine ⟨scN 1000 fe L ⟨#[]⟩ ⟨#[]⟩ L.length, ?_, fun wx hb => ?_, fun wx hb => ?_⟩
 · have h1 := scN_len 1000 fe L ⟨#[]⟩ ⟨#[]⟩ L.length
   have h2 := hL.len; have h3 := T.cnt
   omega
 · have h := iScnT s f' a3 n3 c3 (enA t'.fr) a4 n4 c4 (Rq Q3) k3 ⟨#[]⟩ ⟨#[]⟩ (by decide) (by decide) K 1000 (L0 := L') (fe := fe') (by rw [g3]; exact hL') (by rw [g3]; exact hfe') wx (G'.en.below hb) (G'.rn.below hb) (G'.ra.below hb)
   rw [fl_scan T T' hk hL hL' hfe hfe'] at h; exact h
 · exact sScnT s f a1 n1 c1 (enA t.fr) a2 n2 c2 (Rq Q1) k1 G.zF G.zR ⟨#[]⟩ ⟨#[]⟩ K 1000 (L0 := L) (fe := fe) (by rw [g1]; exact hL) (by rw [g1]; exact hfe) wx (G.en.below hb) (G.rn.below hb)
theorem find_both {w : World} {t t' : Tt} {s f f' : Int} {a1 a2 a3 a4 : Option Addr} {n1 c1 n2 c2 n3 c3 n4 c4 : Nat} {Q1 Q3 : List (Value × List En)} (T : TbOk t) (T' : TbOk t') (G : TbG w a1 n1 c1 t.fr a2 n2 c2 Q1) (G' : TbG w a3 n3 c3 t'.fr a4 n4 c4 Q3) (k1 : tabOk s f n1 (enA t.fr) n2 (Rq Q1)) (k3 : tabOk s f' n3 (enA t'.fr) n4 (Rq Q3)) (e1 : ttOf s f n1 (enA t.fr) n2 (Rq Q1) = t) (e3 : ttOf s f' n3 (enA t'.fr) n4 (Rq Q3) = t') (K : Int) (hK : K ≤ 9223372036854775807) (hk : ∀ k x, FndOf t.all k K x → FndOf t'.all k K x) (key : ByteArray) (hz : key.size ≤ 200) :
 ∃ x : En, (∀ wx, Below w.heap.size w wx → Calls Tryz.prog 14 #[.agg #[.int .i64 s, .int .i64 f', .slice a3 n3 c3, .slice a4 n4 c4], .string key, .int .i64 K] wx fun e w' => e = .returned (.agg #[.string x.ky, .int .i64 x.sq, .bool x.gn, .string x.tx]) ∧ Below wx.heap.size wx w') ∧ (∀ wx, Below w.heap.size w wx → Calls Tryz.prog 15 #[.agg #[.int .i64 s, .int .i64 f, .slice a1 n1 c1, .slice a2 n2 c2], .string key, .int .i64 K] wx fun e w' => e = .returned (.agg #[.string x.ky, .int .i64 x.sq, .bool x.gn, .string x.tx]) ∧ Below wx.heap.size wx w') := by
 have g1 := allTb_of e1; have g3 := allTb_of e3; obtain ⟨fe, hfe, hfu⟩ := fe_ex T.tok K; refine ⟨fe key, fun wx hb => ?_, fun wx hb => ?_⟩
 · refine (iFindG s f' a3 n3 c3 (enA t'.fr) a4 n4 c4 (Rq Q3) (by have := G'.bF; omega) (by have := G'.bR; omega) (by have := G'.cn; omega) G'.sF G'.sz key (by omega) K hK wx (G'.en.below hb) (G'.rn.below hb) (G'.ra.below hb)).mono ?_
   rintro e w2 ⟨⟨x, rfl, hx⟩, hb2⟩
   have h1 := fnr_of k3 hx; rw [g3] at h1; obtain rfl := FndOf.uniq T'.tok h1 (hk key _ (hfe key)); exact ⟨rfl, hb2⟩
 · refine (sFindE s f a1 n1 c1 (enA t.fr) a2 n2 c2 (Rq Q1) (by have := G.bF; omega) (by have := G.bR; omega) (by have := G.cn; omega) G.zF G.zR G.sF G.sz key k1 hz K wx (G.en.below hb) (G.rn.below hb)).mono ?_
   rintro e w2 ⟨⟨x, rfl, hx⟩, hb2⟩
   have h1 := fnr_of k1 hx; rw [g1] at h1; obtain rfl := hfu key _ h1; exact ⟨rfl, hb2⟩
theorem opsF {L : List TOp} {x d fl : TOp} (hL : ∀ o ∈ L, o = fl) : (∀ k, k < L.length → (L ++ [x]).getD k d = fl) ∧ (L ++ [x]).getD L.length d = x := by
 constructor
 · intro k hk
   rw [List.getD_eq_getElem?_getD, List.getElem?_append_left hk, List.getElem?_eq_getElem hk]; exact hL _ (List.getElem_mem hk)
 · rw [List.getD_eq_getElem?_getD, List.getElem?_append_right (Nat.le_refl _)]
   simp
set_option maxRecDepth 20000 in
set_option maxHeartbeats 32000000 in
theorem floorWalk (a : Option Addr) (len cap : Nat) (hl : len ≤ 1048576) (a2 : Option Addr) (len2 cap2 : Nat) (w : World) (hc2 : CodeOk w a2 len2) (KD : Hid (Calls Tryz.prog 5 #[.slice a len cap] w fun e w' => DrT w e w')) :
 Calls Tryz.prog 3 #[.slice a len cap, .slice a2 len2 cap2] w fun e w' => e = .returned (.bool true) ∧ Below w.heap.size w w' := by
 have d0 : decide ((1048576 : Int) < (len : Int)) = false := by simp; omega
 have d2 : decide ((1048576 : Int) < (len2 : Int)) = false := by have := hc2.1; simp; omega
 obtain ⟨r0, r0b, ka0⟩ := lwAt_det w a2 len2 cap2 0 hc2 (by omega); obtain ⟨r1, r1b, ka1⟩ := lwAt_det w a2 len2 cap2 1 hc2 (by omega); have KA0 := hid ka0; have KA1 := hid ka1; clear hc2 ka0 ka1
 go_enter Tryz.func3, Tryz.ntmps3
 go_wp2_with fail
 refine KD.out.mono ?_; intro e w1 hD; obtain ⟨⟨s, f, aF, nF, cF, F, aR, nR, cR, Q, aO, nO, cO, L, rfl, hTb, hOp, hLn, hTo, hnO⟩, hb1⟩ := hD; have G1 := hid (tbg_of hTb.fr hTb.rs hTb.ru hTb.nF hTb.nQ hTb.tot hTb.eF hTb.eQ); obtain ⟨aT, cT, hvT, hTops⟩ := own_tops hOp
 injection hvT with e1 e2 e3
 subst e1 e2 e3; obtain ⟨o, ho⟩ : ∃ o : Nat → TOp, o = fun k => L.getD k ⟨0, ⟨#[]⟩, ⟨#[]⟩, 0, ⟨#[]⟩, 0⟩ := ⟨_, rfl⟩; rw [← ho] at hTops; obtain ⟨nO, hnO2⟩ : ∃ x, x = L.length := ⟨_, rfl⟩; rw [← hnO2] at hTops hnO ⊢; have TO1 := hid hTops; have B1 := hid hb1; obtain ⟨W2, hW2⟩ : ∃ W, W = w1.alloc (.cells #[.int .i64 s, .int .i64 f, .slice aF nF cF, .slice aR nR cR] 28) := ⟨_, rfl⟩; have b2 : Below w1.heap.size w1 W2 := by rw [hW2]; exact (Below.refl _ _).alloc (Nat.le_refl _) _
 have Y2 : Hid (RA W2 w1.heap.size 28 #[.int .i64 s, .int .i64 f, .slice aF nF cF, .slice aR nR cR]) := by rw [hW2]; exact RA.new _ _ _
 have B2 := hid (hb1.trans (b2.mono hb1.size)); have G2 := hid (G1.out.below b2); have TO2 := hid (TO1.out.below b2); have HY : Hid (w.heap.size ≤ w1.heap.size) := hb1.size; obtain ⟨y, hy⟩ : ∃ x, x = w1.heap.size := ⟨_, rfl⟩; clear hTb hOp hLn hTo hb1 ho hTops KD hnO2
 go_upto_region 4 with ((refine wpList_store_row rfl 28 (.tmp 5) (.tmp 25) rfl w1.heap.size #[.int .i64 s, .int .i64 f, .slice aF nF cF, .slice aR nR cR] rfl rfl _ _ (RA.new w1 _ _) (by kernel_rfl) rfl (by simp [Value.oneCell']) ?_); rw [World.setRow_alloc_new])
 rw [← hW2, ← hy]; rw [← hy] at Y2 HY; clear hW2 b2 hy G1 TO1 B1; have KT := hid (sTabF s f aF nF cF (enA F) aR nR cR (Rq Q) (by have := G2.out.bF; omega) (by have := G2.out.bR; omega) G2.out.sF G2.out.sz W2 G2.out.en G2.out.rn); have t0 := Y2.out.cell 0; have t1 := Y2.out.cell 1; have t2 := Y2.out.cell 2; have t3 := Y2.out.cell 3
 by_cases htab : tabOk s f nF (enA F) nR (Rq Q)
 · rw [tabV_ok htab] at KT
   obtain ⟨T0, hT0⟩ : ∃ x, x = ttOf s f nF (enA F) nR (Rq Q) := ⟨_, rfl⟩; have TB0 : Hid (TbOk T0) := by show TbOk T0; rw [hT0]; exact tb_of_tab htab
   have KS := fun wx (hb : Below W2.heap.size W2 wx) => hid (sRunTbG s f aF nF cF (enA F) aR nR cR (Rq Q) htab G2.out.zF G2.out.zR aO nO cO o (by omega) wx (G2.out.en.below hb) (G2.out.rn.below hb) (TO2.out.below hb)); rw [← hT0] at KS; clear htab hT0
   go_wp2_with fail
   refine KT.out.mono ?_
   rintro e w3 ⟨rfl, hb3⟩
   have Y3 := hid (Y2.out.below hb3 Y2.out.lt); have KS3 := KS w3 hb3; have B3 := hid (B2.out.trans (hb3.mono B2.out.size)); clear KT hb3 KS t0 t1 t2 t3 Y2 B2 G2 TO2; have t0 := Y3.out.cell 0; have t1 := Y3.out.cell 1; have t2 := Y3.out.cell 2; have t3 := Y3.out.cell 3
   go_wp2_with fail
   refine KS3.out.mono ?_; intro e w4 hR4; obtain ⟨⟨t, vF1, vR1, Q1, vO1, O1, rfl, hRun, hV⟩, hb4⟩ := hR4; have TB1 := hid (hRun.tb TB0.out); have hU := hV.toU; obtain ⟨aF1, cF1, hvF1⟩ := hU.fr.slice; obtain ⟨aR1, cR1, hvR1⟩ := or_slice hU.rs; obtain ⟨aO1, cO1, hvO1⟩ := or_slice hU.ou; obtain ⟨nF1, hnF1⟩ : ∃ x, x = t.fr.length := ⟨_, rfl⟩; obtain ⟨nR1, hnR1⟩ : ∃ x, x = Q1.length := ⟨_, rfl⟩; obtain ⟨nO1, hnO1⟩ : ∃ x, x = O1.length := ⟨_, rfl⟩; rw [← hnF1] at hvF1; rw [← hnR1] at hvR1; rw [← hnO1] at hvO1; subst hvF1 hvR1 hvO1; obtain ⟨SQ, hSQ⟩ : ∃ x, x = t.sq := ⟨_, rfl⟩; obtain ⟨FL, hFL⟩ : ∃ x, x = t.fl := ⟨_, rfl⟩; rw [← hSQ, ← hFL]; have HSQ := hid hSQ; have HFL := hid hFL; have Y4 := hid (Y3.out.below hb4 Y3.out.lt); have B4 := hid (B3.out.trans (hb4.mono B3.out.size)); obtain ⟨W5, hW5⟩ : ∃ W, W = w4.setRow y #[.int .i64 SQ, .int .i64 FL, .slice aF1 nF1 cF1, .slice aR1 nR1 cR1] := ⟨_, rfl⟩; have Y5 : Hid (RA W5 y 28 #[.int .i64 SQ, .int .i64 FL, .slice aF1 nF1 cF1, .slice aR1 nR1 cR1]) := by rw [hW5]; exact Y4.out.setRow _
   have U5 := hU.setT Y4.out #[.int .i64 SQ, .int .i64 FL, .slice aF1 nF1 cF1, .slice aR1 nR1 cR1]; rw [← hW5] at U5; obtain ⟨GT, htt⟩ := tbg_tb TB1.out U5.fr U5.rs U5.ru U5.eq; have G5 := hid GT; have HTT := hid htt; have B5 : Hid (Below w.heap.size w W5) := by rw [hW5]; exact below_setRow B4.out _ _ HY.out
   clear hRun hV hU hb4 hnF1 hnR1 hnO1 hSQ hFL U5 GT htt KS3 t0 t1 t2 t3 B3 Y3 TB0; have fT := fldT (.int .i64 SQ) (.int .i64 FL) (.slice aF1 nF1 cF1) (.slice aR1 nR1 cR1) (.slice aO1 nO1 cO1)
   go_upto_region 7 with ((refine wpList_store_row rfl 28 (.tmp 5) (.tmp 44) rfl y #[.int .i64 SQ, .int .i64 FL, .slice aF1 nF1 cF1, .slice aR1 nR1 cR1] rfl rfl _ _ Y4.out (by kernel_rfl) rfl (by simp [Value.oneCell']) ?_))
   rw [← hW5]; clear hW5 Y4 B4 fT; have q1 := TB1.out.q1; have q0 := TB1.out.f0; have qs := TB1.out.fs; rw [← HSQ.out] at q1 qs; rw [← HFL.out] at q0 qs; obtain ⟨D, hD⟩ : ∃ D : Nat, (D : Int) = SQ - FL + 1 := ⟨(SQ - FL + 1).toNat, by omega⟩; obtain ⟨M, hM⟩ : ∃ M : Nat, M = r0 % D := ⟨_, rfl⟩; have hMD : M < D := by rw [hM]; exact Nat.mod_lt _ (by omega)
   have w71 : IntKind.i64.wrap (SQ - FL) = SQ - FL := by simp [IntKind.wrap, IntKind.bits, IntKind.signed]; omega
   have w72 : IntKind.i64.wrap (SQ - FL + 1) = (D : Int) := by rw [hD]; simp [IntKind.wrap, IntKind.bits, IntKind.signed]; omega
   have w73 : Int.tmod (r0 : Int) (D : Int) = (M : Int) := by rw [hM]; exact (Int.ofNat_tmod r0 D).symm
   obtain ⟨FO, hFO⟩ : ∃ x, x = FL + (M : Int) := ⟨_, rfl⟩; have w74 : IntKind.i64.wrap (FL + (M : Int)) = FO := by rw [hFO]; simp [IntKind.wrap, IntKind.bits, IntKind.signed]; omega
   have w75 : IntKind.i64.wrap (M : Int) = (M : Int) := by simp [IntKind.wrap, IntKind.bits, IntKind.signed]; omega
   have dz : ((D : Int) == 0) = false := by simp; omega
   have dn : ¬ (D : Int) = 0 := by omega
   have dn2 : ¬ D = 0 := by omega
   have FB : Hid (FL ≤ FO ∧ FO ≤ SQ ∧ 0 ≤ FO ∧ SQ ≤ 4611686018427387904) := by show _ ∧ _; omega
   clear hD hM hMD hFO q1 q0 qs r0b; have KL0 := fun x => hid (KA0.out (W5.drewN x) (below_dN B5.out x)); have t0 := Y5.out.cell 0; have t1 := Y5.out.cell 1
   go_quiet ((go_at_call 10; exact Calls.quiet_of_same (KL0 _).out))
   obtain ⟨W7, hW7⟩ : ∃ W, W = W5.drewN nq := ⟨_, rfl⟩; have b57 : Below W5.heap.size W5 W7 := by rw [hW7]; exact below_dN (Below.refl _ _) nq
   have Y7 := hid (Y5.out.below b57 Y5.out.lt); have G7 := hid (G5.out.below b57); have B7 := hid (B5.out.trans (b57.mono B5.out.size)); rw [← hW7]; clear hW7 b57 Y5 G5 B5 t0 t1 w71 w72 w73 w74 w75 dz dn dn2 KL0 KA0; obtain ⟨W8, hW8⟩ : ∃ W, W = W7.alloc (.cells #[] 39) := ⟨_, rfl⟩; have O8 : Hid (W8.ownsRow W7.heap.size 39 6 (.slice (some ⟨W7.heap.size, 0, none⟩) 0 0) ([] : List TOp).length (toL [])) := by rw [hW8]; exact World.ownsRow_made W7 #[] 0 (Nat.le_refl _) (by decide) rfl
   have B78 : Hid (Below W7.heap.size W7 W8) := by rw [hW8]; exact (Below.refl _ _).alloc (Nat.le_refl _) _
   have B8 := hid (B7.out.trans (B78.out.mono B7.out.size)); have KL1 := hid (KA1.out W8 B8.out); clear KA1
   go_upto_region 9 with fail
   rw [← hW8]; clear hW8; obtain ⟨R2, hR2⟩ : ∃ R : Nat, R = r1 % 2 := ⟨_, rfl⟩; have e61 : Int.tmod (r1 : Int) 2 = (R2 : Int) := by rw [hR2]; exact (Int.ofNat_tmod r1 2).symm
   clear hR2; obtain ⟨bz, hbz⟩ : ∃ b : Bool, ((R2 : Int) == 0) = b := ⟨_, rfl⟩; have hbn : (R2 == 0) = bz := by rw [← hbz]; cases R2 <;> simp <;> omega
   go_wp2_with fail
   refine KL1.out.mono ?_
   rintro e w9 ⟨rfl, hw9⟩
   obtain rfl := hw9.symm; clear KL1
   go_upto_if 61 with fail
   go_cut [8] from 62 to 65 (fun c wx => ∃ (v : Value) (L : List TOp), v = c ∧ wx.ownsRow W7.heap.size 39 6 v L.length (toL L) ∧ L.length ≤ 1 ∧ (∀ o ∈ L, o = ⟨3, ⟨#[]⟩, ⟨#[]⟩, 0, ⟨#[]⟩, 0⟩) ∧ Below W7.heap.size W7 wx)
   case first =>
    clear hbz hbn
    cases bz with
    | true =>
     go_wp2_with (at_builtin; refine lockF ?_)
     refine hid ?_; refine append_top W7.heap.size W8 rfl (.tmp 62) (.tmp 64) rfl _ [] ⟨3, ⟨#[]⟩, ⟨#[]⟩, 0, ⟨#[]⟩, 0⟩ rfl O8.out B78.out.size rfl (by decide) ?_; intro v9 w9 hO9 hg9; have b9 : Below W7.heap.size W7 w9 := B78.out.grown hg9 B78.out.size (fun g e => (or_row O8.out e).1)
     go_wp2
     go_meet
     exact ⟨v9, _, rfl, hO9, by decide, (fun o ho => by simpa using ho), b9⟩
    | false =>
     go_wp2
     go_meet
     exact ⟨_, [], rfl, O8.out, by decide, (fun o ho => by cases ho), B78.out⟩
   case rest =>
    obtain ⟨v8, L, rfl, hO, hL1, hL2, hB⟩ := hcut; have OL := hid hO; have BL := hid hB; obtain ⟨of1, of2⟩ := opsF (x := ⟨4, ⟨#[]⟩, ⟨#[]⟩, FO, ⟨#[]⟩, 0⟩) (d := ⟨0, ⟨#[]⟩, ⟨#[]⟩, 0, ⟨#[]⟩, 0⟩) hL2; have OF1 := hid of1; have OF2 := hid of2; have hLl := hL1; have HL1 := hid hL1; clear hO hB of1 of2 hL1 hL2
    go_wp2_with (at_builtin; refine lockF ?_)
    refine hid ?_; refine append_top W7.heap.size wc rfl (.tmp 66) (.tmp 69) rfl v8 L ⟨4, ⟨#[]⟩, ⟨#[]⟩, FO, ⟨#[]⟩, 0⟩ rfl OL.out BL.out.size rfl (by omega) ?_; intro v9 w9 hO9 hg9; have B79 : Hid (Below W7.heap.size W7 w9) := BL.out.grown hg9 BL.out.size (fun g e => (or_row OL.out e).1); obtain ⟨aT, cT, hvT, hTops⟩ := own_tops hO9; obtain ⟨o2, ho2⟩ : ∃ o : Nat → TOp, o = fun k => (L ++ [(⟨4, ⟨#[]⟩, ⟨#[]⟩, FO, ⟨#[]⟩, 0⟩ : TOp)]).getD k ⟨0, ⟨#[]⟩, ⟨#[]⟩, 0, ⟨#[]⟩, 0⟩ := ⟨_, rfl⟩; rw [← ho2] at hTops; have P1 : ∀ k, k < L.length → o2 k = ⟨3, ⟨#[]⟩, ⟨#[]⟩, 0, ⟨#[]⟩, 0⟩ := fun k hk => by rw [ho2]; exact OF1.out k hk
    have P2 : o2 L.length = ⟨4, ⟨#[]⟩, ⟨#[]⟩, FO, ⟨#[]⟩, 0⟩ := by rw [ho2]; exact OF2.out
    obtain ⟨J, hJ⟩ : ∃ x, x = L.length := ⟨_, rfl⟩; obtain ⟨n, hn⟩ : ∃ x, x = (L ++ [(⟨4, ⟨#[]⟩, ⟨#[]⟩, FO, ⟨#[]⟩, 0⟩ : TOp)]).length := ⟨_, rfl⟩; have hnJ : n = J + 1 := by rw [hn, hJ, List.length_append]; rfl
    rw [← hJ] at P1 P2 hLl; rw [← hn] at hvT hTops; subst hvT; have HNJ := hid hnJ; have hn2 : n ≤ 2 := by omega
    have HP1 := hid P1; have HP2 := hid P2
    have PB : ∀ k, k < n → (o2 k).ky.size ≤ 100000 ∧ (o2 k).til.size ≤ 100000 ∧ (o2 k).sq ≤ 9223372036854775807 := fun k hk => by
     have := FB.out
     by_cases e : k = J
     · rw [e, HP2.out]; exact ⟨by show (0 : Nat) ≤ _; omega, by show (0 : Nat) ≤ _; omega, by show FO ≤ _; omega⟩
     · rw [HP1.out k (by omega)]; exact ⟨by decide, by decide, by show (0 : Int) ≤ _; omega⟩
    have htk := tab_of_tb (s := SQ) (f := FL) (n0 := nF1) (o0 := enA t.fr) (m := nR1) (R := Rq Q1) (by rw [HSQ.out, HFL.out, HTT.out]; exact TB1.out); have HTK := hid htk; have Y9 := hid (Y7.out.below B79.out Y7.out.lt); have G9 := hid (G7.out.below B79.out); have B9 := hid (B7.out.trans (B79.out.mono B7.out.size)); have KR := hid (iRunT_ok SQ FL aF1 nF1 cF1 (enA t.fr) aR1 nR1 cR1 (Rq Q1) aT n cT o2 (by omega) PB htk w9 G9.out.en G9.out.rn G9.out.ra hTops); rw [show ttOf SQ FL nF1 (enA t.fr) nR1 (Rq Q1) = t by rw [HSQ.out, HFL.out]; exact HTT.out] at KR; clear hO9 hg9 hTops ho2 P1 P2 hJ hn hnJ PB htk OF1 OF2 OL BL HL1 hLl B79 Y7 G7 B7; have t0 := Y9.out.cell 0; have t1 := Y9.out.cell 1; have t2 := Y9.out.cell 2; have t3 := Y9.out.cell 3
    go_wp2_with fail
    refine KR.out.mono ?_; intro e w11 hR; obtain ⟨⟨t', vF3, vR3, Q3, vO3, O3, rfl, hRun3, hU3⟩, hb11⟩ := hR; obtain ⟨aF3, cF3, hvF3⟩ := hU3.fr.slice; obtain ⟨aR3, cR3, hvR3⟩ := or_slice hU3.rs; obtain ⟨aO3, cO3, hvO3⟩ := or_slice hU3.ou; have hOn : O3.length = n := by have := hRun3.len; rw [List.length_map] at this; exact this
    rw [hOn] at hvO3; obtain ⟨nF3, hnF3⟩ : ∃ x, x = t'.fr.length := ⟨_, rfl⟩; obtain ⟨nR3, hnR3⟩ : ∃ x, x = Q3.length := ⟨_, rfl⟩; rw [← hnF3] at hvF3; rw [← hnR3] at hvR3; subst hvF3 hvR3 hvO3; have hRJ : Rns8 o2 t (J + 1) t' (O3.map Prod.fst) := by rw [← HNJ.out]; exact hRun3
    have TB3 := hid (hRun3.tb TB1.out)
    have hkd : ∀ j, j < J + 1 → (o2 j).kd ≠ 1 ∧ (o2 j).kd ≠ 2 := fun j hj => by
     by_cases e : j = J
     · rw [e, HP2.out]; exact ⟨by show (4 : Int) ≠ 1; omega, by show (4 : Int) ≠ 2; omega⟩
     · rw [HP1.out j (by omega)]; exact ⟨by decide, by decide⟩
    obtain ⟨hs1, _, hkeep⟩ := hRJ.keep TB1.out hkd; obtain ⟨hcd, hfl⟩ := hRJ.comp_last TB1.out hkd (fun j hj => by rw [HP1.out j hj]; decide) (by rw [HP2.out]) (by rw [HP2.out, ← HSQ.out, ← HFL.out]; exact ⟨FB.out.1, FB.out.2.1⟩); rw [HP2.out] at hfl; have hfl' : t'.fl = FO := hfl; have hsq' : t'.sq = SQ := hs1.trans HSQ.out.symm; rw [hfl', hsq']; have KEEP : Hid (∀ q, FO ≤ q → ∀ k x, FndOf t.all k q x → FndOf t'.all k q x) := by rw [hfl'] at hkeep; exact hkeep
    obtain ⟨W12, hW12⟩ : ∃ W, W = w11.alloc (.cells #[.int .i64 SQ, .int .i64 FO, .slice aF3 nF3 cF3, .slice aR3 nR3 cR3, .slice aO3 n cO3] 35) := ⟨_, rfl⟩; have b12 : Below w11.heap.size w11 W12 := by rw [hW12]; exact (Below.refl _ _).alloc (Nat.le_refl _) _
    have X12 : Hid (RA W12 w11.heap.size 35 #[.int .i64 SQ, .int .i64 FO, .slice aF3 nF3 cF3, .slice aR3 nR3 cR3, .slice aO3 n cO3]) := by rw [hW12]; exact RA.new _ _ _
    have U12 := hU3.below b12; have B912 : Hid (Below w9.heap.size w9 W12) := hb11.trans (b12.mono hb11.size); have Y12 := hid (Y9.out.below B912.out Y9.out.lt); have G12 := hid (G9.out.below B912.out); have B12 := hid (B9.out.trans (B912.out.mono B9.out.size)); obtain ⟨GT3, htt3⟩ := tbg_tb TB3.out U12.fr U12.rs U12.ru U12.eq; have G3 := hid GT3; have htt3' : ttOf SQ FO nF3 (enA t'.fr) nR3 (Rq Q3) = t' := by rw [← hsq', ← hfl']; exact htt3
    have HTT3 := hid htt3'; have htk3 := tab_of_tb (s := SQ) (f := FO) (n0 := nF3) (o0 := enA t'.fr) (m := nR3) (R := Rq Q3) (by rw [HTT3.out]; exact TB3.out); have HTK3 := hid htk3; have KT3 := hid (iTabG SQ FO aF3 nF3 cF3 (enA t'.fr) aR3 nR3 cR3 (Rq Q3) (by have := G3.out.bF; omega) (by have := G3.out.bR; omega) (by have := G3.out.cn; omega) G3.out.sF G3.out.sz W12 G3.out.en G3.out.rn G3.out.ra); rw [tabV_ok htk3] at KT3; obtain ⟨g3, hg3, hg3l, x50⟩ := cd_at U12.ou hcd; subst hg3; obtain ⟨x9, hx9⟩ : ∃ x, x = w11.heap.size := ⟨_, rfl⟩; clear hRun3 hU3 hb11 hnF3 hnR3 hRJ hkd hs1 hkeep hcd hfl htt3 htt3' htk3 U12 GT3 hOn KR t0 t1 t2 t3 B9 G9 Y9
    go_upto_region 13 with ((refine wpList_store_row rfl 35 (.tmp 9) (.tmp 73) rfl w11.heap.size #[.int .i64 SQ, .int .i64 FO, .slice aF3 nF3 cF3, .slice aR3 nR3 cR3, .slice aO3 n cO3] rfl rfl _ _ (RA.new w11 _ _) (by kernel_rfl) rfl (by simp [Value.oneCell']) ?_); rw [World.setRow_alloc_new])
    rw [← hW12, ← hx9]; rw [← hx9] at X12; clear hW12 b12 hx9 B912; have G3L : Hid (g3 < W12.heap.size) := hg3l; have X50 := hid x50; clear hg3l; have r0c := X12.out.cell 0; have r1c := X12.out.cell 1; have r2c := X12.out.cell 2; have r3c := X12.out.cell 3; have r4c := X12.out.cell 4; have wn : IntKind.i64.wrap ((n : Int) - 1) = (J : Int) := by have := HNJ.out; simp [IntKind.wrap, IntKind.bits, IntKind.signed]; omega
    have jn : (J : Int) < (n : Int) := by have := HNJ.out; omega
    have j0 : (0 : Int) ≤ (J : Int) := by omega
    go_wp2_with fail
    refine KT3.out.mono ?_
    rintro e w13 ⟨rfl, hb13⟩
    have X13 := hid (X12.out.below hb13 X12.out.lt); have Y13 := hid (Y12.out.below hb13 Y12.out.lt); have G13 := hid (G12.out.below hb13); have R13 := hid (G3.out.below hb13); have B13 := hid (B12.out.trans (hb13.mono B12.out.size)); clear r0c r1c r2c r3c r4c x50 wn jn j0 KT3 X12 Y12 G12 G3 B12 G3L X50 hb13; have r1c := X13.out.cell 1
    go_wp2_with fail
    clear r1c; have bF := FB.out
    go_loopw [10] (fun q wr => ∃ K : Int, q = .int .i64 K ∧ FO ≤ K ∧ K ≤ SQ + 1 ∧ Below w13.heap.size w13 wr) (fun q _ => (SQ + 1 - intOf q).toNat)
    case atStart => exact ⟨FO, rfl, by omega, by omega, Below.refl _ _⟩
    case round =>
     obtain ⟨K, rfl, hK1, hK2, hB⟩ := hrel; have BB := hid hB; have Y14 := hid (Y13.out.below hB Y13.out.lt); clear hB; have y0 := Y14.out.cell 0; have w20 : IntKind.i64.wrap (FO + 20) = FO + 20 := by simp [IntKind.wrap, IntKind.bits, IntKind.signed]; omega
     have wK : IntKind.i64.wrap (K + 1) = K + 1 := by simp [IntKind.wrap, IntKind.bits, IntKind.signed]; omega
     by_cases hq : K ≤ SQ ∧ K < FO + 20
     · obtain ⟨hq1, hq2⟩ := hq
       have dq1 : decide (K ≤ SQ) = true := by simp; omega
       have dq2 : decide (K < FO + 20) = true := by simp; omega
       have HKE := KEEP.out K hK1; obtain ⟨X, hX, KI, KS⟩ := scan_both TB1.out TB3.out G13.out R13.out HTK.out HTK3.out (by rw [HSQ.out, HFL.out]; exact HTT.out) HTT3.out K HKE; have FX := fun key hz => find_both TB1.out TB3.out G13.out R13.out HTK.out HTK3.out (by rw [HSQ.out, HFL.out]; exact HTT.out) HTT3.out K (by omega) HKE key hz; have HX := hid hX; have HKI := hid KI; have HKS := hid KS; have HFX := hid FX; clear HKE hX KI KS FX; have SF : Hid (∀ wx, Below w13.heap.size w13 wx → (wx.cell? ⟨x9, 0, none⟩ = some (.int .i64 SQ) ∧ wx.cell? ⟨x9, 1, none⟩ = some (.int .i64 FO) ∧ wx.cell? ⟨x9, 2, none⟩ = some (.slice aF3 nF3 cF3) ∧ wx.cell? ⟨x9, 3, none⟩ = some (.slice aR3 nR3 cR3)) ∧ wx.cell? ⟨y, 0, none⟩ = some (.int .i64 SQ) ∧ wx.cell? ⟨y, 1, none⟩ = some (.int .i64 FL) ∧ wx.cell? ⟨y, 2, none⟩ = some (.slice aF1 nF1 cF1) ∧ wx.cell? ⟨y, 3, none⟩ = some (.slice aR1 nR1 cR1)) := fun wx hb => ⟨⟨(X13.out.below hb X13.out.lt).cell 0, (X13.out.below hb X13.out.lt).cell 1, (X13.out.below hb X13.out.lt).cell 2, (X13.out.below hb X13.out.lt).cell 3⟩, (Y13.out.below hb Y13.out.lt).cell 0, (Y13.out.below hb Y13.out.lt).cell 1, (Y13.out.below hb Y13.out.lt).cell 2, (Y13.out.below hb Y13.out.lt).cell 3⟩
       go_upto_region 18 with fail
       clear y0
       go_cut [125] from 117 to 124 (fun c wx => c = .bool false ∧ Below w13.heap.size w13 wx)
       case first =>
        have EI : Hid (OwnEn wr wr.heap.size (.slice none 0 0) []) := OwnEn.nil _ _; have ES : Hid (OwnEn wr wr.heap.size (.slice none 0 0) []) := OwnEn.nil _ _
        go_region_held3 (fun wx => (wx.cell? ⟨x9, 0, none⟩ = some (.int .i64 SQ) ∧ wx.cell? ⟨x9, 1, none⟩ = some (.int .i64 FO) ∧ wx.cell? ⟨x9, 2, none⟩ = some (.slice aF3 nF3 cF3) ∧ wx.cell? ⟨x9, 3, none⟩ = some (.slice aR3 nR3 cR3)) ∧ wx.cell? ⟨y, 0, none⟩ = some (.int .i64 SQ) ∧ wx.cell? ⟨y, 1, none⟩ = some (.int .i64 FL) ∧ wx.cell? ⟨y, 2, none⟩ = some (.slice aF1 nF1 cF1) ∧ wx.cell? ⟨y, 3, none⟩ = some (.slice aR1 nR1 cR1))
         ((first | exact SF.out _ BB.out | exact SF.out _ BB.out.drew))
         ((first
          | (go_at_call 12; (first | refine (HKI.out _ BB.out).mono ?_ | refine (HKI.out _ BB.out.drew).mono ?_); rintro e w15 ⟨⟨vI, rfl, hI⟩, hb⟩; replace ES := hid (ES.out.below ⟨hb.os, hb.tape, hb.output, hb.size, hb.block⟩); obtain ⟨aI, cI, rfl⟩ := hI.slice; replace EI := hid hI; (first | replace BB := hid (BB.out.trans (hb.mono BB.out.size)) | replace BB := hid (BB.out.drew.trans (hb.mono BB.out.size))); clear hI hb)
          | (go_at_call 13; (first | refine (HKS.out _ BB.out).mono ?_ | refine (HKS.out _ BB.out.drew).mono ?_); rintro e w16 ⟨⟨vS, rfl, hS⟩, hb⟩; replace EI := hid (EI.out.below ⟨hb.os, hb.tape, hb.output, hb.size, hb.block⟩); obtain ⟨aS, cS, rfl⟩ := hS.slice; replace ES := hid hS; (first | replace BB := hid (BB.out.trans (hb.mono BB.out.size)) | replace BB := hid (BB.out.drew.trans (hb.mono BB.out.size))); clear hS hb)
          | (go_at_call 11; (first | refine (lwEns aI X.length cI aS cS (enA X) (by have := HX.out; omega) _ EI.out.ens.2 ES.out.ens.2).mono ?_); rintro e w17 ⟨rfl, hb⟩; (first | replace BB := hid (BB.out.trans (hb.mono BB.out.size)) | replace BB := hid (BB.out.drew.trans (hb.mono BB.out.size))); clear hb)))
        all_goals go_wp2_with fail
        all_goals go_meet
        all_goals exact ⟨rfl, BB.out⟩
       case rest =>
        obtain ⟨rfl, hBc⟩ := hcut; have BC := hid hBc; clear hBc BB Y14
        go_wp2_with fail
        go_loopw [11] (fun q wr => ∃ k : Nat, k ≤ 4 ∧ q = .int .i64 (k : Int) ∧ Below w13.heap.size w13 wr) (fun q _ => 4 - (intOf q).toNat)
        case atStart => exact ⟨0, by decide, rfl, BC.out⟩
        case round =>
         clear BC; obtain ⟨k, hk, rfl, hB⟩ := hrel; have BI := hid hB; clear hB
         by_cases hlt : k < 4
         · obtain ⟨key, hkey, hkz⟩ := key4 k hlt
           have dl : (k : Int) < 4 := by omega
           have k0 : (0 : Int) ≤ (k : Int) := by omega
           obtain ⟨⟨X0, X1, X2, X3⟩, KI, KS⟩ := HFX.out key (by omega); dsimp only at KI KS; have HFI := hid KI; have HFS := hid KS; obtain ⟨W15, hW15⟩ : ∃ W, W = wr.alloc (.cells #[.string ⟨#[97]⟩, .string ⟨#[98]⟩, .string ⟨#[99]⟩, .string ⟨#[100]⟩] 9) := ⟨_, rfl⟩; have T15 : RA W15 wr.heap.size 9 #[.string ⟨#[97]⟩, .string ⟨#[98]⟩, .string ⟨#[99]⟩, .string ⟨#[100]⟩] := by rw [hW15]; exact RA.new _ _ _
           have t0 := (T15.cell k).trans hkey; have BK : Hid (Below w13.heap.size w13 W15) := by rw [hW15]; exact BI.out.alloc BI.out.size _
           have HW15 := hid hW15; rw [hW15] at t0; clear KI KS hkey hkz T15 hW15
           go_upto_region 24 with fail
           rw [← HW15.out]; clear HW15 t0 dl k0
           go_cut [143] from 134 to 142 (fun c wx => c = .bool false ∧ Below w13.heap.size w13 wx)
           case first =>
            have x0e : (X0.toList == X0.toList) = true := by simp
            have x1e : (X1 == X1) = true := by simp
            have x2e : (X2 == X2) = true := by simp
            have x3e : (X3.toList == X3.toList) = true := by simp
            go_region_held3 (fun wx => (wx.cell? ⟨x9, 0, none⟩ = some (.int .i64 SQ) ∧ wx.cell? ⟨x9, 1, none⟩ = some (.int .i64 FO) ∧ wx.cell? ⟨x9, 2, none⟩ = some (.slice aF3 nF3 cF3) ∧ wx.cell? ⟨x9, 3, none⟩ = some (.slice aR3 nR3 cR3)) ∧ wx.cell? ⟨y, 0, none⟩ = some (.int .i64 SQ) ∧ wx.cell? ⟨y, 1, none⟩ = some (.int .i64 FL) ∧ wx.cell? ⟨y, 2, none⟩ = some (.slice aF1 nF1 cF1) ∧ wx.cell? ⟨y, 3, none⟩ = some (.slice aR1 nR1 cR1))
             ((first | exact SF.out _ BK.out | exact SF.out _ BK.out.drew))
             ((first
              | (go_at_call 14; (first | refine (HFI.out _ BK.out).mono ?_ | refine (HFI.out _ BK.out.drew).mono ?_); rintro e w15 ⟨rfl, hb⟩; (first | replace BK := hid (BK.out.trans (hb.mono BK.out.size)) | replace BK := hid (BK.out.drew.trans (hb.mono BK.out.size))); clear hb)
              | (go_at_call 15; (first | refine (HFS.out _ BK.out).mono ?_ | refine (HFS.out _ BK.out.drew).mono ?_); rintro e w16 ⟨rfl, hb⟩; (first | replace BK := hid (BK.out.trans (hb.mono BK.out.size)) | replace BK := hid (BK.out.drew.trans (hb.mono BK.out.size))); clear hb)))
            all_goals go_wp2_with fail
            all_goals go_meet
            all_goals exact ⟨rfl, BK.out⟩
           case rest =>
            obtain ⟨rfl, hBd⟩ := hcut; have BD := hid hBd; clear hBd
            go_wp2_with fail
            go_roundw
            case rel => exact ⟨k + 1, by omega, by go_num, BD.out⟩
            case measure => simp [intOf]; omega
         · have dl : ¬ (k : Int) < 4 := by omega
           have dl2 : decide ((k : Int) < 4) = false := by simp; omega
           go_wp2_with fail
           go_roundw
           case rel => exact ⟨K + 1, rfl, by omega, by omega, BI.out⟩
           case measure => simp [intOf]; omega
     · have key : (decide (K ≤ SQ) = true ∧ decide (K < FO + 20) = false) ∨ decide (K ≤ SQ) = false := by
        by_cases h : K ≤ SQ
        · left; simp; omega
        · right; simp; omega
       clear hq wK
       rcases key with ⟨dq1, dq2⟩ | dq1
       all_goals go_upto_region 26 with fail
       all_goals clear y0 w20
       all_goals (
        by_cases hz : FO = 0
        · have dz1 : (FO == 0) = true := by simp [hz]
          go_wp2_with fail
          go_ret
          exact ⟨rfl, B13.out.trans (BB.out.mono B13.out.size)⟩
        · have dz1 : (FO == 0) = false := by simpa using hz
          obtain ⟨F1, hF1⟩ : ∃ x, x = FO - 1 := ⟨_, rfl⟩; have w28 : IntKind.i64.wrap (FO - 1) = F1 := by rw [hF1]; simp [IntKind.wrap, IntKind.bits, IntKind.signed]; omega
          obtain ⟨W16, hW16⟩ : ∃ W, W = wr.alloc (.cells #[.int .i64 5, .string ⟨#[97]⟩, .string ⟨#[]⟩, .int .i64 F1, .string ⟨#[]⟩, .int .i64 0] 39) := ⟨_, rfl⟩; have T16 : RA W16 wr.heap.size 39 #[.int .i64 5, .string ⟨#[97]⟩, .string ⟨#[]⟩, .int .i64 F1, .string ⟨#[]⟩, .int .i64 0] := by rw [hW16]; exact RA.new _ _ _
          have hTO : Tops W16 (some ⟨wr.heap.size, 0, none⟩) 1 1 (fun _ => ⟨5, ⟨#[97]⟩, ⟨#[]⟩, F1, ⟨#[]⟩, 0⟩) := ⟨Nat.le_refl _, .inr ⟨wr.heap.size, 0, rfl, T16.lt, fun k hk => by
           obtain rfl : k = 0 := by omega
           exact ⟨T16.cell 0, T16.cell 1, T16.cell 2, T16.cell 3, T16.cell 4, T16.cell 5⟩⟩⟩
          have b16 : Below wr.heap.size wr W16 := by rw [hW16]; exact (Below.refl _ _).alloc (Nat.le_refl _) _
          have BX : Hid (Below w13.heap.size w13 W16) := BB.out.trans (b16.mono BB.out.size); have KR2 := hid (iRunT_ok SQ FO aF3 nF3 cF3 (enA t'.fr) aR3 nR3 cR3 (Rq Q3) (some ⟨wr.heap.size, 0, none⟩) 1 1 (fun _ => ⟨5, ⟨#[97]⟩, ⟨#[]⟩, F1, ⟨#[]⟩, 0⟩) (by decide) (fun k hk => ⟨by show (1 : Nat) ≤ _; omega, by show (0 : Nat) ≤ _; omega, by show F1 ≤ _; omega⟩) HTK3.out W16 (R13.out.en.below BX.out) (R13.out.rn.below BX.out) (R13.out.ra.below BX.out) hTO); rw [HTT3.out, hW16] at KR2; have x0 := (X13.out.below BB.out X13.out.lt).cell 0; have x1 := (X13.out.below BB.out X13.out.lt).cell 1; have x2 := (X13.out.below BB.out X13.out.lt).cell 2; have x3 := (X13.out.below BB.out X13.out.lt).cell 3; have HF1 := hid hF1; have HZ := hid hz; have HW16 := hid hW16; clear hF1 hz hW16 T16 hTO b16
          go_wp2_with fail
          refine KR2.out.mono ?_; intro e w17 hR; rw [← HW16.out] at hR; obtain ⟨⟨t2, vF4, vR4, Q4, vO4, O4, rfl, hRun4, hU4⟩, hb17⟩ := hR; have hus := hRun4.late1 rfl (by show F1 < t'.fl; rw [hfl', HF1.out]; omega); obtain ⟨aF4, cF4, hvF4⟩ := hU4.fr.slice; obtain ⟨aR4, cR4, hvR4⟩ := or_slice hU4.rs; obtain ⟨aO4, cO4, hvO4⟩ := or_slice hU4.ou; have hOn4 : O4.length = 1 := by have := hRun4.len; rw [List.length_map] at this; exact this
          rw [hOn4] at hvO4; subst hvO4; obtain ⟨g4, hg4, hg4l, z50⟩ := cd_at (k := 0) (u := ⟨13, ⟨#[]⟩, []⟩) hU4.ou (by rw [hus]; rfl); subst hg4; have b17 := hid (BX.out.trans (hb17.mono BX.out.size)); obtain ⟨nF4, hnF4⟩ : ∃ x, x = t2.fr.length := ⟨_, rfl⟩; obtain ⟨nR4, hnR4⟩ : ∃ x, x = Q4.length := ⟨_, rfl⟩; rw [← hnF4] at hvF4; rw [← hnR4] at hvR4; subst hvF4 hvR4; obtain ⟨W18, hW18⟩ : ∃ W, W = w17.alloc (.cells #[.int .i64 t2.sq, .int .i64 t2.fl, .slice aF4 nF4 cF4, .slice aR4 nR4 cR4, .slice (some ⟨g4, 0, none⟩) 1 cO4] 35) := ⟨_, rfl⟩; have b18 : Below w17.heap.size w17 W18 := by rw [hW18]; exact (Below.refl _ _).alloc (Nat.le_refl _) _
          have X18 : RA W18 w17.heap.size 35 #[.int .i64 t2.sq, .int .i64 t2.fl, .slice aF4 nF4 cF4, .slice aR4 nR4 cR4, .slice (some ⟨g4, 0, none⟩) 1 cO4] := by rw [hW18]; exact RA.new _ _ _
          have c18 := X18.cell 4; have d18 := (b18.cell (p := ⟨g4, 0 * 3, none⟩) hg4l).trans z50; have e18 : W18.cell? ⟨g4, 0, none⟩ = some (.int .i64 13) := d18; have BZ := hid (b17.out.trans (b18.mono b17.out.size)); obtain ⟨x13, hx13⟩ : ∃ x, x = w17.heap.size := ⟨_, rfl⟩; have HX13 := hid hx13; have HW18 := hid hW18; clear hRun4 hU4 hb17 hus hOn4 hnF4 hnR4 hg4l z50 hW18 b18 X18 d18 hx13 x0 x1 x2 x3 HW16 KR2 b17 BX
          go_upto_region 29 with ((refine wpList_store_row rfl 35 (.tmp 13) (.tmp 152) rfl w17.heap.size #[.int .i64 t2.sq, .int .i64 t2.fl, .slice aF4 nF4 cF4, .slice aR4 nR4 cR4, .slice (some ⟨g4, 0, none⟩) 1 cO4] rfl rfl _ _ (RA.new w17 _ _) (by kernel_rfl) rfl (by simp [Value.oneCell']) ?_); rw [World.setRow_alloc_new])
          rw [← HW18.out]; clear HW18
          go_wp2_with fail
          go_ret
          exact ⟨rfl, B13.out.trans (BZ.out.mono B13.out.size)⟩)
 · have KI := hid (iRunT_no s f aF nF cF (enA F) aR nR cR (Rq Q) (by have := G2.out.bF; omega) (by have := G2.out.bR; omega) (by have := G2.out.cn; omega) G2.out.sF G2.out.sz aO nO cO (by omega) htab)
   have KF := hid (iTabG s f aF nF cF (enA F) aR nR cR (Rq Q) (by have := G2.out.bF; omega) (by have := G2.out.bR; omega) (by have := G2.out.cn; omega) G2.out.sF G2.out.sz); rw [tabV_no htab] at KT KF; have fO := fldO (.int .i64 0) (.int .i64 0) (.slice none 0 0) (.slice none 0 0) (.slice none 0 0); clear htab TO2 KA0 KA1
   go_wp2_with fail
   refine KT.out.mono ?_
   rintro e w3 ⟨rfl, hb3⟩
   have Y3 := hid (Y2.out.below hb3 Y2.out.lt); have G3 := hid (G2.out.below hb3); have B3 := hid (B2.out.trans (hb3.mono B2.out.size)); clear KT hb3 t0 t1 t2 t3 Y2 B2 G2; have t0 := Y3.out.cell 0; have t1 := Y3.out.cell 1; have t2 := Y3.out.cell 2; have t3 := Y3.out.cell 3
   go_wp2_with fail
   refine (KI.out w3 G3.out.en G3.out.rn G3.out.ra).mono ?_
   rintro e w4 ⟨rfl, hb4⟩
   have Y4 := hid (Y3.out.below hb4 Y3.out.lt); have G4 := hid (G3.out.below hb4); have B4 := hid (B3.out.trans (hb4.mono B3.out.size)); clear hb4 t0 t1 t2 t3 Y3 B3 G3 KI; have t0 := Y4.out.cell 0; have t1 := Y4.out.cell 1; have t2 := Y4.out.cell 2; have t3 := Y4.out.cell 3
   go_wp2_with fail
   refine (KF.out w4 G4.out.en G4.out.rn G4.out.ra).mono ?_
   rintro e w5 ⟨rfl, hb5⟩
   have B5 := hid (B4.out.trans (hb5.mono B4.out.size)); clear hb5 t0 t1 t2 t3 Y4 B4 G4 KF
   go_wp2_with fail
   go_ret
   exact ⟨rfl, B5.out⟩
end Go.Proofs.YtcbmgpdpjagaoaaGreat
