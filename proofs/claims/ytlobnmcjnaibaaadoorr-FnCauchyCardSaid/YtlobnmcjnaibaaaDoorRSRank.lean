import Derived.Test.YtlobnmcjnaibaaaDoorRMxLin
import Derived.Deep.CutRange
import Derived.Deep.AppendLies
namespace Go.Proofs.YtlobnmcjnaibaaaDoorR
open Go.RowKit
theorem step_append_ints {P : Program} (W0 w : World) {ops : Array Oper} {o : Oper} {a : Act} {K : Act → World → Prop} {Q : Exit → Act → World → Prop} {E : Prop} (hgd : o.guard = none) (s x : Operand) (t : TypeId)
    (ho : o.op = .call { callee := .builtin .append, args := #[s, x], argTypes := #[t, t] })
    (e : TypeId) (k : IntKind) (bt : Nat) (ht : P.underlying t = some (.slice e)) (hinfo : (P.info? e).map (fun i => (i.zero, i.size, i.bytes)) = some (some (.int k 0), 1, bt)) (hbt : bt ≤ 8)
    (v : Value) (xs : List Int) (hs : a.eval s = v) (hown : OwnNums w W0.heap.size e k v xs) (hbel : Below W0.heap.size W0 w)
    (ad : Option Addr) (len cap : Nat) (ys : List Int) (hI : Ints k w ad len cap ys) (h0 : 0 < len) (hx : a.eval x = .slice ad len cap) (hlen : xs.length + len ≤ 17592186044414)
    (h : ∀ g cap' w', OwnNums w' W0.heap.size e k (.slice (some ⟨g, 0, none⟩) (xs.length + len) cap') (xs ++ ys) → Below W0.heap.size W0 w' → w.grownBy w' v.ownBlock → K (a.put o.dst (.slice (some ⟨g, 0, none⟩) (xs.length + len) cap')) w') :
    if Region.wanted o (yielded ops a.tmps) = true then Oper.wp P o a w K Q else E := by
  obtain ⟨i0, hi, hz0, hz1, hz2⟩ := info_parts hinfo
  have hsz := hbel.size
  have hyl := hI.1
  rcases hI.2.2 with hz | ⟨b, off, rfl, hbl, hc⟩
  · omega
  refine step_append_lies _ hgd s x t ho W0.heap.size e i0 (.int k 0) 1 bt ht hi hz0 hz1 hz2 rfl (by decide) v xs.length _ hs hown ⟨b, off, none⟩ len cap (ys.map (Value.int k)) hx (by simp; omega) ?_ ?_ h0 ?_ ?_ hsz w.heap.size rfl ?_
  · intro j u hj
    have hjl : j < ys.length := by
      rcases Nat.lt_or_ge j ys.length with h1 | h1
      · exact h1
      · rw [List.getElem?_eq_none (by simpa using h1)] at hj; cases hj
    have hadd : (⟨b, off, none⟩ : Addr).add j = ⟨b, off + j, none⟩ := by unfold Addr.add; split <;> simp_all
    rw [hadd, hc j (by omega)]
    rw [List.getElem?_map, List.getElem?_eq_getElem hjl] at hj
    rw [List.getD_eq_getElem?_getD, List.getElem?_eq_getElem hjl]; exact hj
  · intro u hu; obtain ⟨y, _, rfl⟩ := List.mem_map.1 hu; rfl
  · unfold maxLen; omega
  · exact Nat.le_trans (Nat.mul_le_mul_left _ hbt) (by omega)
  · intro g cap' w' h1 h2 h3 h4
    refine h g cap' w' (by subst hyl; simpa [OwnNums] using h1) (hbel.grown h2 hsz fun k hk => (World.ownsRow.lt hown k hk).1) h2
/-- what is owned may be written -/
theorem OwnNums.wr {w : World} {base : Nat} {e : TypeId} {k : IntKind} {g n cap : Nat} {xs : List Int} (h : OwnNums w base e k (.slice (some ⟨g, 0, none⟩) n cap) xs) (hn : 0 < n) : Wr k w g 0 xs ∧ base ≤ g ∧ xs.length = n ∧ n ≤ cap := by
  rcases h.2 with ⟨h1, _⟩ | ⟨g', cap', cur, he, hb, hr, hnc, hm, hsz, htk⟩
  · cases h1
  · cases he
    refine ⟨⟨cur, e, hr, by omega, fun i hi => ?_⟩, hb, rfl, hnc⟩
    have := congrArg (·[i]?) htk
    simp only [List.getElem?_take] at this
    rw [if_pos (by omega), List.getElem?_map, List.getElem?_eq_getElem hi] at this
    rw [Nat.zero_add, List.getD_eq_getElem?_getD, List.getElem?_eq_getElem hi]
    simpa using this
theorem OwnNums.apart {w : World} {base : Nat} {e t : TypeId} {k : IntKind} {g n cap b : Nat} {xs : List Int} {c : Array Value} (h : OwnNums w base e k (.slice (some ⟨g, 0, none⟩) n cap) xs) (hr : RowAt w b t c) (hne : t ≠ e) : b ≠ g := by
  rintro rfl
  rcases h.2 with ⟨h1, _⟩ | ⟨g', cap', cur, he, hb, hh, _⟩
  · cases h1
  · cases he
    have : some (Obj.cells cur e (0, 0)) = some (.cells c t (0, 0)) := hh.symm.trans hr
    injection this with this
    injection this with _ h2
    exact hne h2.symm
theorem own_empty (W0 W : World) (e : TypeId) (k : IntKind) (h : W0.heap.size ≤ W.heap.size) {n : Nat} (hn : n = W.heap.size) : OwnNums (W.alloc (.cells #[] e)) W0.heap.size e k (.slice (some ⟨n, 0, none⟩) 0 0) [] := by
  subst hn; exact World.ownsRow_made W #[] 0 h (by decide) rfl
theorem RowAt.far {w w' : World} {b : Nat} {t : TypeId} {c : Array Value} {r : Option Nat} (h : RowAt w b t c) (hg : w.grownBy w' r) (hne : some b ≠ r) : RowAt w' b t c := (hg.block b h.lt hne).trans h
theorem boxS {w w' : World} {b m : Nat} {t : TypeId} {x y z : Value} (h : RowAt w b t #[x, y, z]) (hg : w.grownBy w' (some m)) (hne : b ≠ m) : w'.cell? ⟨b, 0, none⟩ = some x ∧ w'.cell? ⟨b, 1, none⟩ = some y ∧ w'.cell? ⟨b, 2, none⟩ = some z :=
  have r := h.far hg (by intro e; cases e; exact hne rfl)
  ⟨r.cell 0, r.cell 1, r.cell 2⟩
theorem boxS' {w w' : World} {b m : Nat} {t : TypeId} {x y z : Value} (h : RowAt w b t #[x, y, z]) (hg : w.grownBy w' (some m)) (hne : b ≠ m) (o : Obj) : (w'.alloc o).cell? ⟨b, 0, none⟩ = some x ∧ (w'.alloc o).cell? ⟨b, 1, none⟩ = some y ∧ (w'.alloc o).cell? ⟨b, 2, none⟩ = some z :=
  have r := (h.far hg (by intro e; cases e; exact hne rfl)).alloc o
  ⟨r.cell 0, r.cell 1, r.cell 2⟩
theorem boxS3 {w : World} {b n : Nat} {t : TypeId} {x y z u0 u1 u2 : Value} {a0 a1 a2 : Nat} (h : RowAt w b t #[x, y, z]) (hne : b ≠ n) :
    (((w.setCell ⟨n, a0, none⟩ u0).setCell ⟨n, a1, none⟩ u1).setCell ⟨n, a2, none⟩ u2).cell? ⟨b, 0, none⟩ = some x ∧ (((w.setCell ⟨n, a0, none⟩ u0).setCell ⟨n, a1, none⟩ u1).setCell ⟨n, a2, none⟩ u2).cell? ⟨b, 1, none⟩ = some y ∧ (((w.setCell ⟨n, a0, none⟩ u0).setCell ⟨n, a1, none⟩ u1).setCell ⟨n, a2, none⟩ u2).cell? ⟨b, 2, none⟩ = some z :=
  have r := ((h.other ⟨n, a0, none⟩ u0 hne).other ⟨n, a1, none⟩ u1 hne).other ⟨n, a2, none⟩ u2 hne
  ⟨r.cell 0, r.cell 1, r.cell 2⟩
structure RkSt (w wr : World) (R C nb g q cp : Nat) (zs : List Nat) : Prop where
  B : RowAt wr nb 25 #[.int .i64 R, .int .i64 C, .slice (some ⟨g, 0, none⟩) q cp]
  Z : Wr .i64 wr g 0 (nl zs)
  len : zs.length = q
  cap : q ≤ cp
  ng : nb ≠ g
  nbl : w.heap.size ≤ nb
  gl : w.heap.size ≤ g
  bel : Below w.heap.size w wr
theorem RkSt.alloc {w wr : World} {R C nb g q cp : Nat} {zs : List Nat} (h : RkSt w wr R C nb g q cp zs) (o : Obj) : RkSt w (wr.alloc o) R C nb g q cp zs := ⟨h.B.alloc o, h.Z.alloc o, h.len, h.cap, h.ng, h.nbl, h.gl, h.bel.alloc h.bel.size o⟩
theorem RkSt.grown {w wr w2 : World} {R C nb g q cp : Nat} {zs zs' : List Nat} (h : RkSt w wr R C nb g q cp zs) (hg : wr.grownBy w2 (some g)) (hz : Wr .i64 w2 g 0 (nl zs')) (hl : zs'.length = q) : RkSt w w2 R C nb g q cp zs' :=
  ⟨h.B.far hg (by intro e; cases e; exact h.ng rfl), hz, hl, h.cap, h.ng, h.nbl, h.gl, h.bel.grown hg h.bel.size (fun k hk => by cases hk; exact h.gl)⟩
theorem RkSt.ints {w wr : World} {R C nb g q cp : Nat} {zs : List Nat} (h : RkSt w wr R C nb g q cp zs) : Ints .i64 wr (some ⟨g, 0, none⟩) q cp (nl zs) := by
  have := h.Z.ints (cap := cp) (by rw [nl_len, h.len]; exact h.cap)
  rw [nl_len, h.len] at this; exact this
set_option maxRecDepth 20000 in
set_option maxHeartbeats 4000000 in
theorem srank' (A0 : Mx) (R C : Nat) (hR1 : 1 ≤ R) (hR : R ≤ 64) (hC1 : 1 ≤ C) (hC : C ≤ 128) (xs : List Nat) (hs : Sm R C (mo C xs)) (a : Option Addr) (len cap : Nat) (w : World) (h : Ints .i64 w a len cap (nl xs)) (hlen : len = R * C) (HA0 : Hid (A0 = fm (mo C xs))) :
    Calls Tryd.prog 26 #[mxv R C a len cap] w fun e w' => e = .returned (.int .i64 (rank R C A0 : Nat)) ∧ Below w.heap.size w w' := by
  have hqb : R * C ≤ 64 * 128 := Nat.mul_le_mul hR hC
  have hl2 : len ≤ 8192 := by omega
  have hl1 : 0 < len := by rw [hlen]; exact Nat.mul_pos hR1 hC1
  have HL := hid hlen
  have HS := hid hs
  have HH := hid h
  clear hlen hs h hqb
  go_enter Tryd.func26, Tryd.ntmps26
  go_upto_region 1 with fail
  go_cut [3] from 8 to 16 (fun c wx => ∃ nb g cp, c = .pointer (some ⟨nb, 0, none⟩) ∧ nb ≠ g ∧ w.heap.size ≤ nb ∧ w.heap.size ≤ g ∧ RowAt wx nb 25 #[.int .i64 R, .int .i64 C, .slice (some ⟨g, 0, none⟩) len cp] ∧ len ≤ cp ∧ Wr .i64 wx g 0 (nl xs) ∧ Below w.heap.size w wx)
  case first =>
    go_region_held3 (fun wx => wx.cell? ⟨w.heap.size, 0, none⟩ = some (.int .i64 R) ∧ wx.cell? ⟨w.heap.size, 1, none⟩ = some (.int .i64 C) ∧ wx.cell? ⟨w.heap.size, 2, none⟩ = some (.slice a len cap)) ((first | (go_keep; done) | exact boxS (((RowAt.new w _ _).alloc _).drew) hg1 (by dsimp only; omega) | exact boxS ((((RowAt.new w _ _).alloc _).alloc _).drew) hg1 (by dsimp only; omega) | exact boxS3 rM (by omega) | exact boxS' (((RowAt.new w _ _).alloc _).drew) hg1 (by dsimp only; omega) _)) ((first
      | (refine step_append_ints w _ (by rfl) _ _ 23 (by rfl) 2 .i64 8 Tryd.underlying23 Tryd.info64 (by decide) _ [] (by rfl) ((own_empty w (w.alloc _) 2 .i64 (by rw [size_al]; omega) (by rw [size_al])).drew) ((((Below.refl _ _).alloc (Nat.le_refl _) _).alloc (by rw [size_al]; omega) _).drew) a len cap (nl xs) (((HH.out.alloc _).alloc _).below (Below.refl _ _).drew) hl1 (by rfl) (by simp; omega) ?_; intro g cp w1 hown1 hbel1 hg1)
      | (refine step_append_ints w _ (by rfl) _ _ 23 (by rfl) 2 .i64 8 Tryd.underlying23 Tryd.info64 (by decide) _ [] (by rfl) ((own_empty w ((w.alloc _).alloc _) 2 .i64 (by rw [size_al, size_al]; omega) (by rw [size_al, size_al])).drew) (((((Below.refl _ _).alloc (Nat.le_refl _) _).alloc (by rw [size_al]; omega) _).alloc (by rw [size_al, size_al]; omega) _).drew) a len cap (nl xs) ((((HH.out.alloc _).alloc _).alloc _).below (Below.refl _ _).drew) hl1 (by rfl) (by simp; omega) ?_; intro g cp w1 hown1 hbel1 hg1; have rN := (((RowAt.next (w.alloc _) 25 #[.int .i64 0, .int .i64 0, .slice none 0 0] (n := w.heap.size + 1) (by rw [size_al])).alloc _).drew).far hg1 (by intro e; injection e with e; dsimp only at e; omega); have rM := ((((RowAt.new w 25 #[.int .i64 R, .int .i64 C, .slice a len cap]).alloc _).alloc _).drew).far hg1 (by intro e; injection e with e; dsimp only at e; omega); have q0 := rN.cell 0; have q1 := rN.cell 1; have q2 := rN.cell 2; have f0 := rN.free 0; have f1 := rN.free 1; have f2 := rN.free 2)
      | (refine step_append_ints w _ (by rfl) _ _ 23 (by rfl) 2 .i64 8 Tryd.underlying23 Tryd.info64 (by decide) _ [] (by rfl) (((own_empty w (w.alloc _) 2 .i64 (by rw [size_al]; omega) (by rw [size_al])).alloc _).drew) (((((Below.refl _ _).alloc (Nat.le_refl _) _).alloc (by rw [size_al]; omega) _).alloc (by rw [size_al, size_al]; omega) _).drew) a len cap (nl xs) ((((HH.out.alloc _).alloc _).alloc _).below (Below.refl _ _).drew) hl1 (by rfl) (by simp; omega) ?_; intro g cp w1 hown1 hbel1 hg1; have rN := ((RowAt.next ((w.alloc _).alloc _) 25 #[.int .i64 0, .int .i64 0, .slice none 0 0] (n := w.heap.size + 1 + 1) (by rw [size_al, size_al])).drew).far hg1 (by intro e; injection e with e; dsimp only at e; omega); have rM := ((((RowAt.new w 25 #[.int .i64 R, .int .i64 C, .slice a len cap]).alloc _).alloc _).drew).far hg1 (by intro e; injection e with e; dsimp only at e; omega); have q0 := rN.cell 0; have q1 := rN.cell 1; have q2 := rN.cell 2; have f0 := rN.free 0; have f1 := rN.free 1; have f2 := rN.free 2)))
    · have hw := hown1.wr (by omega)
      have hlt := hw.1.lt
      rw [List.nil_append] at hw
      simp only [List.length_nil, Nat.zero_add] at hw
      go_wp2_with fail
      go_meet
      exact ⟨w1.heap.size, g, cp, rfl, by omega, hbel1.size, hw.2.1, RowAt.new w1 _ _, hw.2.2.2, hw.1.alloc _, hbel1.alloc hbel1.size _⟩
    · have hw := hown1.wr (by omega)
      have hlt := hw.1.lt
      have hap := hown1.apart rN (by decide)
      rw [List.nil_append] at hw
      simp only [List.length_nil, Nat.zero_add] at hw
      go_wp2_with fail
      go_meet
      exact ⟨w.heap.size + 1 + 1, g, cp, rfl, hap, by omega, hw.2.1, ((rN.set 0 _).set 1 _).set 2 _, hw.2.2.2, ((hw.1.other _ _ hap.symm).other _ _ hap.symm).other _ _ hap.symm, ((hbel1.setCell (by dsimp only; omega) _).setCell (by dsimp only; omega) _).setCell (by dsimp only; omega) _⟩
    · have hw := hown1.wr (by omega)
      have hlt := hw.1.lt
      have hap := hown1.apart rN (by decide)
      rw [List.nil_append] at hw
      simp only [List.length_nil, Nat.zero_add] at hw
      go_wp2_with fail
      go_meet
      exact ⟨w.heap.size + 1, g, cp, rfl, hap, by omega, hw.2.1, ((rN.set 0 _).set 1 _).set 2 _, hw.2.2.2, ((hw.1.other _ _ hap.symm).other _ _ hap.symm).other _ _ hap.symm, ((hbel1.setCell (by dsimp only; omega) _).setCell (by dsimp only; omega) _).setCell (by dsimp only; omega) _⟩
  case rest =>
    obtain ⟨nb, g, cp, rfl, hng, hnb, hgb, r0, hcp, z0, hb0⟩ := hcut
    have S0 : Hid (RkSt w wc R C nb g len cp xs) := ⟨r0, z0, by have := HH.out.1; rw [nl_len] at this; exact this, hcp, hng, hnb, hgb, hb0⟩
    clear r0 z0 hcp hng hnb hgb hb0
    go_wp2
    go_loopw [4, 5] (fun x y wr => ∃ (k col : Nat) (zs : List Nat), k ≤ R ∧ col ≤ C ∧ x = .int .i64 k ∧ y = .int .i64 col ∧ RkSt w wr R C nb g len cp zs ∧ Sm R C (mo C zs) ∧ KerEq R C A0 (fm (mo C zs)) ∧ (∃ p, Red R (fm (mo C zs)) k p col) ∧ k = cntP (fun c => ¬ Dep R C A0 c) col) (fun _ y _ => C - (intOf y).toNat)
    case atStart => exact ⟨0, 0, xs, Nat.zero_le _, Nat.zero_le _, rfl, rfl, S0.out, HS.out, by rw [HA0.out]; exact KerEq.refl _ _ _, ⟨fun _ => 0, Red.start _ _ _⟩, rfl⟩
    case round =>
      obtain ⟨k, col, zs, hk, hcol, rfl, rfl, st, hsm, hke, hred, hcnt⟩ := hrel
      have ST := hid st
      have SM := hid hsm
      have KE := hid hke
      have RD := hid hred
      have CN := hid hcnt
      clear st hsm hke hred hcnt S0
      have c0 := ST.out.B.cell 0
      have c1 := ST.out.B.cell 1
      by_cases hcc : col < C
      · have hcc' : (col : Int) < (C : Int) := by omega
        by_cases hkr : k < R
        · have hkr' : (k : Int) < (R : Int) := by omega
          go_wp2
          go_loopw [6, 7] (fun x y wr => ∃ (I : Nat), k ≤ I ∧ I ≤ R ∧ y = .int .i64 I ∧ RkSt w wr R C nb g len cp zs ∧ ((x = .int .i64 (-1) ∧ ∀ i, k ≤ i → i < I → mo C zs i col = 0) ∨ ∃ t : Nat, x = .int .i64 t ∧ k ≤ t ∧ t < I ∧ mo C zs t col ≠ 0)) (fun _ y _ => R - (intOf y).toNat)
          case atStart => exact ⟨k, Nat.le_refl _, hk, rfl, ST.out, Or.inl ⟨rfl, fun i h1 h2 => absurd h2 (by omega)⟩⟩
          case round =>
            obtain ⟨I, hkI, hIR, rfl, st, hat⟩ := hrel
            have SI := hid st
            have AT := hid hat
            clear st hat c0 c1
            have c0 := SI.out.B.cell 0
            have c1 := SI.out.B.cell 1
            have c2 := SI.out.B.cell 2
            by_cases hlt : I < R
            · have hlt' : (I : Int) < (R : Int) := by omega
              obtain ⟨qi, hqi⟩ : ∃ qi, qi = I * C := ⟨_, rfl⟩
              have QI : Hid ((I : Int) * (C : Int) = (qi : Int)) := by show _ = _; rw [hqi]; simp
              have bi : qi + col < len := by rw [hqi, HL.out]; exact mul_pos_lt hlt hcc
              obtain ⟨X, hX⟩ : ∃ X, zs.getD (qi + col) 0 = X := ⟨_, rfl⟩
              have eX : Hid (X = mo C zs I col) := by show _ = zs.getD (I * C + col) 0; rw [← hqi]; exact hX.symm
              have HX := hid hX
              clear hqi hX
              by_cases hz : X = 0
              · have dz : ((X : Int) != 0) = false := by simp; omega
                go_wp2_with fail
                refine (satn R C I col qi X (some ⟨g, 0, none⟩) len cp zs _ SI.out.ints QI bi (by omega) HX).mono ?_
                rintro e w4 ⟨rfl, rfl⟩
                go_wp2
                go_roundw
                case rel =>
                  refine ⟨I + 1, by omega, by omega, by go_num, SI.out.alloc _, ?_⟩
                  rcases AT.out with ⟨h1, h2⟩ | ⟨t, h1, h2, h3, h4⟩
                  · refine Or.inl ⟨h1, fun i a b => ?_⟩
                    by_cases e : i = I
                    · subst e; rw [← eX.out]; exact hz
                    · exact h2 i a (by omega)
                  · exact Or.inr ⟨t, h1, h2, by omega, h4⟩
                case measure => simp [intOf]; omega
              · have dz : ((X : Int) != 0) = true := by simp; omega
                go_wp2_with fail
                refine (satn R C I col qi X (some ⟨g, 0, none⟩) len cp zs _ SI.out.ints QI bi (by omega) HX).mono ?_
                rintro e w4 ⟨rfl, rfl⟩
                go_wp2
                go_roundw
                case rel => exact ⟨I + 1, by omega, by omega, by go_num, SI.out.alloc _, Or.inr ⟨I, rfl, hkI, by omega, by rw [← eX.out]; exact hz⟩⟩
                case measure => simp [intOf]; omega
            · have hIe : I = R := by omega
              subst hIe
              rcases AT.out with ⟨rfl, hzero⟩ | ⟨t, rfl, ht1, ht2, ht3⟩
              · have NX : Hid ((∃ p, Red I (fm (mo C zs)) k p (col + 1)) ∧ k = cntP (fun c => ¬ Dep I C A0 c) (col + 1)) := by
                  obtain ⟨p, hr⟩ := RD.out
                  have ⟨h1, h2⟩ := elim_none SM.out KE.out hr hcc hzero
                  exact ⟨⟨p, h1⟩, by rw [cntP_no (P := fun c => ¬ Dep I C A0 c) (fun h => h h2)]; exact CN.out⟩
                go_wp2
                go_roundw
                case rel => exact ⟨k, col + 1, zs, hk, by omega, rfl, by go_num, SI.out, SM.out, KE.out, NX.out.1, NX.out.2⟩
                case measure => simp [intOf]; omega
              · have HT3 := hid ht3
                have dt : decide ((t : Int) < 0) = false := by simp
                clear ht3
                go_wp2_with fail
                refine (sswap I C k t len cp g SI.out.cap zs _ hR hC hkr ht2 HL.out SI.out.Z SI.out.len).mono ?_
                rintro e w2 ⟨rfl, ⟨ys, yz, yl, yf⟩, yg⟩
                have S2 := hid (SI.out.grown yg yz yl)
                have YF := hid yf
                have YS : Hid (Sm I C (mo C ys)) := sm_congr' (swp_sm SM.out hkr ht2) yf
                clear yz yl yf yg c0 c1 c2
                have c0 := S2.out.B.cell 0
                have c1 := S2.out.B.cell 1
                have c2 := S2.out.B.cell 2
                go_wp2_with fail
                refine (sclear I C k col len cp g S2.out.cap ys _ hR hC hkr hcc HL.out S2.out.Z S2.out.len YS.out).mono ?_
                rintro e w3 ⟨rfl, ⟨vs, vz, vl, vf⟩, vg⟩
                have S3 := hid (S2.out.grown vg vz vl)
                have NX : Hid (Sm I C (mo C vs) ∧ KerEq I C A0 (fm (mo C vs)) ∧ (∃ p, Red I (fm (mo C vs)) (k + 1) p (col + 1)) ∧ k + 1 = cntP (fun c => ¬ Dep I C A0 c) (col + 1)) := by
                  obtain ⟨p, hr⟩ := RD.out
                  have ⟨h1, h2, h3, h4⟩ := elim_step SM.out KE.out hr hcc ht1 ht2 HT3.out YF.out vf
                  exact ⟨h1, h2, ⟨_, h3⟩, by rw [cntP_yes (P := fun c => ¬ Dep I C A0 c) h4, ← CN.out]⟩
                clear vz vl vf vg c0 c1 c2
                go_wp2
                go_roundw
                case rel => exact ⟨k + 1, col + 1, vs, by omega, by omega, by go_num, by go_num, S3.out, NX.out.1, NX.out.2.1, NX.out.2.2.1, NX.out.2.2.2⟩
                case measure => simp [intOf]; omega
        · have hke : k = R := by omega
          have dk : decide ((k : Int) < (R : Int)) = false := by simp; omega
          have HE : Hid (k = rank R C A0) := by
            obtain ⟨p, hr⟩ := RD.out
            have := Red.rest (C := C) KE.out (C - col) col (by rw [← hke]; rw [hke] at hr ⊢; exact hr) (by omega)
            show k = cntP _ C
            rw [show col + (C - col) = C by omega] at this
            rw [this]; exact CN.out
          go_wp2
          go_ret
          exact ⟨congrArg (fun x : Nat => Ending.returned (.int .i64 (x : Int))) HE.out, ST.out.bel⟩
      · have hce : col = C := by omega
        subst hce
        have HE : Hid (k = rank R col A0) := CN.out
        go_wp2
        go_ret
        exact ⟨congrArg (fun x : Nat => Ending.returned (.int .i64 (x : Int))) HE.out, ST.out.bel⟩
theorem srank (R C : Nat) (hR1 : 1 ≤ R) (hR : R ≤ 64) (hC1 : 1 ≤ C) (hC : C ≤ 128) (xs : List Nat) (hs : Sm R C (mo C xs)) (a : Option Addr) (len cap : Nat) (w : World) (h : Ints .i64 w a len cap (nl xs)) (hlen : len = R * C) :
    Calls Tryd.prog 26 #[mxv R C a len cap] w fun e w' => e = .returned (.int .i64 (rank R C (fm (mo C xs)) : Nat)) ∧ Below w.heap.size w w' := srank' _ R C hR1 hR hC1 hC xs hs a len cap w h hlen rfl
end Go.Proofs.YtlobnmcjnaibaaaDoorR
