import Derived.Test.YtmjolkagkeonfaaGreatDoorSRp2
import Derived.Test.YtmjolkagkeonfaaGreatDoorRpI6
namespace Go.Proofs.YtmjolkagkeonfaaGreatDoor
open Go.RowKit
set_option linter.unusedVariables false
/-! The specification's ReadPolicy. -/
theorem sLine (ws : List ByteArray) (hws : ws.length ≤ 1000001 ∧ ∀ x ∈ ws, x.size ≤ 1000000) (g n c : Nat) (hl : n = ws.length) (w : World) (h : Strs w (some ⟨g, 0, none⟩) n c (atB ws)) :
    Calls Tryz.prog 43 #[.slice (some ⟨g, 0, none⟩) n c] w fun e w' => LnO w ws e w' := by
  by_cases hf : frmP ws
  · exact sLine_ok ws hws hf g n c hl w h
  · exact sLine_no ws hws.1 hf g n c hl w h
/-- one text, in a box just made, is appended; the row lies where it lay, or at the heap's end -/
theorem append_strL (base : Nat) (wr : World) {ops : Array Oper} {rest : List Oper} {o : Oper} {a : Act} {Q : Exit → Act → World → Prop} (hgd : o.guard = none) (s x : Operand)
    (ho : o.op = .call { callee := .builtin .append, args := #[s, x], argTypes := #[70, 70] })
    (v : Value) (xs : List ByteArray) (n : Nat) (hn : xs.length = n) (y : ByteArray) (hs : a.eval s = v) (hown : OwnStrs wr base v xs) (hsz : base ≤ wr.heap.size)
    (hx : a.eval x = .slice (some ⟨wr.heap.size, 0, none⟩) 1 1) (hlen : n ≤ 1048576)
    (h : ∀ g c w', OwnStrs w' base (.slice (some ⟨g, 0, none⟩) (n + 1) c) (xs ++ [y]) → wr.grownBy w' v.ownBlock → (v.ownBlock = some g ∨ wr.heap.size ≤ g) → wpList Tryz.prog ops Q rest (a.put o.dst (.slice (some ⟨g, 0, none⟩) (n + 1) c)) w') :
    wpList Tryz.prog ops Q (o :: rest) a (wr.alloc (.cells #[.string y] 9)) := by
  subst hn
  obtain ⟨i0, hi, hz0, hz1, hz2⟩ := info_parts Tryz.infoS'
  refine wpList_append_lies _ hgd s x 70 ho base 9 i0 (.string ⟨#[]⟩) 1 16 Tryz.underlying70 hi hz0 hz1 hz2 rfl (by decide) v _ _ hs (World.ownsRow.alloc hown _) ⟨wr.heap.size, 0, none⟩ 1 1 [.string y] hx rfl ?_ ?_ (by decide) ?_ ?_ ?_ (wr.alloc (.cells #[.string y] 9)).heap.size rfl ?_
  · intro j u hj
    match j, hj with
    | 0, hj => simp at hj; subst hj; simp [Addr.add]
  · intro u hu; simp at hu; subst hu; rfl
  · unfold maxLen; omega
  · omega
  · simp; omega
  · intro g c w' h1 h2 h3 _
    refine h g c w' (by simpa [OwnStrs] using h1) (grown_trans (World.grownBy_alloc wr _ _) h2) ?_
    rcases h3 with h3 | h3
    · exact .inl h3
    · right
      rw [size_al] at h3
      omega
theorem filt_take {P : List ByteArray} {k : Nat} (h : k < P.length) : (P.take (k + 1)).filter (fun b => decide (0 < b.size)) = (P.take k).filter (fun b => decide (0 < b.size)) ++ (if 0 < (atB P k).size then [atB P k] else []) := by
  rw [List.take_add_one, atB_get h, List.filter_append]
  congr 1
  by_cases q : 0 < (atB P k).size
  · rw [if_pos q]; simp [q]
  · rw [if_neg q]; simp [q]
theorem rd_ret {t : ByteArray} {w wf : World} {c l : Int} {a : Option Addr} {m cc : Nat} {tm : Array Value}
    (hR : RowAt wf w.heap.size 28 #[.int .i64 c, .int .i64 l, .slice a m cc]) (hp : ∃ L, polO t = (c, l, L) ∧ PolAt wf w.heap.size (.slice a m cc) L) (hB : Below w.heap.size w wf)
    (h2 : tm.getD 2 undef = .pointer (some ⟨w.heap.size, 0, none⟩)) :
    bodyPost Tryz.prog Tryz.f14 (fun e w' => AnsP w t e w') Exit.ret { tmps := tm, defers := [] } wf := by
  obtain ⟨L, hp, hP⟩ := hp
  refine bodyPost_ret (v := .agg #[.int .i64 c, .int .i64 l, .slice a m cc]) ?_ rfl ⟨.slice a m cc, by rw [hp], by rw [hp]; exact hP, hB⟩
  exact results_cell_row Tryz.results14 _ _ w.heap.size _ _ _ _ h2 hR Tryz.underlying28 rfl (by kernel_rfl)
set_option maxRecDepth 20000 in
set_option maxHeartbeats 32000000 in
theorem sReadP (t : ByteArray) (ht : t.size ≤ 1048576) (w : World) :
    Calls Tryz.prog 14 #[.string t] w fun e w' => AnsP w t e w' := by
  obtain ⟨W1, hW1⟩ : ∃ W, W = w.alloc (.cells #[.int .i64 0, .int .i64 0, .slice none 0 0] 28) := ⟨_, rfl⟩
  have B1 : Hid (Below w.heap.size w W1) := by rw [hW1]; exact (Below.refl _ _).alloc (Nat.le_refl _) _
  have R1 : Hid (RowAt W1 w.heap.size 28 #[.int .i64 0, .int .i64 0, .slice none 0 0]) := by rw [hW1]; exact RowAt.new _ _ _
  by_cases h0 : t.size ≤ 10000
  case neg =>
    have hp : Hid (polO t = (2, 0, [])) := by show _ = _; unfold polO; rw [if_neg h0]
    have d0 : (10000 : Int) < (t.size : Int) := by omega
    clear h0
    go_enter Tryz.func14, Tryz.ntmps14
    go_upto_region 1 with fail
    rw [← hW1]
    clear hW1
    go_wp2_with (refine wpList_store_row rfl 28 (.tmp 2) (.tmp 14) rfl w.heap.size #[.int .i64 2, .int .i64 0, .slice none 0 0] rfl rfl _ _ R1.out (by kernel_rfl) rfl (by simp [Value.oneCell']) ?_)
    exact rd_ret (R1.out.setRow _) ⟨[], hp.out, PolAt.nil _ _ (by rw [setRow_size]; exact B1.out.size)⟩ (below_setRow B1.out _ _ (Nat.le_refl _)) rfl
  have hp : Hid (polO t = rdP 0 [] (splB 10 t)) := by show _ = _; unfold polO; rw [if_pos h0]
  have d0 : ¬ (10000 : Int) < (t.size : Int) := by omega
  have K := hid (sSplit t (by omega) 10 W1)
  obtain ⟨LS, hLS⟩ : ∃ x, x = splB 10 t := ⟨_, rfl⟩
  have SZ : Hid (∀ x ∈ LS, x.size ≤ 10000) := by rw [hLS]; exact splB_sz h0
  have LN : Hid (1 ≤ LS.length ∧ LS.length ≤ 10001) := by show _ ∧ _; rw [hLS]; have := splB_len 10 t; omega
  rw [← hLS] at K hp
  clear hLS h0
  go_enter Tryz.func14, Tryz.ntmps14
  go_upto_region 1 with fail
  rw [← hW1]
  clear hW1
  go_wp2_with fail
  refine K.out.mono ?_
  rintro e w2 ⟨⟨v3, rfl, hO⟩, hB⟩
  obtain ⟨a3, c3, rfl⟩ := hO.slice
  obtain ⟨g3, hg3, hgb, hn3, hS3⟩ := hO.strs (ts := atB LS) (by have := LN.out.1; omega) (fun i hi => atB_get hi)
  subst hg3
  obtain ⟨n, hn⟩ : ∃ n, n = LS.length := ⟨_, rfl⟩
  rw [← hn] at hS3 LN
  rw [← hn]
  have HN := hid hn
  have S3 := hid hS3
  have B2 : Hid (Below w.heap.size w w2) := B1.out.trans (hB.mono B1.out.size)
  have R2 := hid (R1.out.below hB R1.out.lt)
  have hnb : n ≤ 10001 := LN.out.2
  clear hO hB K hn3 hgb hS3 hn B1 R1
  obtain ⟨W3, hW3⟩ : ∃ W, W = w2.alloc (.cells #[] 73) := ⟨_, rfl⟩
  have B3 : Hid (Below w2.heap.size w2 W3) := by rw [hW3]; exact (Below.refl _ _).alloc (Nat.le_refl _) _
  have P3 : Hid (PolAt W3 w2.heap.size (.slice (some ⟨w2.heap.size, 0, none⟩) 0 0) []) := by rw [hW3]; exact PolAt.empty w2
  go_upto_region 5 with fail
  rw [← hW3]
  clear hW3
  obtain ⟨X2, hX2⟩ : ∃ x, x = w2.heap.size := ⟨_, rfl⟩
  rw [← hX2] at P3 ⊢
  have HX2 := hid hX2
  clear hX2
  go_wp2_with fail
  go_loopw [4, 5] (fun v4 v5 wr => ∃ (i : Nat) (acc : List PS), i ≤ n ∧ v5 = .int .i64 (i : Int) ∧ PolAt wr X2 v4 acc ∧ acc.length ≤ 50 ∧ Below w2.heap.size w2 wr ∧ rdP i acc (LS.drop i) = rdP 0 [] LS) (fun _ v5 _ => n - (intOf v5).toNat)
  case atStart => exact ⟨0, [], Nat.zero_le _, rfl, P3.out, Nat.zero_le _, B3.out, rfl⟩
  case round =>
    rename World => wo
    obtain ⟨i, acc, hi, rfl, hP, hacc, hB, hR⟩ := hrel
    obtain ⟨Rs, X, hP⟩ := hP
    obtain ⟨a4, c4, rfl⟩ := hP.own.slice
    obtain ⟨m, hm⟩ : ∃ m, m = Rs.length := ⟨_, rfl⟩
    rw [← hm] at hP ⊢
    have P0 := hid hP
    have BB := hid hB
    have RR := hid hR
    have ML : Hid (m = acc.length) := hm.trans hP.len
    have HMR := hid hm
    have hm50 : m ≤ 50 := by rw [ML.out]; exact hacc
    have BW : Hid (Below w.heap.size w wo) := B2.out.trans (hB.mono B2.out.size)
    have RX := hid (R2.out.below hB R2.out.lt)
    clear hP hB hR hm hacc P3 B3
    by_cases hlt : i < n
    · have d3 : (i : Int) < (n : Int) := by omega
      have i0 : (0 : Int) ≤ (i : Int) := by omega
      obtain ⟨x, hx⟩ : ∃ x, x = atB LS i := ⟨_, rfl⟩
      obtain ⟨W4, hW4⟩ : ∃ W, W = wo.alloc (.cells #[] 9) := ⟨_, rfl⟩
      have B4 : Hid (Below wo.heap.size wo W4) := by rw [hW4]; exact (Below.refl _ _).alloc (Nat.le_refl _) _
      have O4 : Hid (OwnStrs W4 wo.heap.size (.slice (some ⟨wo.heap.size, 0, none⟩) 0 0) []) := by rw [hW4]; exact World.ownsRow_made wo #[] 0 (Nat.le_refl _) (by decide) rfl
      have c0 : W4.cell? ⟨g3, i, none⟩ = some (.string x) := by
        rcases ((S3.out.below BB.out).below B4.out).2 with q | ⟨b', off, e, _, hc⟩
        · omega
        · cases e
          have := hc i hlt
          rw [Nat.zero_add] at this
          rw [this, hx]
      have hxs : x.size ≤ 10000 := by rw [hx]; exact SZ.out _ (atB_mem (by rw [← HN.out]; exact hlt))
      have DR : Hid (LS.drop i = x :: LS.drop (i + 1)) := by
        show _ = _
        have e1 := atB_get (l := LS) (i := i) (by rw [← HN.out]; exact hlt)
        rw [List.getElem?_eq_getElem (by rw [← HN.out]; exact hlt)] at e1
        rw [List.drop_eq_getElem_cons (by rw [← HN.out]; exact hlt), Option.some.inj e1, hx]
      rw [DR.out] at RR
      clear hx
      have KP := hid (sSplit x (by omega) 32 W4)
      have HW := hid (wdsL_B (n := 1000000) (show x.size ≤ 1000000 by omega))
      have WE : Hid (wdsL x = (splB 32 x).filter (fun b => decide (0 < b.size))) := rfl
      have PL : Hid (1 ≤ (splB 32 x).length ∧ (splB 32 x).length ≤ 10001) := by show _ ∧ _; have := splB_len 32 x; omega
      obtain ⟨PP, hPP⟩ : ∃ y, y = splB 32 x := ⟨_, rfl⟩
      rw [← hPP] at KP WE PL
      clear hPP
      go_upto_region 9 with fail
      rw [← hW4]
      clear hW4
      obtain ⟨Y4, hY4⟩ : ∃ y, y = wo.heap.size := ⟨_, rfl⟩
      rw [← hY4] at O4 ⊢
      have HY4 := hid hY4
      clear hY4
      go_wp2_with fail
      refine KP.out.mono ?_
      rintro e w5 ⟨⟨v7, rfl, hO7⟩, hB5⟩
      obtain ⟨a7, c7, rfl⟩ := hO7.slice
      obtain ⟨g7, hg7, hgb7, hn7, hS7⟩ := hO7.strs (ts := atB PP) (by have := PL.out.1; omega) (fun i hi => atB_get hi)
      subst hg7
      obtain ⟨p, hp7⟩ : ∃ p, p = PP.length := ⟨_, rfl⟩
      rw [← hp7] at hS7 PL ⊢
      have HP7 := hid hp7
      have CP : Hid (∀ k, k < p → w5.cell? ⟨g7, k, none⟩ = some (.string (atB PP k))) := fun k hk => by
        rcases hS7.2 with q | ⟨b', off, e, _, hc⟩
        · omega
        · cases e
          have := hc k hk
          rwa [Nat.zero_add] at this
      have g7l : Hid (g7 < w5.heap.size) := by
        rcases hS7.2 with q | ⟨b', off, e, hb', _⟩
        · have := PL.out.1; omega
        · cases e; exact hb'
      have g7g : Hid (Y4 < g7) := by have h1 := O4.out.row (g := Y4) rfl; show _ < _; omega
      have B5 : Hid (Below wo.heap.size wo w5) := B4.out.trans (hB5.mono B4.out.size)
      have O5 := hid (O4.out.below hB5)
      have hpb : p ≤ 10001 := PL.out.2
      clear hO7 hB5 hgb7 hn7 hS7 hp7 KP c0 O4 B4
      go_wp2_with fail
      go_loopw [6, 8] (fun v6 v8 wx => ∃ (k : Nat) (g6 c6 : Nat) (xs : List ByteArray) (n6 : Nat), k ≤ p ∧ v8 = .int .i64 (k : Int) ∧ xs = (PP.take k).filter (fun b => decide (0 < b.size)) ∧ xs.length = n6 ∧ n6 ≤ k ∧ v6 = .slice (some ⟨g6, 0, none⟩) n6 c6 ∧ OwnStrs wx Y4 (.slice (some ⟨g6, 0, none⟩) n6 c6) xs ∧ g6 ≠ g7 ∧ Below wo.heap.size wo wx ∧ w5.heap.size ≤ wx.heap.size ∧ ∀ k, k < p → wx.cell? ⟨g7, k, none⟩ = some (.string (atB PP k))) (fun _ v8 _ => p - (intOf v8).toNat)
      case atStart => exact ⟨0, Y4, 0, [], 0, Nat.zero_le _, rfl, by simp, rfl, Nat.le_refl _, rfl, O5.out, by have := g7g.out; omega, B5.out, Nat.le_refl _, CP.out⟩
      case round =>
        obtain ⟨k, g6, c6, xs, n6, hk, rfl, hxs6, hn6, hnk, rfl, hO6, hne6, hB6, hz6, hC6⟩ := hrel
        have O6 := hid hO6
        have B6 := hid hB6
        have Z6 := hid hz6
        have C6 := hid hC6
        have HXS := hid hxs6
        have HN6 := hid hn6
        have NE6 := hid hne6
        clear hO6 hB6 hz6 hC6 hxs6 hn6 hne6 O5 B5 CP
        by_cases hkp : k < p
        · have e3 : (k : Int) < (p : Int) := by omega
          have k0 : (0 : Int) ≤ (k : Int) := by omega
          obtain ⟨y, hy⟩ : ∃ y, y = atB PP k := ⟨_, rfl⟩
          have cy := C6.out k hkp
          rw [← hy] at cy
          have FT := hid (filt_take (P := PP) (k := k) (by rw [← HP7.out]; exact hkp))
          rw [← hy] at FT
          clear hy
          by_cases q : 0 < y.size
          · have yl : y.toList ≠ [] := fun e => by
              rw [ByteArray.toList_eq] at e
              have := congrArg List.length e
              rw [baLen, List.length_nil] at this
              omega
            have q1 : (y.toList == []) = false := beq_eq_false_iff_ne.2 yl
            have q2 : y.toList.isEmpty = false := by cases hh : y.toList with | nil => exact absurd hh yl | cons _ _ => rfl
            have EX : Hid (xs ++ [y] = (PP.take (k + 1)).filter (fun b => decide (0 < b.size))) := by show _ = _; rw [FT.out, if_pos q, HXS.out]
            have L6 : Hid ((xs ++ [y]).length = n6 + 1) := by show _ = _; rw [List.length_append, HN6.out]; rfl
            have ZB : Hid (Y4 ≤ wr.heap.size) := by have h1 := g7g.out; have h2 := g7l.out; have h3 := Z6.out; show _ ≤ _; omega
            clear q
            go_wp2_with (refine append_strL Y4 wr (by rfl) (.tmp 41) (.tmp 46) (by rfl) _ xs n6 HN6.out y (by rfl) O6.out ZB.out (by rfl) (by omega) ?_; intro ga ca wa hOa hga hla)
            have OA := hid hOa
            have NEA : Hid (ga ≠ g7) := by
              rcases hla with hh | hh
              · have : g6 = ga := Option.some.inj hh
                rw [← this]; exact NE6.out
              · have h1 := g7l.out; have h2 := Z6.out; show _ ≠ _; omega
            have BA : Hid (Below wo.heap.size wo wa) := B6.out.grown hga B6.out.size (fun z hz => by have := (O6.out.row hz).1; have := HY4.out; omega)
            have CA : Hid (∀ k, k < p → wa.cell? ⟨g7, k, none⟩ = some (.string (atB PP k))) := fun k hk => (hga.cell_far ⟨g7, k, none⟩ (by have h1 := g7l.out; have h2 := Z6.out; show g7 < _; omega) (fun e => NE6.out (Option.some.inj e).symm)).trans (C6.out k hk)
            have ZA : Hid (w5.heap.size ≤ wa.heap.size) := Nat.le_trans Z6.out hga.size
            clear hOa hga hla cy
            go_wp2
            go_roundw
            case rel => exact ⟨k + 1, ga, ca, xs ++ [y], n6 + 1, by omega, by go_num, EX.out, L6.out, by omega, rfl, OA.out, NEA.out, BA.out, ZA.out, CA.out⟩
            case measure => simp [intOf]; omega
          · have yz : y.size = 0 := by omega
            have yl : y.toList = [] := by
              rw [ByteArray.toList_eq]
              exact List.eq_nil_of_length_eq_zero (by rw [baLen]; exact yz)
            have q1 : (y.toList == []) = true := by rw [yl]; rfl
            have q2 : y.toList.isEmpty = true := by rw [yl]; rfl
            have EX : Hid (xs = (PP.take (k + 1)).filter (fun b => decide (0 < b.size))) := by show _ = _; rw [FT.out, if_neg q, HXS.out, List.append_nil]
            clear q yz yl
            go_wp2
            go_roundw
            case rel => exact ⟨k + 1, g6, c6, xs, n6, by omega, by go_num, EX.out, HN6.out, by omega, rfl, O6.out, NE6.out, B6.out, Z6.out, C6.out⟩
            case measure => simp [intOf]; omega
        · have e3 : ¬ (k : Int) < (p : Int) := by omega
          have ek : k = p := by omega
          have HWS : Hid (xs = wdsL x) := by
            show _ = _
            rw [WE.out, HXS.out, ek, HP7.out, List.take_length]
          have hn6b : n6 ≤ 10001 := by omega
          have P6 := hid (P0.out.below B6.out)
          have BB6 := hid (BB.out.trans (B6.out.mono BB.out.size))
          have RX6 := hid (RX.out.below B6.out RX.out.lt)
          have BW6 := hid (BW.out.trans (B6.out.mono BW.out.size))
          rw [← HWS.out] at HW
          clear ek C6 HXS HP7
          by_cases hz : n6 = 0
          · have EXN : Hid (rdP (i + 1) acc (LS.drop (i + 1)) = rdP 0 [] LS) := by
              show _ = _
              rw [← RR.out, rdP_skip]
              rw [← HWS.out]
              exact List.eq_nil_of_length_eq_zero (by rw [HN6.out]; exact hz)
            subst hz
            go_wp2
            go_roundw
            case rel => exact ⟨i + 1, acc, by omega, by go_num, ⟨Rs, X, P6.out⟩, by have := ML.out; omega, BB6.out, EXN.out⟩
            case measure => simp [intOf]; omega
          · have hz' : ¬ (n6 : Int) = 0 := by omega
            have NE : Hid (¬ wdsL x = []) := fun e => by
              rw [← HWS.out] at e
              have := HN6.out
              rw [e] at this
              exact hz this.symm
            have STX := hid (O6.out.strsA.2)
            have KL0 := sLine xs HW.out g6 n6 c6 HN6.out.symm wr STX.out
            unfold LnO at KL0
            obtain ⟨bv, hbv⟩ : ∃ b, b = pb (lnP xs) := ⟨_, rfl⟩
            rw [← hbv] at KL0
            have KL := hid KL0
            clear hz KL0
            go_wp2_with fail
            refine KL.out.mono ?_
            rintro e w7 ⟨⟨s, rfl, hPs⟩, hb7⟩
            have PS7 := hid hPs
            have B7 := hid hb7
            have P7 := hid (P6.out.below hb7)
            have BB7 := hid (BB6.out.trans (hb7.mono BB6.out.size))
            have RX7 := hid (RX6.out.below hb7 RX6.out.lt)
            have BW7 := hid (BW6.out.trans (hb7.mono BW6.out.size))
            clear hPs hb7 KL STX
            obtain ⟨W8, hW8⟩ : ∃ W, W = w7.alloc (.cells #[.int .i64 s.ef, .slice s.wo.ad s.wo.n s.wo.cap, .slice s.wa.ad s.wa.n s.wa.cap, .slice s.wi.ad s.wi.n s.wi.cap, .slice s.cs.ad s.cs.n s.cs.cap] 73) := ⟨_, rfl⟩
            have A8 : Hid (Below w7.heap.size w7 W8) := by rw [hW8]; exact (Below.refl _ _).alloc (Nat.le_refl _) _
            have R8 : Hid (RowAt W8 w7.heap.size 73 #[.int .i64 s.ef, .slice s.wo.ad s.wo.n s.wo.cap, .slice s.wa.ad s.wa.n s.wa.cap, .slice s.wi.ad s.wi.n s.wi.cap, .slice s.cs.ad s.cs.n s.cs.cap]) := by rw [hW8]; exact RowAt.new _ _ _
            have P8 := hid (P7.out.below A8.out)
            have BB8 := hid (BB7.out.trans (A8.out.mono BB7.out.size))
            have RX8 := hid (RX7.out.below A8.out RX7.out.lt)
            have BW8 := hid (BW7.out.trans (A8.out.mono BW7.out.size))
            have HBV := hid hbv
            clear hbv
            go_upto_region 17 with ((refine wpList_store_row rfl 73 (.tmp 9) (.tmp 54) rfl w7.heap.size #[.int .i64 s.ef, .slice s.wo.ad s.wo.n s.wo.cap, .slice s.wa.ad s.wa.n s.wa.cap, .slice s.wi.ad s.wi.n s.wi.cap, .slice s.cs.ad s.cs.n s.cs.cap] rfl rfl _ _ (RowAt.new w7 _ _) (by kernel_rfl) rfl (by simp [Value.oneCell']) ?_); rw [World.setRow_alloc_new])
            rw [← hW8]
            clear hW8 P7 BB7 RX7 BW7
            obtain ⟨X8, hX8⟩ : ∃ y, y = w7.heap.size := ⟨_, rfl⟩
            rw [← hX8] at R8 ⊢
            have HX8 := hid hX8
            clear hX8
            by_cases hln : lnP xs
            case neg =>
              have hbv := HBV.out.trans (pb_f hln)
              clear HBV
              subst hbv
              have FIN : Hid (polO t = (3, (i : Int) + 1, [])) := by
                show _ = _
                rw [hp.out, ← RR.out, rdP_syn NE.out]
                rw [← HWS.out]; exact hln
              clear hln
              go_wp2_with (refine wpList_store_row rfl 28 (.tmp 2) (.tmp 60) rfl w.heap.size #[.int .i64 3, .int .i64 ((i : Int) + 1), .slice none 0 0] rfl rfl _ _ RX8.out (by kernel_rfl) rfl (by simp [Value.oneCell']) ?_)
              exact rd_ret (RX8.out.setRow _) ⟨[], FIN.out, PolAt.nil _ _ (by rw [setRow_size]; exact BW8.out.size)⟩ (below_setRow BW8.out _ _ (Nat.le_refl _)) rfl
            have hbv := HBV.out.trans (pb_t hln)
            clear HBV
            subst hbv
            have PS := hid (PS7.out hln)
            have CN : Hid (s.cs.n = (sS xs).cs.length) := PS.out.lens.2.2.2
            have LNP := hid hln
            have PSB := hid (sS_B HW.out hln.1.1)
            have hcb : (sS xs).cs.length ≤ 1048576 := PSB.out.2.2.2.1
            have y4 := R8.out.cell 4
            obtain ⟨n4, hn4⟩ : ∃ y, y = s.cs.n := ⟨_, rfl⟩
            have HN4 := hid hn4
            have hn4b : n4 ≤ 1048576 := by rw [hn4, CN.out]; exact hcb
            have y4' : W8.cell? ⟨X8, 4, none⟩ = some (.slice s.cs.ad n4 s.cs.cap) := by rw [hn4]; exact y4
            clear hln hn4 y4
            by_cases h50 : m = 50
            · have d5 : ((m : Int) == 50) = true := by rw [h50]; rfl
              have FIN : Hid (polO t = (4, (i : Int) + 1, [])) := by
                show _ = _
                rw [hp.out, ← RR.out, rdP_cnt NE.out (by rw [← HWS.out]; exact LNP.out)]
                have := ML.out
                omega
              subst h50
              go_wp2_with (refine wpList_store_row rfl 28 (.tmp 2) (.tmp 72) rfl w.heap.size #[.int .i64 4, .int .i64 ((i : Int) + 1), .slice none 0 0] rfl rfl _ _ RX8.out (by kernel_rfl) rfl (by simp [Value.oneCell']) ?_)
              exact rd_ret (RX8.out.setRow _) ⟨[], FIN.out, PolAt.nil _ _ (by rw [setRow_size]; exact BW8.out.size)⟩ (below_setRow BW8.out _ _ (Nat.le_refl _)) rfl
            have h50' : ¬ (m : Int) = 50 := by omega
            have d5 : ((m : Int) == 50) = false := beq_eq_false_iff_ne.2 h50'
            by_cases h10 : n4 ≤ 10
            case neg =>
              have e10 : (10 : Int) < (n4 : Int) := by omega
              have FIN : Hid (polO t = (4, (i : Int) + 1, [])) := by
                show _ = _
                rw [hp.out, ← RR.out, rdP_cnt NE.out (by rw [← HWS.out]; exact LNP.out)]
                rw [← HWS.out, ← CN.out, ← HN4.out]
                omega
              go_wp2_with (refine wpList_store_row rfl 28 (.tmp 2) (.tmp 72) rfl w.heap.size #[.int .i64 4, .int .i64 ((i : Int) + 1), .slice none 0 0] rfl rfl _ _ RX8.out (by kernel_rfl) rfl (by simp [Value.oneCell']) ?_)
              exact rd_ret (RX8.out.setRow _) ⟨[], FIN.out, PolAt.nil _ _ (by rw [setRow_size]; exact BW8.out.size)⟩ (below_setRow BW8.out _ _ (Nat.le_refl _)) rfl
            have e10 : ¬ (10 : Int) < (n4 : Int) := by omega
            have NX : Hid (rdP (i + 1) (acc ++ [sS xs]) (LS.drop (i + 1)) = rdP 0 [] LS) := by
              show _ = _
              rw [← RR.out, rdP_ok NE.out (by rw [← HWS.out]; exact LNP.out), HWS.out]
              rw [← HWS.out, ← CN.out, ← HN4.out, ← ML.out]
              omega
            have PS8 := hid (PS.out.below A8.out)
            have BZ : Hid (X2 ≤ W8.heap.size) := by rw [HX2.out]; exact BB8.out.size
            go_upto_region 21 with fail
            rw [HN4.out] at y4'
            have z0 := R8.out.cell 0
            have z1 := R8.out.cell 1
            have z2 := R8.out.cell 2
            have z3 := R8.out.cell 3
            clear HN4
            go_wp2_with (refine append_st X2 W8 (by rfl) (.tmp 73) (.tmp 75) (by rfl) _ Rs s (by rfl) P8.out.own BZ.out (by rfl) (by have := HMR.out; omega) ?_; intro v9 w9 hO9 hg9)
            have P9 : Hid (PolAt w9 X2 v9 (acc ++ [sS xs])) := P8.out.snoc PS8.out (by have h1 := P6.out.hi; omega) (by have h1 := A8.out.size; omega) hO9 hg9
            have B9 : Hid (Below w2.heap.size w2 w9) := BB8.out.grown hg9 BB8.out.size fun k hk => by rw [← HX2.out]; exact (P8.out.own.row hk).1
            clear hO9 hg9 z0 z1 z2 z3 y4'
            go_wp2
            go_roundw
            case rel => exact ⟨i + 1, acc ++ [sS xs], by omega, by go_num, P9.out, by have := ML.out; simp; omega, B9.out, NX.out⟩
            case measure => simp [intOf]; omega
    · have d3 : ¬ (i : Int) < (n : Int) := by omega
      have FIN : Hid (polO t = (0, 0, acc)) := by
        show _ = _
        rw [hp.out, ← RR.out, List.drop_of_length_le (by have := HN.out; omega), rdP]
      have hX2w : Hid (w.heap.size + 1 ≤ X2) := by rw [HX2.out]; exact R2.out.lt
      go_wp2_with (refine wpList_store_row rfl 28 (.tmp 2) (.tmp 78) rfl w.heap.size #[.int .i64 0, .int .i64 0, .slice a4 m c4] rfl rfl _ _ RX.out (by kernel_rfl) rfl (by simp [Value.oneCell']) ?_)
      refine rd_ret (RX.out.setRow _) ⟨acc, FIN.out, ?_⟩ (below_setRow BW.out _ _ (Nat.le_refl _)) rfl
      have gs : wo.grownBy (wo.setRow w.heap.size #[.int .i64 0, .int .i64 0, .slice a4 m c4]) (some w.heap.size) := grown_setRow
      have hx2 := hX2w.out
      refine PolAt.monoB (B := X2) ⟨Rs, X, P0.out.own.keep fun g' cs' hb' hr' => ?_, P0.out.len, P0.out.lo, Nat.le_trans P0.out.hi gs.size, fun k hk => (P0.out.at_ k hk).keep fun g' t' cs' h1' h2' ht' hr' => ?_⟩ (by omega)
      · refine (gs.block g' hr'.lt fun e => ?_).trans hr'
        have e := Option.some.inj e
        have := (P0.out.own.row hb').1
        omega
      · refine (gs.block g' hr'.lt fun e => ?_).trans hr'
        have e := Option.some.inj e
        have := P0.out.mono 0 k (by omega) (Nat.le_of_lt hk)
        have := P0.out.lo
        omega
end Go.Proofs.YtmjolkagkeonfaaGreatDoor
