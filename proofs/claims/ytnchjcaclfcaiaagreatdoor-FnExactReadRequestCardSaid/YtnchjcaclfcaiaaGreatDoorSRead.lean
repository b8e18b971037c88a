import Derived.Test.YtnchjcaclfcaiaaGreatDoorRdO
namespace Go.Proofs.YtnchjcaclfcaiaaGreatDoor
open Go.RowKit
/-! The specification's ReadRequest. -/
/-- how things lie at the head of a line -/
structure RdTwo (w : World) (X6 : Nat) (S : List UInt8) (kf ln : Nat) (wr : World) (m p : ByteArray) (Q H : List Hp) (a1 : Option Addr) (c1 : Nat) (a2 : Option Addr) (c2 BH f : Nat) : Prop where
  row : RowAt wr X6 25 #[.string m, .string p, .slice a1 Q.length c1, .slice a2 H.length c2, .string ⟨#[]⟩]
  oq : OwnHp wr (X6 + 1) (.slice a1 Q.length c1) Q
  qb : ∀ g, (Value.slice a1 Q.length c1).ownBlock = some g → g < BH
  oh : OwnHp wr BH (.slice a2 H.length c2) H
  xb : X6 < BH
  bh : BH ≤ wr.heap.size
  hln : ln = H.length + 2
  rq : rqP (mkRq m p Q H ⟨#[]⟩)
  rd : rdO S = rdH m p Q f ln H (S.drop kf)
  fl : (S.drop kf).length < f
def RdSt (w : World) (X6 : Nat) (S : List UInt8) (kf ln : Nat) (wr : World) : Prop :=
  RowAt wr w.heap.size 35 #[.int .i64 0, .int .i64 0, .string ⟨#[]⟩, .string ⟨#[]⟩, .slice none 0 0, .slice none 0 0, .string ⟨#[]⟩, .int .i64 0] ∧ Below w.heap.size w wr ∧ ((ln = 1 ∧ kf = 0 ∧ RowAt wr X6 25 #[.string ⟨#[]⟩, .string ⟨#[]⟩, .slice none 0 0, .slice none 0 0, .string ⟨#[]⟩]) ∨ ∃ m p Q H a1 c1 a2 c2 BH f, RdTwo w X6 S kf ln wr m p Q H a1 c1 a2 c2 BH f)
theorem finO_rq {m m' p' : ByteArray} {a : List UInt8} {q : Option (List Hp)} {L : List Hp} (h : finO m a q = some (m', p', L)) : rqP (mkRq m' p' L [] ⟨#[]⟩) := by
  unfold finO at h
  cases q with
  | none => cases h
  | some L' =>
    dsimp only at h
    cases hu : unL a with
    | none => rw [hu] at h; cases h
    | some p =>
      rw [hu] at h
      dsimp only at h
      split at h
      · cases h; assumption
      · cases h
theorem fstO_rq {t : List UInt8} {m p : ByteArray} {L : List Hp} (h : fstO t = some (m, p, L)) : rqP (mkRq m p L [] ⟨#[]⟩) := by
  unfold fstO at h
  cases h1 : cutP [32] t with
  | none => rw [h1] at h; cases h
  | some x =>
    obtain ⟨a, b⟩ := x
    rw [h1] at h
    dsimp only at h
    cases h2 : cutP [63] b with
    | none => rw [h2] at h; exact finO_rq h
    | some y =>
      obtain ⟨c, e⟩ := y
      rw [h2] at h
      exact finO_rq h
theorem rdE_cons (m p : ByteArray) (Q H : List Hp) (line n : Nat) (c : UInt8) (B : List UInt8) : rdE m p Q H line n (c :: B) = if c = 10 then (if B.length < n then .short else .ok m p Q H (ofL (B.take n)) (B.length - n)) else .bad (line + 1) := rfl
theorem hps_of {w : World} {base : Nat} {a : Option Addr} {n c : Nat} {L : List Hp} (h : OwnHp w base (.slice a n c) L) (hn : n = L.length) : Hps w a L.length c (hAt L) := by
  obtain ⟨a', c', e, h'⟩ := h.hps
  subst hn
  cases e
  exact h'
theorem step_append_hp {P : Program} (base : Nat) (w : World) {ops : Array Oper} {op : Oper} {a : Act} {K : Act → World → Prop} {Q : Exit → Act → World → Prop} {E : Prop} (hgd : op.guard = none) (s x : Operand) (t : TypeId)
    (ho : op.op = .call { callee := .builtin .append, args := #[s, x], argTypes := #[t, t] })
    (ht : P.underlying t = some (.slice 54)) (hinfo : (P.info? 54).map (fun i => (i.zero, i.size, i.bytes)) = some (some hz2, 2, 32))
    (v : Value) (L : List Hp) (n y : ByteArray) (hs : a.eval s = v) (hown : OwnHp w base v L) (hsz : base ≤ w.heap.size)
    (b : Nat) (hbox : w.heap[b]? = some (.cells #[.string n, .string y] 54 (0, 0))) (hx : a.eval x = .slice (some ⟨b, 0, none⟩) 1 1) (hlen : L.length + 1 ≤ 1048576)
    (h : ∀ g cap w', OwnHp w' base (.slice (some ⟨g, 0, none⟩) (L.length + 1) cap) (L ++ [(⟨n, y⟩ : Hp)]) → w.grownBy w' v.ownBlock → K (a.put op.dst (.slice (some ⟨g, 0, none⟩) (L.length + 1) cap)) w') :
    if Region.wanted op (yielded ops a.tmps) = true then Oper.wp P op a w K Q else E := by
  obtain ⟨i0, hi, hz0, hz1, hz2⟩ := info_parts hinfo
  have R : RowAt w b 54 #[.string n, .string y] := hbox
  refine step_append_lies _ hgd s x t ho base 54 i0 _ 2 32 ht hi hz0 hz1 hz2 rfl (by decide) v L.length (hpL L) hs hown ⟨b, 0, none⟩ 1 1 (hpL [⟨n, y⟩]) hx rfl ?_ ?_ (by decide) ?_ ?_ hsz w.heap.size rfl ?_
  · intro j u hj
    have hadd : (⟨b, 0, none⟩ : Addr).add j = ⟨b, j, none⟩ := by unfold Addr.add; split <;> simp_all
    rw [hadd, R.cell]
    match j, hj with
    | 0, hj => exact hj
    | 1, hj => exact hj
  · intro u hu
    simp [hpL] at hu
    rcases hu with rfl | rfl <;> rfl
  · unfold maxLen; omega
  · omega
  · intro g cap w' h1 h2 _ _
    exact h g cap w' (by unfold OwnHp; rw [hpL_app, List.length_append]; exact h1) h2
theorem rq_bound {m p NM VL : ByteArray} {Q H : List Hp} {a1 a2 : Option Addr} {c1 nQ n8 c7 : Nat} (RQ : rqP (mkRq m p Q H ⟨#[]⟩)) (hQ : nQ = Q.length) (h8 : n8 = (H ++ [(⟨NM, VL⟩ : Hp)]).length) (nmz : NM.size ≤ 400000) (vlz : VL.size ≤ 400000) :
    RqB ⟨m, p, ⟨a1, nQ, c1, hAt Q⟩, ⟨a2, n8, c7, hAt (H ++ [(⟨NM, VL⟩ : Hp)])⟩, ⟨#[]⟩⟩ 1048576 := by
  have hQ30 : Q.length ≤ 30 := RQ.2.2.1.1
  have hH30 : H.length ≤ 30 := RQ.2.2.2.1.1
  have h8' : n8 = H.length + 1 := by rw [h8]; simp
  refine ⟨Nat.le_trans RQ.1.2.1 (by omega), Nat.le_trans RQ.2.1.2.1 (by omega), ⟨by dsimp only; omega, fun i hi => ?_⟩, ⟨by dsimp only; omega, fun i hi => ?_⟩, Nat.zero_le _⟩
  · have h1 := RQ.2.2.2.2.2.1 i (show i < Q.length by rw [← hQ]; exact hi)
    exact ⟨Nat.le_trans h1.2.1 (by omega), Nat.le_trans h1.2.2 (by omega)⟩
  · have hm := hAt_mem (L := H ++ [(⟨NM, VL⟩ : Hp)]) (i := i) (by rw [← h8]; exact hi)
    show (hAt (H ++ [(⟨NM, VL⟩ : Hp)]) i).nm.size ≤ _ ∧ (hAt (H ++ [(⟨NM, VL⟩ : Hp)]) i).vl.size ≤ _
    rcases List.mem_append.1 hm with hm | hm
    · obtain ⟨j, hj, e⟩ := List.getElem_of_mem hm
      have h1 := RQ.2.2.2.2.2.2 j hj
      have e2 : hAt H j = hAt (H ++ [(⟨NM, VL⟩ : Hp)]) i := by
        rw [← e]
        unfold hAt
        rw [List.getD_eq_getElem?_getD, List.getElem?_eq_getElem hj]
        rfl
      rw [show (mkRq m p Q H ⟨#[]⟩).hs.o j = hAt H j from rfl, e2] at h1
      exact ⟨Nat.le_trans h1.1.2.1 (by omega), Nat.le_trans h1.2.1 (by omega)⟩
    · rw [List.mem_singleton.1 hm]
      exact ⟨Nat.le_trans nmz (by omega), Nat.le_trans vlz (by omega)⟩
theorem readO_out {d : ByteArray} {a : Int} (h : ¬ (0 ≤ a ∧ a ≤ (d.size : Int))) : readO d a = .bad 1 := by unfold readO; rw [if_neg h]
theorem readO_in {d : ByteArray} {k : Nat} (h : k ≤ d.size) : readO d (k : Int) = rdO ((d.data.toList.drop k).take 400000) := by
  unfold readO
  rw [if_pos ⟨by omega, by omega⟩, Int.toNat_natCast]
theorem ext_cut (d : ByteArray) (k : Nat) : ((d.extract k d.size).extract 0 400000).data.toList = (d.data.toList.drop k).take 400000 := by rw [ext_take, ext_end]
theorem ext_all {d : ByteArray} {k : Nat} (h : (d.extract k d.size).size ≤ 400000) : (d.extract k d.size).data.toList = (d.data.toList.drop k).take 400000 := by
  rw [ext_end, List.take_of_length_le]
  rw [← ext_end, baLen]
  exact h
set_option maxRecDepth 20000 in
set_option maxHeartbeats 8000000 in
theorem sRead (d : ByteArray) (hd : d.size ≤ 1048576) (a : Int) (ha : a ≤ 9223372036854775807) (w : World) :
    Calls Tryz.prog 15 #[.string d, .int .i64 a] w fun e w' => AnsRd d a w e w' := by
  have A0 : Hid (RowAt (w.alloc (.cells #[.int .i64 0, .int .i64 0, .string ⟨#[]⟩, .string ⟨#[]⟩, .slice none 0 0, .slice none 0 0, .string ⟨#[]⟩, .int .i64 0] 35)) w.heap.size 35 #[.int .i64 0, .int .i64 0, .string ⟨#[]⟩, .string ⟨#[]⟩, .slice none 0 0, .slice none 0 0, .string ⟨#[]⟩, .int .i64 0]) := RowAt.new _ _ _
  have B0 : Hid (Below w.heap.size w (w.alloc (.cells #[.int .i64 0, .int .i64 0, .string ⟨#[]⟩, .string ⟨#[]⟩, .slice none 0 0, .slice none 0 0, .string ⟨#[]⟩, .int .i64 0] 35))) := (Below.refl _ _).alloc (Nat.le_refl _) _
  by_cases h0 : 0 ≤ a
  case neg =>
    have d0 : a < 0 := by omega
    have F := hid (readO_out (d := d) (a := a) fun h => h0 h.1)
    go_enter Tryz.func15, Tryz.ntmps15
    go_wp2_with (refine wpList_store_row rfl 35 (.tmp 4) (.tmp 24) rfl w.heap.size #[.int .i64 3, .int .i64 1, .string ⟨#[]⟩, .string ⟨#[]⟩, .slice none 0 0, .slice none 0 0, .string ⟨#[]⟩, .int .i64 0] rfl rfl _ _ A0.out (by kernel_rfl) rfl (by simp [Value.oneCell']) ?_)
    have RR := A0.out.setRow #[.int .i64 3, .int .i64 1, .string ⟨#[]⟩, .string ⟨#[]⟩, .slice none 0 0, .slice none 0 0, .string ⟨#[]⟩, .int .i64 0]
    refine bodyPost_ret (v := .agg #[.int .i64 3, .int .i64 1, .string ⟨#[]⟩, .string ⟨#[]⟩, .slice none 0 0, .slice none 0 0, .string ⟨#[]⟩, .int .i64 0]) (results_cell_row Tryz.results15 _ _ w.heap.size _ _ _ _ rfl RR Tryz.underlying35 rfl (by kernel_rfl)) rfl ?_
    exact AnsRd.bad 1 F.out _ (below_setRow B0.out _ _ (Nat.le_refl _))
  obtain ⟨k, rfl⟩ := Int.eq_ofNat_of_zero_le h0
  have d0 : ¬ (k : Int) < 0 := by omega
  by_cases h1 : k ≤ d.size
  case neg =>
    have d1 : (d.size : Int) < (k : Int) := by omega
    have F := hid (readO_out (d := d) (a := (k : Int)) fun h => by have := h.2; omega)
    go_enter Tryz.func15, Tryz.ntmps15
    go_wp2_with (refine wpList_store_row rfl 35 (.tmp 4) (.tmp 24) rfl w.heap.size #[.int .i64 3, .int .i64 1, .string ⟨#[]⟩, .string ⟨#[]⟩, .slice none 0 0, .slice none 0 0, .string ⟨#[]⟩, .int .i64 0] rfl rfl _ _ A0.out (by kernel_rfl) rfl (by simp [Value.oneCell']) ?_)
    have RR := A0.out.setRow #[.int .i64 3, .int .i64 1, .string ⟨#[]⟩, .string ⟨#[]⟩, .slice none 0 0, .slice none 0 0, .string ⟨#[]⟩, .int .i64 0]
    refine bodyPost_ret (v := .agg #[.int .i64 3, .int .i64 1, .string ⟨#[]⟩, .string ⟨#[]⟩, .slice none 0 0, .slice none 0 0, .string ⟨#[]⟩, .int .i64 0]) (results_cell_row Tryz.results15 _ _ w.heap.size _ _ _ _ rfl RR Tryz.underlying35 rfl (by kernel_rfl)) rfl ?_
    exact AnsRd.bad 1 F.out _ (below_setRow B0.out _ _ (Nat.le_refl _))
  have d1 : ¬ (d.size : Int) < (k : Int) := by omega
  have d2 : (k : Int) ≤ (d.size : Int) := by omega
  have RI := hid (readO_in h1)
  have RC := hid (ext_cut d k)
  have RA := hid (ext_all (d := d) (k := k))
  have es : (d.extract k d.size).size = d.size - k := by rw [ByteArray.size_extract]; omega
  have es2 : (d.extract k d.size).extract 0 400000 = (d.extract k d.size).extract 0 400000 ∧ ((d.extract k d.size).extract 0 400000).size = min (d.size - k) 400000 := ⟨rfl, by rw [ByteArray.size_extract, es]; omega⟩
  have ES := hid es2.2
  obtain ⟨W0, hW0⟩ : ∃ W, W = w.alloc (.cells #[.int .i64 0, .int .i64 0, .string ⟨#[]⟩, .string ⟨#[]⟩, .slice none 0 0, .slice none 0 0, .string ⟨#[]⟩, .int .i64 0] 35) := ⟨_, rfl⟩
  rw [← hW0] at A0 B0
  clear es2 ha h0
  go_enter Tryz.func15, Tryz.ntmps15
  go_upto_region 4 with fail
  rw [← hW0]
  clear hW0
  have ESZ := hid es
  clear es
  generalize d.extract k d.size = D at RC RA ES ESZ ⊢
  by_cases hD : D.size ≤ 400000
  · have dD : ¬ (400000 : Int) < (D.size : Int) := by omega
    have SL := hid (RA.out hD)
    have SS : Hid (D.size = min (d.size - k) 400000) := by show _ = _; rw [ESZ.out]; have := ESZ.out; omega
    clear RC RA ES ESZ
    obtain ⟨S, hS⟩ : ∃ S, S = D := ⟨_, rfl⟩
    rw [← hS] at SL SS hD dD ⊢
    clear hS
    have s9 : S.size ≤ 400000 := by omega
    go_wp2_with fail
    obtain ⟨W1, hW1⟩ : ∃ W, W = W0.alloc (.cells #[.string ⟨#[]⟩, .string ⟨#[]⟩, .slice none 0 0, .slice none 0 0, .string ⟨#[]⟩] 25) := ⟨_, rfl⟩
    have A1 : Hid (RowAt W1 w.heap.size 35 #[.int .i64 0, .int .i64 0, .string ⟨#[]⟩, .string ⟨#[]⟩, .slice none 0 0, .slice none 0 0, .string ⟨#[]⟩, .int .i64 0]) := by rw [hW1]; exact A0.out.alloc _
    have R1 : Hid (RowAt W1 W0.heap.size 25 #[.string ⟨#[]⟩, .string ⟨#[]⟩, .slice none 0 0, .slice none 0 0, .string ⟨#[]⟩]) := by rw [hW1]; exact RowAt.new _ _ _
    have B1 : Hid (Below w.heap.size w W1) := by rw [hW1]; exact B0.out.alloc B0.out.size _
    have x6 : w.heap.size < W0.heap.size := A0.out.lt
    obtain ⟨X6, hX6⟩ : ∃ X, X = W0.heap.size := ⟨_, rfl⟩
    rw [← hW1]
    rw [← hX6] at R1 x6 ⊢
    clear hW1 hX6 A0 B0
    go_loopw [7, 8] (fun fv lv wr => ∃ kf ln : Nat, fv = .int .i64 (kf : Int) ∧ lv = .int .i64 (ln : Int) ∧ kf ≤ S.size ∧ RdSt w X6 S.data.toList kf ln wr) (fun fv _ _ => S.size + 1 - (intOf fv).toNat)
    case atStart => exact ⟨0, 1, rfl, rfl, Nat.zero_le _, A1.out, B1.out, .inl ⟨rfl, rfl, R1.out⟩⟩
    case round =>
      obtain ⟨kf, ln, rfl, rfl, hkf, hA4, hB, hph⟩ := hrel
      clear A1 R1 B1
      have A4 := hid hA4
      have BW := hid hB
      have PH := hid hph
      clear hA4 hB hph
      have KI := hid (sIdx S ⟨#[10]⟩ kf (by omega) (by decide) (by decide) hkf (kf : Int) rfl wr)
      have SHORT : Hid (cutP [10] (S.data.toList.drop kf) = none → readO d (k : Int) = .short) := fun hc => by
        rw [RI.out, ← SL.out]
        rcases PH.out with ⟨rfl, rfl, _⟩ | ⟨m, p, Q, H, a1, c1, a2, c2, BH, f, h⟩
        · rw [List.drop_zero] at hc; exact rdO_none hc
        · obtain ⟨f, rfl⟩ : ∃ g, f = g + 1 := ⟨f - 1, by have := h.fl; omega⟩
          rw [h.rd, rdH_none hc]
      go_wp2_with fail
      refine KI.out.mono ?_
      rintro e w2 ⟨⟨z, rfl, hz⟩, hw2⟩
      obtain rfl := hw2.symm
      rcases hz with ⟨rfl, hc⟩ | ⟨i, rfl, hi, hc⟩
      · have F := hid (SHORT.out hc)
        clear hc KI SHORT
        go_wp2_with (refine wpList_store_row rfl 35 (.tmp 4) (.tmp 41) rfl w.heap.size #[.int .i64 2, .int .i64 0, .string ⟨#[]⟩, .string ⟨#[]⟩, .slice none 0 0, .slice none 0 0, .string ⟨#[]⟩, .int .i64 0] rfl rfl _ _ A4.out (by kernel_rfl) rfl (by simp [Value.oneCell']) ?_)
        have RR := A4.out.setRow #[.int .i64 2, .int .i64 0, .string ⟨#[]⟩, .string ⟨#[]⟩, .slice none 0 0, .slice none 0 0, .string ⟨#[]⟩, .int .i64 0]
        refine bodyPost_ret (v := .agg #[.int .i64 2, .int .i64 0, .string ⟨#[]⟩, .string ⟨#[]⟩, .slice none 0 0, .slice none 0 0, .string ⟨#[]⟩, .int .i64 0]) (results_cell_row Tryz.results15 _ _ w.heap.size _ _ _ _ rfl RR Tryz.underlying35 rfl (by kernel_rfl)) rfl ?_
        exact AnsRd.short F.out _ (below_setRow BW.out _ _ (Nat.le_refl _))
      clear SHORT KI
      have hi1 : kf + i + 1 ≤ S.size := hi
      have CC : Hid (cutP [10] (S.data.toList.drop kf) = some ((S.extract kf (kf + i)).data.toList, S.data.toList.drop (kf + i + 1))) := by
        show _ = _
        rw [show ([10] : List UInt8) = (⟨#[10]⟩ : ByteArray).data.toList from rfl, hc, ext_mid, ← List.take_drop, List.drop_drop]
        rfl
      have ts : (S.extract kf (kf + i)).size ≤ 400000 := by rw [ByteArray.size_extract]; omega
      clear hc hi
      have i0 : (0 : Int) ≤ (kf : Int) := by omega
      have i1 : (kf : Int) ≤ (kf : Int) + (i : Int) := by omega
      have i2 : (kf : Int) + (i : Int) ≤ (S.size : Int) := by omega
      have i3 : ¬ (kf : Int) + (i : Int) < 0 := by omega
      have ln9 : ln ≤ 40 := by
        rcases PH.out with ⟨rfl, _, _⟩ | ⟨m, p, Q, H, a1, c1, a2, c2, BH, f, h⟩
        · omega
        · have h1 := h.hln; have h2 : H.length ≤ 30 := h.rq.2.2.2.1.1; omega
      go_upto_region 16 with fail
      generalize S.extract kf (kf + i) = t at CC ts ⊢
      obtain ⟨W3, hW3⟩ : ∃ W, W = wr.alloc (.cells #[.int .i64 3, .int .i64 (ln : Int), .string ⟨#[]⟩, .string ⟨#[]⟩, .slice none 0 0, .slice none 0 0, .string ⟨#[]⟩, .int .i64 0] 35) := ⟨_, rfl⟩
      have A4a : Hid (RowAt W3 w.heap.size 35 #[.int .i64 0, .int .i64 0, .string ⟨#[]⟩, .string ⟨#[]⟩, .slice none 0 0, .slice none 0 0, .string ⟨#[]⟩, .int .i64 0]) := by rw [hW3]; exact A4.out.alloc _
      have BD : Hid (RowAt W3 wr.heap.size 35 #[.int .i64 3, .int .i64 (ln : Int), .string ⟨#[]⟩, .string ⟨#[]⟩, .slice none 0 0, .slice none 0 0, .string ⟨#[]⟩, .int .i64 0]) := by rw [hW3]; exact RowAt.new _ _ _
      have B3 : Hid (Below w.heap.size w W3) := by rw [hW3]; exact BW.out.alloc BW.out.size _
      have B3w : Hid (Below wr.heap.size wr W3) := by rw [hW3]; exact (Below.refl _ _).alloc (Nat.le_refl _) _
      have xb : w.heap.size < wr.heap.size := A4.out.lt
      obtain ⟨X11, hX⟩ : ∃ X, X = wr.heap.size := ⟨_, rfl⟩
      rw [← hW3]
      rw [← hX] at BD xb ⊢
      have XE := hid hX
      clear hW3 i0 i1 i2 i3 BW hX
      rcases PH.out with ⟨e1, e2, hr6⟩ | ⟨m, p, Q, H, a1, c1, a2, c2, BH, f, h⟩
      · have E1 := hid e1
        have E2 := hid e2
        have l1 : ((ln : Int) == 1) = true := by rw [e1]; rfl
        have R6 := hid (hr6.below B3w.out hr6.lt)
        have X6w : X6 < wr.heap.size := hr6.lt
        clear e1 e2 hr6 PH B3w A4
        have KF := hid (sFirst t ts W3)
        go_wp2_with fail
        refine KF.out.mono ?_
        rintro e w4 ⟨m, p, v, L, b, rfl, hO, hb4, hT, hF⟩
        have A4 := hid (A4a.out.below hb4 A4a.out.lt)
        have BDa := hid (BD.out.below hb4 BD.out.lt)
        have R6a := hid (R6.out.below hb4 R6.out.lt)
        have B4 := hid (B3.out.trans (hb4.mono B3.out.size))
        have X3 : X6 < W3.heap.size := R6.out.lt
        have w3s : w.heap.size + 1 ≤ W3.heap.size := A4a.out.lt
        have w34 : W3.heap.size ≤ w4.heap.size := hb4.size
        obtain ⟨av, vc, rfl, _⟩ := hO.hps
        have OW := hid hO
        obtain ⟨nL, hnL⟩ : ∃ n, n = L.length := ⟨_, rfl⟩
        rw [← hnL]
        have OW2 : Hid (OwnHp w4 W3.heap.size (.slice av nL vc) L) := by rw [hnL]; exact OW.out
        have HnL := hid hnL
        clear hO hb4 A4a BD R6 B3 KF OW hnL
        cases b with
        | false =>
          have F : Hid (readO d (k : Int) = .bad ln) := by
            show _ = _
            rw [RI.out, ← SL.out, E1.out]
            have := CC.out
            rw [E2.out, List.drop_zero] at this
            exact rdO_bad this (hF rfl)
          clear hT hF CC E1 E2
          go_upto_region 18 with fail
          obtain ⟨W5, hW5⟩ : ∃ W, W = w4.alloc (.cells #[.string m, .string p, .slice av nL vc, .slice none 0 0, .string ⟨#[]⟩] 25) := ⟨_, rfl⟩
          have A5 : Hid (RowAt W5 w.heap.size 35 #[.int .i64 0, .int .i64 0, .string ⟨#[]⟩, .string ⟨#[]⟩, .slice none 0 0, .slice none 0 0, .string ⟨#[]⟩, .int .i64 0]) := by rw [hW5]; exact A4.out.alloc _
          have BD5 : Hid (RowAt W5 X11 35 #[.int .i64 3, .int .i64 (ln : Int), .string ⟨#[]⟩, .string ⟨#[]⟩, .slice none 0 0, .slice none 0 0, .string ⟨#[]⟩, .int .i64 0]) := by rw [hW5]; exact BDa.out.alloc _
          have B5 : Hid (Below w.heap.size w W5) := by rw [hW5]; exact B4.out.alloc B4.out.size _
          rw [← hW5]
          clear hW5 A4 BDa B4 R6a
          have b0 := BD5.out.cell 0
          have b1 := BD5.out.cell 1
          have b2 := BD5.out.cell 2
          have b3 := BD5.out.cell 3
          have b4 := BD5.out.cell 4
          have b5 := BD5.out.cell 5
          have b6 := BD5.out.cell 6
          have b7 := BD5.out.cell 7
          go_wp2_with (refine wpList_store_row rfl 35 (.tmp 4) (.tmp 59) rfl w.heap.size #[.int .i64 3, .int .i64 (ln : Int), .string ⟨#[]⟩, .string ⟨#[]⟩, .slice none 0 0, .slice none 0 0, .string ⟨#[]⟩, .int .i64 0] rfl rfl _ _ A5.out (by kernel_rfl) rfl (by simp [Value.oneCell']) ?_)
          have RR := A5.out.setRow #[.int .i64 3, .int .i64 (ln : Int), .string ⟨#[]⟩, .string ⟨#[]⟩, .slice none 0 0, .slice none 0 0, .string ⟨#[]⟩, .int .i64 0]
          refine bodyPost_ret (v := .agg #[.int .i64 3, .int .i64 (ln : Int), .string ⟨#[]⟩, .string ⟨#[]⟩, .slice none 0 0, .slice none 0 0, .string ⟨#[]⟩, .int .i64 0]) (results_cell_row Tryz.results15 _ _ w.heap.size _ _ _ _ rfl RR Tryz.underlying35 rfl (by kernel_rfl)) rfl ?_
          exact AnsRd.bad ln F.out _ (below_setRow B5.out _ _ (Nat.le_refl _))
        | true =>
          have HT := hid (hT rfl)
          have RQ := hid (fstO_rq (hT rfl))
          clear hT hF
          go_upto_region 18 with fail
          obtain ⟨W5, hW5⟩ : ∃ W, W = w4.alloc (.cells #[.string m, .string p, .slice av nL vc, .slice none 0 0, .string ⟨#[]⟩] 25) := ⟨_, rfl⟩
          have A5 : Hid (RowAt W5 w.heap.size 35 #[.int .i64 0, .int .i64 0, .string ⟨#[]⟩, .string ⟨#[]⟩, .slice none 0 0, .slice none 0 0, .string ⟨#[]⟩, .int .i64 0]) := by rw [hW5]; exact A4.out.alloc _
          have R65 : Hid (RowAt W5 X6 25 #[.string ⟨#[]⟩, .string ⟨#[]⟩, .slice none 0 0, .slice none 0 0, .string ⟨#[]⟩]) := by rw [hW5]; exact R6a.out.alloc _
          have X12 : Hid (RowAt W5 w4.heap.size 25 #[.string m, .string p, .slice av nL vc, .slice none 0 0, .string ⟨#[]⟩]) := by rw [hW5]; exact RowAt.new _ _ _
          have B5 : Hid (Below w.heap.size w W5) := by rw [hW5]; exact B4.out.alloc B4.out.size _
          have OW5 : Hid (OwnHp W5 W3.heap.size (.slice av nL vc) L) := by rw [hW5]; exact World.ownsRow.alloc OW2.out _
          have w45 : W3.heap.size ≤ W5.heap.size := by rw [hW5]; simp; omega
          have x12 : w4.heap.size ≠ X6 := by omega
          obtain ⟨XX, hXX⟩ : ∃ X, X = w4.heap.size := ⟨_, rfl⟩
          rw [← hW5]
          rw [← hXX] at X12 x12 ⊢
          clear hW5 hXX A4 BDa B4 R6a OW2
          have b0 := X12.out.cell 0
          have b1 := X12.out.cell 1
          have b2 := X12.out.cell 2
          have b3 := X12.out.cell 3
          have b4 := X12.out.cell 4
          go_wp2_with (refine wpList_store_row rfl 25 (.tmp 6) (.tmp 60) rfl X6 #[.string m, .string p, .slice av nL vc, .slice none 0 0, .string ⟨#[]⟩] rfl rfl _ _ R65.out (by kernel_rfl) rfl (by simp [Value.oneCell']) ?_)
          go_roundw
          case rel => exact ⟨kf + i + 1, ln + 1, by go_num, by go_num, by omega, A5.out.otherRow _ _ (by omega), below_setRow B5.out _ _ (by omega), .inr ⟨m, p, L, [], av, vc, none, 0, W5.heap.size, (S.data.toList.drop (kf + i + 1)).length + 1, by rw [← HnL.out]; exact R65.out.setRow _, by rw [← HnL.out]; exact (OW5.out.setRow X3 _).mono X3, by rw [← HnL.out]; exact fun g hg => (World.ownsRow.lt OW5.out g hg).2, OwnHp.nil _ _, R65.out.lt, by rw [setRow_size]; exact Nat.le_refl _, by rw [E1.out]; rfl, RQ.out, by have := CC.out; rw [E2.out, List.drop_zero] at this; rw [rdO_go this HT.out, E1.out, E2.out], Nat.lt_succ_self _⟩⟩
          case measure => simp [intOf]; omega
      · obtain ⟨f, rfl⟩ : ∃ g, f = g + 1 := ⟨f - 1, by have := h.fl; omega⟩
        have LN := hid h.hln
        have RQ := hid h.rq
        have RD := hid h.rd
        have FL : Hid ((S.data.toList.drop (kf + i + 1)).length < f) := by show _ < _; have := h.fl; rw [List.length_drop, baLen] at this ⊢; omega
        have XBH := h.xb
        have BHW : BH ≤ wr.heap.size := h.bh
        have QB := hid h.qb
        have HBk : Hid (∀ g, (Value.slice a2 H.length c2).ownBlock = some g → BH ≤ g ∧ g < X11) := fun g hg => by rw [XE.out]; exact World.ownsRow.lt h.oh g hg
        have ROWa := hid (h.row.below B3w.out h.row.lt)
        have OQa := hid (OwnHp.next B3w.out h.oq)
        have OHa := hid (OwnHp.next B3w.out h.oh)
        have BH3 : BH ≤ W3.heap.size := Nat.le_trans BHW B3w.out.size
        have X6p : w.heap.size < X6 := x6
        have hQ30 : Q.length ≤ 30 := h.rq.2.2.1.1
        have hH30 : H.length ≤ 30 := h.rq.2.2.2.1.1
        obtain ⟨nQ, hnQ⟩ : ∃ n, n = Q.length := ⟨_, rfl⟩
        obtain ⟨nH, hnH⟩ : ∃ n, n = H.length := ⟨_, rfl⟩
        have ROW : Hid (RowAt W3 X6 25 #[.string m, .string p, .slice a1 nQ c1, .slice a2 nH c2, .string ⟨#[]⟩]) := by rw [hnQ, hnH]; exact ROWa.out
        have OQ : Hid (OwnHp W3 (X6 + 1) (.slice a1 nQ c1) Q) := by rw [hnQ]; exact OQa.out
        have OH : Hid (OwnHp W3 BH (.slice a2 nH c2) H) := by rw [hnH]; exact OHa.out
        rw [← hnH] at HBk hH30 LN
        rw [← hnQ] at QB hQ30
        have HnQ := hid hnQ
        have HnH := hid hnH
        have l1 : ((ln : Int) == 1) = false := by rw [beq_eq_false_iff_ne]; have := LN.out; omega
        replace A4 := A4a
        have BB := B3
        clear h ROWa OQa OHa B3 PH B3w hnQ hnH
        have KB := hid (sBegins t ⟨#[108, 101, 110, 103, 116, 104, 58, 32]⟩ (by omega) (by decide) W3)
        go_wp2_with fail
        refine KB.out.mono ?_
        rintro e w4 ⟨rfl, hw4⟩
        obtain rfl := hw4.symm
        clear KB
        by_cases hlen : lenS <+: t.data.toList
        · rw [pb_t (show bgP t ⟨#[108, 101, 110, 103, 116, 104, 58, 32]⟩ from hlen)]
          have t8 : 8 ≤ t.size := ((bgP_iff t ⟨#[108, 101, 110, 103, 116, 104, 58, 32]⟩).1 hlen).1
          have t8i : (8 : Int) ≤ (t.size : Int) := by omega
          have NTL := hid (ext_end t 8)
          have ntz : (t.extract 8 t.size).size ≤ 400000 := by rw [ByteArray.size_extract]; omega
          have BADL : Hid (¬ lnP (t.data.toList.drop 8) → readO d (k : Int) = .bad ln) := fun hn => by rw [RI.out, ← SL.out, RD.out, rdH_lenBad CC.out hlen hn]
          have OKL : Hid (lnP (t.data.toList.drop 8) → readO d (k : Int) = rdE m p Q H ln (numL (t.extract 8 t.size).data.toList) (S.data.toList.drop (kf + i + 1))) := fun hn => by rw [RI.out, ← SL.out, RD.out, rdH_len CC.out hlen hn, NTL.out]
          have LNU : Hid (lnP (t.data.toList.drop 8) → dgP (t.extract 8 t.size) 6 ∧ numL (t.extract 8 t.size).data.toList ≤ 100000 ∧ ofL (Lib.decDigits (numL (t.extract 8 t.size).data.toList)) = t.extract 8 t.size) := fun ⟨n, h1, h2⟩ => by
            rw [← NTL.out] at h2
            have e : numL (t.extract 8 t.size).data.toList = n := by rw [h2, numL_dec]
            rw [e]
            exact ⟨dgP_dec (d := 5) h2 (by omega), h1, (ofL_of h2).symm⟩
          have LNI : Hid (numL (t.extract 8 t.size).data.toList ≤ 100000 → ofL (Lib.decDigits (numL (t.extract 8 t.size).data.toList)) = t.extract 8 t.size → lnP (t.data.toList.drop 8)) := fun h1 h2 => ⟨_, h1, by rw [← NTL.out]; conv => lhs; rw [← h2, ofL_l]⟩
          have KN := hid (sNumber (t.extract 8 t.size) (by omega) 6 (by omega) W3)
          go_wp2_with fail
          refine KN.out.mono ?_
          rintro e w5 ⟨rfl, hw5⟩
          obtain rfl := hw5.symm
          clear KN
          by_cases hdg : dgP (t.extract 8 t.size) 6
          case neg =>
            rw [numV_f hdg]
            have F := hid (BADL.out fun hh => hdg (LNU.out hh).1)
            clear BADL OKL LNU LNI hdg hlen
            go_wp2_with fail
            go_quiet (fail)
            have ROWz := hid (ROW.out.drewN nq)
            have OQz : Hid (OwnHp _ _ _ _) := OQ.out
            have OHz : Hid (OwnHp _ _ _ _) := OH.out
            have A4z := hid (A4.out.drewN nq)
            have BDz := hid (BD.out.drewN nq)
            have BBz := hid (below_drewN BB.out nq)
            clear ROW OQ OH A4 BD BB
            have b0 := BDz.out.cell 0
            have b1 := BDz.out.cell 1
            have b2 := BDz.out.cell 2
            have b3 := BDz.out.cell 3
            have b4 := BDz.out.cell 4
            have b5 := BDz.out.cell 5
            have b6 := BDz.out.cell 6
            have b7 := BDz.out.cell 7
            go_wp2_with (refine wpList_store_row rfl 35 (.tmp 4) (.tmp 79) rfl w.heap.size #[.int .i64 3, .int .i64 (ln : Int), .string ⟨#[]⟩, .string ⟨#[]⟩, .slice none 0 0, .slice none 0 0, .string ⟨#[]⟩, .int .i64 0] rfl rfl _ _ A4z.out (by kernel_rfl) rfl (by simp [Value.oneCell']) ?_)
            have RR := A4z.out.setRow #[.int .i64 3, .int .i64 (ln : Int), .string ⟨#[]⟩, .string ⟨#[]⟩, .slice none 0 0, .slice none 0 0, .string ⟨#[]⟩, .int .i64 0]
            refine bodyPost_ret (v := .agg #[.int .i64 3, .int .i64 (ln : Int), .string ⟨#[]⟩, .string ⟨#[]⟩, .slice none 0 0, .slice none 0 0, .string ⟨#[]⟩, .int .i64 0]) (results_cell_row Tryz.results15 _ _ w.heap.size _ _ _ _ rfl RR Tryz.underlying35 rfl (by kernel_rfl)) rfl ?_
            exact AnsRd.bad ln F.out _ (below_setRow BBz.out _ _ (Nat.le_refl _))
          rw [numV_t hdg]
          have DGD := hid (fun (n : Nat) hn wx => sDecI (n : Int) n rfl hn wx)
          have DLE := hid dec_len
          obtain ⟨N, hN⟩ : ∃ N, N = numL (t.extract 8 t.size).data.toList := ⟨_, rfl⟩
          rw [← hN] at LNU LNI OKL ⊢
          clear hN hdg
          have n0 : ¬ (N : Int) < 0 := by omega
          by_cases hN : N ≤ 100000
          case neg =>
            have n1 : (100000 : Int) < (N : Int) := by omega
            have F := hid (BADL.out fun hh => hN (LNU.out hh).2.1)
            clear BADL OKL LNU LNI hN hlen DGD DLE
            go_wp2_with fail
            go_quiet (fail)
            have ROWz := hid (ROW.out.drewN nq)
            have OQz : Hid (OwnHp _ _ _ _) := OQ.out
            have OHz : Hid (OwnHp _ _ _ _) := OH.out
            have A4z := hid (A4.out.drewN nq)
            have BDz := hid (BD.out.drewN nq)
            have BBz := hid (below_drewN BB.out nq)
            clear ROW OQ OH A4 BD BB
            have b0 := BDz.out.cell 0
            have b1 := BDz.out.cell 1
            have b2 := BDz.out.cell 2
            have b3 := BDz.out.cell 3
            have b4 := BDz.out.cell 4
            have b5 := BDz.out.cell 5
            have b6 := BDz.out.cell 6
            have b7 := BDz.out.cell 7
            go_wp2_with (refine wpList_store_row rfl 35 (.tmp 4) (.tmp 79) rfl w.heap.size #[.int .i64 3, .int .i64 (ln : Int), .string ⟨#[]⟩, .string ⟨#[]⟩, .slice none 0 0, .slice none 0 0, .string ⟨#[]⟩, .int .i64 0] rfl rfl _ _ A4z.out (by kernel_rfl) rfl (by simp [Value.oneCell']) ?_)
            have RR := A4z.out.setRow #[.int .i64 3, .int .i64 (ln : Int), .string ⟨#[]⟩, .string ⟨#[]⟩, .slice none 0 0, .slice none 0 0, .string ⟨#[]⟩, .int .i64 0]
            refine bodyPost_ret (v := .agg #[.int .i64 3, .int .i64 (ln : Int), .string ⟨#[]⟩, .string ⟨#[]⟩, .slice none 0 0, .slice none 0 0, .string ⟨#[]⟩, .int .i64 0]) (results_cell_row Tryz.results15 _ _ w.heap.size _ _ _ _ rfl RR Tryz.underlying35 rfl (by kernel_rfl)) rfl ?_
            exact AnsRd.bad ln F.out _ (below_setRow BBz.out _ _ (Nat.le_refl _))
          have n1 : decide ((100000 : Int) < (N : Int)) = false := by rw [decide_eq_false_iff_not]; omega
          have n0d : decide ((N : Int) < 0) = false := by rw [decide_eq_false_iff_not]; omega
          have DC := fun wx => hid (DGD.out N (by omega) wx)
          clear DGD DLE
          obtain ⟨DD, hDD⟩ : ∃ b, b = ofL (Lib.decDigits N) := ⟨_, rfl⟩
          rw [← hDD] at DC LNU LNI
          clear hDD
          go_upto_region 23 with fail
          go_region_held3 (fun _ => True) (trivial) ((go_at_call 47; refine (DC _).out.mono ?_; rintro e w5 ⟨rfl, hb5⟩; (first | have hb5w : Hid (Below W3.heap.size W3 w5) := hb5 | have hb5w : Hid (Below W3.heap.size W3 w5) := (Below.refl _ W3).drew.trans hb5); clear hb5))
          have ROWb := hid (ROW.out.below hb5w.out ROW.out.lt)
          have OQb := hid (OwnHp.next hb5w.out OQ.out)
          have OHb := hid (OwnHp.next hb5w.out OH.out)
          have A4b := hid (A4.out.below hb5w.out A4.out.lt)
          have BDb := hid (BD.out.below hb5w.out BD.out.lt)
          have BBb := hid (BB.out.trans (hb5w.out.mono BB.out.size))
          have BH5 : BH ≤ w5.heap.size := Nat.le_trans BH3 hb5w.out.size
          clear ROW OQ OH A4 BD BB
          clear hb5w DC
          generalize t.extract 8 t.size = NT at LNU LNI OKL NTL ntz ⊢
          by_cases heq : DD = NT
          case neg =>
            have bq1 : (DD.toList == NT.toList) = false := (eqL _ _).trans (decide_eq_false heq)
            have F := hid (BADL.out fun hh => heq (LNU.out hh).2.2)
            clear BADL OKL LNU LNI hlen heq
            rw [bq1]
            simp only [Bool.not_false]
            have b0 := BDb.out.cell 0
            have b1 := BDb.out.cell 1
            have b2 := BDb.out.cell 2
            have b3 := BDb.out.cell 3
            have b4 := BDb.out.cell 4
            have b5 := BDb.out.cell 5
            have b6 := BDb.out.cell 6
            have b7 := BDb.out.cell 7
            go_wp2_with (refine wpList_store_row rfl 35 (.tmp 4) (.tmp 79) rfl w.heap.size #[.int .i64 3, .int .i64 (ln : Int), .string ⟨#[]⟩, .string ⟨#[]⟩, .slice none 0 0, .slice none 0 0, .string ⟨#[]⟩, .int .i64 0] rfl rfl _ _ A4b.out (by kernel_rfl) rfl (by simp [Value.oneCell']) ?_)
            have RR := A4b.out.setRow #[.int .i64 3, .int .i64 (ln : Int), .string ⟨#[]⟩, .string ⟨#[]⟩, .slice none 0 0, .slice none 0 0, .string ⟨#[]⟩, .int .i64 0]
            refine bodyPost_ret (v := .agg #[.int .i64 3, .int .i64 (ln : Int), .string ⟨#[]⟩, .string ⟨#[]⟩, .slice none 0 0, .slice none 0 0, .string ⟨#[]⟩, .int .i64 0]) (results_cell_row Tryz.results15 _ _ w.heap.size _ _ _ _ rfl RR Tryz.underlying35 rfl (by kernel_rfl)) rfl ?_
            exact AnsRd.bad ln F.out _ (below_setRow BBb.out _ _ (Nat.le_refl _))
          have bq1 : (DD.toList == NT.toList) = true := (eqL _ _).trans (decide_eq_true heq)
          have OK := hid (OKL.out (LNI.out hN heq))
          clear BADL OKL LNU LNI hlen heq
          rw [bq1]
          simp only [Bool.not_true]
          have fr1 : (kf : Int) + (i : Int) + 1 ≤ (S.size : Int) := by omega
          by_cases hE : kf + i + 1 = S.size
          case pos =>
            have be : ((S.size : Int) == (kf : Int) + (i : Int) + 1) = true := by rw [beq_iff_eq]; omega
            have F : Hid (readO d (k : Int) = .short) := by show _ = _; rw [OK.out, List.drop_of_length_le (by rw [baLen]; omega)]; rfl
            clear OK
            go_wp2_with (refine wpList_store_row rfl 35 (.tmp 4) (.tmp 84) rfl w.heap.size #[.int .i64 2, .int .i64 0, .string ⟨#[]⟩, .string ⟨#[]⟩, .slice none 0 0, .slice none 0 0, .string ⟨#[]⟩, .int .i64 0] rfl rfl _ _ A4b.out (by kernel_rfl) rfl (by simp [Value.oneCell']) ?_)
            have RR := A4b.out.setRow #[.int .i64 2, .int .i64 0, .string ⟨#[]⟩, .string ⟨#[]⟩, .slice none 0 0, .slice none 0 0, .string ⟨#[]⟩, .int .i64 0]
            refine bodyPost_ret (v := .agg #[.int .i64 2, .int .i64 0, .string ⟨#[]⟩, .string ⟨#[]⟩, .slice none 0 0, .slice none 0 0, .string ⟨#[]⟩, .int .i64 0]) (results_cell_row Tryz.results15 _ _ w.heap.size _ _ _ _ rfl RR Tryz.underlying35 rfl (by kernel_rfl)) rfl ?_
            exact AnsRd.short F.out _ (below_setRow BBb.out _ _ (Nat.le_refl _))
          have be : ((S.size : Int) == (kf : Int) + (i : Int) + 1) = false := by rw [beq_eq_false_iff_ne]; omega
          have hlt : kf + i + 1 < S.size := by omega
          have DR : Hid (S.data.toList.drop (kf + i + 1) = (S[kf + i + 1]'hlt) :: S.data.toList.drop (kf + i + 1 + 1)) := by show _ = _; rw [List.drop_eq_getElem_cons (by rw [baLen]; exact hlt)]; rfl
          have ix := fun wx => ixS S (kf + i + 1) hlt ((kf : Int) + (i : Int) + 1) (by omega) wx
          have BL : Hid ((S.data.toList.drop (kf + i + 1 + 1)).length = S.size - (kf + i + 1 + 1)) := by show _ = _; rw [List.length_drop, baLen]
          obtain ⟨C, hC⟩ : ∃ C, C = S[kf + i + 1]'hlt := ⟨_, rfl⟩
          rw [← hC] at DR ix
          clear hC
          by_cases hc10 : C.toNat = 10
          case neg =>
            have bn : ((C.toNat : Int) != 10) = true := by rw [bne_iff_ne]; omega
            have F : Hid (readO d (k : Int) = .bad (ln + 1)) := by show _ = _; rw [OK.out, DR.out, rdE_cons, if_neg fun h => hc10 (by rw [h]; rfl)]
            clear OK DR BL hc10
            go_wp2_with (refine wpList_store_row rfl 35 (.tmp 4) (.tmp 91) rfl w.heap.size #[.int .i64 3, .int .i64 ((ln : Int) + 1), .string ⟨#[]⟩, .string ⟨#[]⟩, .slice none 0 0, .slice none 0 0, .string ⟨#[]⟩, .int .i64 0] rfl rfl _ _ A4b.out (by kernel_rfl) rfl (by simp [Value.oneCell']) ?_)
            have RR := A4b.out.setRow #[.int .i64 3, .int .i64 ((ln : Int) + 1), .string ⟨#[]⟩, .string ⟨#[]⟩, .slice none 0 0, .slice none 0 0, .string ⟨#[]⟩, .int .i64 0]
            refine bodyPost_ret (v := .agg #[.int .i64 3, .int .i64 ((ln : Int) + 1), .string ⟨#[]⟩, .string ⟨#[]⟩, .slice none 0 0, .slice none 0 0, .string ⟨#[]⟩, .int .i64 0]) (results_cell_row Tryz.results15 _ _ w.heap.size _ _ _ _ rfl RR Tryz.underlying35 rfl (by kernel_rfl)) rfl ?_
            exact (show AnsRd d (k : Int) w (.returned (.agg #[.int .i64 3, .int .i64 ((ln : Int) + 1), .string ⟨#[]⟩, .string ⟨#[]⟩, .slice none 0 0, .slice none 0 0, .string ⟨#[]⟩, .int .i64 0])) _ from by rw [show ((ln : Int) + 1) = ((ln + 1 : Nat) : Int) by omega]; exact AnsRd.bad (ln + 1) F.out _ (below_setRow BBb.out _ _ (Nat.le_refl _)))
          have bn : ((C.toNat : Int) != 10) = false := by rw [bne_eq_false_iff_eq]; omega
          have C10 : Hid (C = 10) := UInt8.toNat_inj.1 hc10
          have fr2 : (kf : Int) + (i : Int) + 1 + 1 ≤ (S.size : Int) := by omega
          clear hc10
          by_cases hsh : S.size - (kf + i + 1 + 1) < N
          case pos =>
            have bs : (S.size : Int) - ((kf : Int) + (i : Int) + 1 + 1) < (N : Int) := by omega
            have F : Hid (readO d (k : Int) = .short) := by show _ = _; rw [OK.out, DR.out, rdE_cons, if_pos C10.out, if_pos (by rw [BL.out]; exact hsh)]
            clear OK DR BL C10
            go_wp2_with (refine wpList_store_row rfl 35 (.tmp 4) (.tmp 100) rfl w.heap.size #[.int .i64 2, .int .i64 0, .string ⟨#[]⟩, .string ⟨#[]⟩, .slice none 0 0, .slice none 0 0, .string ⟨#[]⟩, .int .i64 0] rfl rfl _ _ A4b.out (by kernel_rfl) rfl (by simp [Value.oneCell']) ?_)
            have RR := A4b.out.setRow #[.int .i64 2, .int .i64 0, .string ⟨#[]⟩, .string ⟨#[]⟩, .slice none 0 0, .slice none 0 0, .string ⟨#[]⟩, .int .i64 0]
            refine bodyPost_ret (v := .agg #[.int .i64 2, .int .i64 0, .string ⟨#[]⟩, .string ⟨#[]⟩, .slice none 0 0, .slice none 0 0, .string ⟨#[]⟩, .int .i64 0]) (results_cell_row Tryz.results15 _ _ w.heap.size _ _ _ _ rfl RR Tryz.underlying35 rfl (by kernel_rfl)) rfl ?_
            exact AnsRd.short F.out _ (below_setRow BBb.out _ _ (Nat.le_refl _))
          have bs : ¬ (S.size : Int) - ((kf : Int) + (i : Int) + 1 + 1) < (N : Int) := by omega
          have fr3 : (kf : Int) + (i : Int) + 1 + 1 + (N : Int) ≤ (S.size : Int) := by omega
          have fr4 : (0 : Int) ≤ (kf : Int) + (i : Int) + 1 + 1 := by omega
          have BYE : Hid (ofL ((S.data.toList.drop (kf + i + 1 + 1)).take N) = S.extract (kf + i + 1 + 1) (kf + i + 1 + 1 + N)) := by show _ = _; exact (ofL_of (by rw [ext_mid, ← List.take_drop])).symm
          have F : Hid (readO d (k : Int) = .ok m p Q H (S.extract (kf + i + 1 + 1) (kf + i + 1 + 1 + N)) (S.size - (kf + i + 1 + 1) - N)) := by show _ = _; rw [OK.out, DR.out, rdE_cons, if_pos C10.out, if_neg (by rw [BL.out]; exact hsh), BL.out, BYE.out]
          have o4 := ROWb.out.cell 4
          have f4 := ROWb.out.free 4
          clear OK DR BL C10 BYE
          go_upto_region 33 with fail
          generalize S.extract (kf + i + 1 + 1) (kf + i + 1 + 1 + N) = BY at F ⊢
          obtain ⟨W6, hW6⟩ : ∃ W, W = w5.setCell ⟨X6, 4, none⟩ (.string BY) := ⟨_, rfl⟩
          have ROWc : Hid (RowAt W6 X6 25 #[.string m, .string p, .slice a1 nQ c1, .slice a2 nH c2, .string BY]) := by rw [hW6]; exact ROWb.out.set 4 _
          have A4c : Hid (RowAt W6 w.heap.size 35 #[.int .i64 0, .int .i64 0, .string ⟨#[]⟩, .string ⟨#[]⟩, .slice none 0 0, .slice none 0 0, .string ⟨#[]⟩, .int .i64 0]) := by rw [hW6]; exact A4b.out.other _ _ (by dsimp only; omega)
          have OQc : Hid (OwnHp W6 (X6 + 1) (.slice a1 nQ c1) Q) := by rw [hW6]; exact OQb.out.setCell _ _ (by dsimp only; omega)
          have OHc : Hid (OwnHp W6 BH (.slice a2 nH c2) H) := by rw [hW6]; exact OHb.out.setCell _ _ (by dsimp only; omega)
          have BBc : Hid (Below w.heap.size w W6) := by rw [hW6]; exact BBb.out.setCell (by dsimp only; omega) _
          rw [← hW6]
          clear hW6 ROWb OQb OHb A4b BDb BBb o4 f4 ix
          have r0 := ROWc.out.cell 0
          have r1 := ROWc.out.cell 1
          have r2 := ROWc.out.cell 2
          have r3 := ROWc.out.cell 3
          have r4 := ROWc.out.cell 4
          go_wp2_with (refine wpList_store_row rfl 35 (.tmp 4) (.tmp 114) rfl w.heap.size #[.int .i64 0, .int .i64 0, .string m, .string p, .slice a1 nQ c1, .slice a2 nH c2, .string BY, .int .i64 ((k : Int) + ((kf : Int) + (i : Int) + 1 + 1) + (N : Int))] rfl rfl _ _ A4c.out (by kernel_rfl) rfl (by simp [Value.oneCell']) ?_)
          have RR := A4c.out.setRow #[.int .i64 0, .int .i64 0, .string m, .string p, .slice a1 nQ c1, .slice a2 nH c2, .string BY, .int .i64 ((k : Int) + ((kf : Int) + (i : Int) + 1 + 1) + (N : Int))]
          refine bodyPost_ret (v := .agg #[.int .i64 0, .int .i64 0, .string m, .string p, .slice a1 nQ c1, .slice a2 nH c2, .string BY, .int .i64 ((k : Int) + ((kf : Int) + (i : Int) + 1 + 1) + (N : Int))]) (results_cell_row Tryz.results15 _ _ w.heap.size _ _ _ _ rfl RR Tryz.underlying35 rfl (by kernel_rfl)) rfl ?_
          exact (show AnsRd d (k : Int) w (.returned (.agg #[.int .i64 0, .int .i64 0, .string m, .string p, .slice a1 nQ c1, .slice a2 nH c2, .string BY, .int .i64 ((k : Int) + ((kf : Int) + (i : Int) + 1 + 1) + (N : Int))])) _ from by rw [HnQ.out, HnH.out]; exact AnsRd.ok m p Q H BY _ F.out a1 c1 a2 c2 _ (by have := SS.out; rw [Int.toNat_natCast, ← this]; omega) _ (below_setRow BBc.out _ _ (Nat.le_refl _)) (hps_of (OQc.out.setRow (by omega) _) HnQ.out) (hps_of (OHc.out.setRow (by omega) _) HnH.out))
        rw [pb_f (show ¬ bgP t ⟨#[108, 101, 110, 103, 116, 104, 58, 32]⟩ from hlen)]
        have KC := hid (sIdx t ⟨#[58, 32]⟩ 0 (by omega) (by decide) (by decide) (Nat.zero_le _) 0 rfl W3)
        go_wp2_with fail
        refine KC.out.mono ?_
        rintro e w5 ⟨⟨z, rfl, hz⟩, hw5⟩
        obtain rfl := hw5.symm
        clear KC
        rcases idx0 hz with ⟨rfl, hcp⟩ | ⟨c, rfl, hc2, hcp⟩
        · have F : Hid (readO d (k : Int) = .bad ln) := by show _ = _; rw [RI.out, ← SL.out, RD.out, rdH_bad CC.out hlen hcp]
          clear hz hcp hlen
          have b0 := BD.out.cell 0
          have b1 := BD.out.cell 1
          have b2 := BD.out.cell 2
          have b3 := BD.out.cell 3
          have b4 := BD.out.cell 4
          have b5 := BD.out.cell 5
          have b6 := BD.out.cell 6
          have b7 := BD.out.cell 7
          go_wp2_with (refine wpList_store_row rfl 35 (.tmp 4) (.tmp 119) rfl w.heap.size #[.int .i64 3, .int .i64 (ln : Int), .string ⟨#[]⟩, .string ⟨#[]⟩, .slice none 0 0, .slice none 0 0, .string ⟨#[]⟩, .int .i64 0] rfl rfl _ _ A4.out (by kernel_rfl) rfl (by simp [Value.oneCell']) ?_)
          have RR := A4.out.setRow #[.int .i64 3, .int .i64 (ln : Int), .string ⟨#[]⟩, .string ⟨#[]⟩, .slice none 0 0, .slice none 0 0, .string ⟨#[]⟩, .int .i64 0]
          refine bodyPost_ret (v := .agg #[.int .i64 3, .int .i64 (ln : Int), .string ⟨#[]⟩, .string ⟨#[]⟩, .slice none 0 0, .slice none 0 0, .string ⟨#[]⟩, .int .i64 0]) (results_cell_row Tryz.results15 _ _ w.heap.size _ _ _ _ rfl RR Tryz.underlying35 rfl (by kernel_rfl)) rfl ?_
          exact AnsRd.bad ln F.out _ (below_setRow BB.out _ _ (Nat.le_refl _))
        have CP : Hid (cutP [58, 32] t.data.toList = some ((t.extract 0 c).data.toList, (t.extract (c + 2) t.size).data.toList)) := hcp
        have c2s : c + 2 ≤ t.size := hc2
        clear hz hcp hc2
        have c0 : (0 : Int) ≤ (c : Int) := by omega
        have c1i : (c : Int) ≤ (t.size : Int) := by omega
        have c2i : (c : Int) + 2 ≤ (t.size : Int) := by omega
        have c3i : (0 : Int) ≤ (c : Int) + 2 := by omega
        have c4i : ¬ (c : Int) + 2 < 0 := by omega
        have c5i : ((c : Int) + 2).toNat = c + 2 := by omega
        have cw : IntKind.i64.wrap ((c : Int) + 2) = (c : Int) + 2 := by rw [IntKind.wrap_i64]; omega
        have nmz : (t.extract 0 c).size ≤ 400000 := by rw [ByteArray.size_extract]; omega
        have vlz : (t.extract (c + 2) t.size).size ≤ 400000 := by rw [ByteArray.size_extract]; omega
        have FB : Hid (¬ rqP (mkRq m p Q (H ++ [(⟨t.extract 0 c, t.extract (c + 2) t.size⟩ : Hp)]) ⟨#[]⟩) → readO d (k : Int) = .bad ln) := fun hn => by
          rw [RI.out, ← SL.out, RD.out]
          exact rdH_no CC.out hlen CP.out (by rw [← ofL_of (b := t.extract 0 c) rfl, ← ofL_of (b := t.extract (c + 2) t.size) rfl]; exact hn)
        have FG : Hid (rqP (mkRq m p Q (H ++ [(⟨t.extract 0 c, t.extract (c + 2) t.size⟩ : Hp)]) ⟨#[]⟩) → rdO S.data.toList = rdH m p Q f (ln + 1) (H ++ [(⟨t.extract 0 c, t.extract (c + 2) t.size⟩ : Hp)]) (S.data.toList.drop (kf + i + 1))) := fun hn => by
          rw [RD.out]
          have := rdH_go (f := f) (line := ln) CC.out hlen CP.out (by rw [← ofL_of (b := t.extract 0 c) rfl, ← ofL_of (b := t.extract (c + 2) t.size) rfl]; exact hn)
          rw [← ofL_of (b := t.extract 0 c) rfl, ← ofL_of (b := t.extract (c + 2) t.size) rfl] at this
          exact this
        clear hlen CP RD CC
        have h3 : W3.cell? ⟨X6, 3, none⟩ = some (.slice a2 nH c2) := ROW.out.cell 3
        have h3a : (W3.alloc (.cells #[.string (t.extract 0 c), .string (t.extract (c + 2) t.size)] 54)).cell? ⟨X6, 3, none⟩ = some (.slice a2 nH c2) := (ROW.out.alloc _).cell 3
        have h3b : (W3.drew.alloc (.cells #[.string (t.extract 0 c), .string (t.extract (c + 2) t.size)] 54)).cell? ⟨X6, 3, none⟩ = some (.slice a2 nH c2) := (ROW.out.drew.alloc _).cell 3
        have nHl : Hid (H.length + 1 ≤ 1048576) := by show _ ≤ _; rw [← HnH.out]; omega
        have NEX : Hid (some X6 ≠ (Value.slice a2 nH c2).ownBlock) := OwnHp.apart OH.out XBH
        go_upto_region 37 with fail
        go_region_law (refine step_append_hp BH _ (by rfl) _ _ 23 (by rfl) Tryz.underlying23 Tryz.infoHpF _ H (t.extract 0 c) (t.extract (c + 2) t.size) (by rfl) (by first | exact World.ownsRow.alloc OH.out _ | exact World.ownsRow.drew (World.ownsRow.alloc OH.out _) | exact World.ownsRow.alloc (World.ownsRow.drew OH.out) _) (by first | (simp; omega) | omega) _ (by exact heap_alloc_new _ _) (by rfl) nHl.out ?_; intro g7 c7 w7 hO7 hg7; (first | have ROW7 := row_grown (ROW.out.alloc _) hg7 NEX.out | have ROW7 := row_grown (ROW.out.alloc _).drew hg7 NEX.out | have ROW7 := row_grown (ROW.out.drew.alloc _) hg7 NEX.out); have y3 := ROW7.cell 3; have f3 := ROW7.free 3; have G7 : Hid (W3.grownBy w7 (Value.slice a2 nH c2).ownBlock) := (by first | exact grown_trans (World.grownBy_alloc W3 _ _) hg7 | exact grown_trans (World.grownBy_alloc W3 _ _) (grown_trans (grown_drewN _ 1 _) hg7) | exact grown_trans (grown_drewN W3 1 _) (grown_trans (World.grownBy_alloc _ _ _) hg7)); clear hg7)
        all_goals
          have ROWx := hid ROW7
          have A4x := hid (row_grown A4.out G7.out (OwnHp.apart OH.out (by omega)))
          have BDx := hid (row_grown BD.out G7.out (fun e => by have := (HBk.out _ e.symm).2; omega))
          have OQx := hid (World.ownsRow.kept OQ.out G7.out (by cases hv : (Value.slice a1 nQ c1).ownBlock with | none => exact .inl rfl | some g => exact .inr (fun e => by have h1 := QB.out g hv; have h2 := (HBk.out g e.symm).1; omega)))
          have BBx := hid (BB.out.grown G7.out BB.out.size fun g hg => by have := (HBk.out g hg).1; omega)
          have BH7 : BH ≤ w7.heap.size := Nat.le_trans BH3 G7.out.size
          have OHx := hid hO7
          generalize t.extract 0 c = NM at OHx FB FG nmz ⊢
          generalize t.extract (c + 2) t.size = VL at OHx FB FG vlz ⊢
          obtain ⟨n8, hn8⟩ : ∃ n, n = H.length + 1 := ⟨_, rfl⟩
          rw [← hn8] at OHx ⊢
          have HN8 : Hid (n8 = (H ++ [(⟨NM, VL⟩ : Hp)]).length) := by show _ = _; rw [hn8]; simp
          have n8s : n8 = nH + 1 := by rw [hn8, HnH.out]
          have n8b : n8 ≤ 31 := by omega
          have HN8s := hid n8s
          clear hn8 n8s hO7 ROW7 y3 f3 G7 ROW OQ OH A4 BD BB h3 h3a h3b
          obtain ⟨W8, hW8⟩ : ∃ W, W = w7.setCell ⟨X6, 3, none⟩ (.slice (some ⟨g7, 0, none⟩) n8 c7) := ⟨_, rfl⟩
          have ROW8 : Hid (RowAt W8 X6 25 #[.string m, .string p, .slice a1 nQ c1, .slice (some ⟨g7, 0, none⟩) n8 c7, .string ⟨#[]⟩]) := by rw [hW8]; exact ROWx.out.set 3 _
          have A48 : Hid (RowAt W8 w.heap.size 35 #[.int .i64 0, .int .i64 0, .string ⟨#[]⟩, .string ⟨#[]⟩, .slice none 0 0, .slice none 0 0, .string ⟨#[]⟩, .int .i64 0]) := by rw [hW8]; exact A4x.out.other _ _ (by dsimp only; omega)
          have BD8 : Hid (RowAt W8 X11 35 #[.int .i64 3, .int .i64 (ln : Int), .string ⟨#[]⟩, .string ⟨#[]⟩, .slice none 0 0, .slice none 0 0, .string ⟨#[]⟩, .int .i64 0]) := by rw [hW8]; exact BDx.out.other _ _ (by have := XE.out; dsimp only; omega)
          have OQ8 : Hid (OwnHp W8 (X6 + 1) (.slice a1 nQ c1) Q) := by rw [hW8]; exact OwnHp.setCell OQx.out _ _ (by dsimp only; omega)
          have OH8 : Hid (OwnHp W8 BH (.slice (some ⟨g7, 0, none⟩) n8 c7) (H ++ [(⟨NM, VL⟩ : Hp)])) := by rw [hW8]; exact OwnHp.setCell OHx.out _ _ (by dsimp only; omega)
          have BB8 : Hid (Below w.heap.size w W8) := by rw [hW8]; exact BBx.out.setCell (by dsimp only; omega) _
          have BH8 : BH ≤ W8.heap.size := by rw [hW8]; simpa using BH7
          rw [← hW8]
          clear hW8 ROWx A4x BDx OQx OHx BBx BH7
          have r0 := ROW8.out.cell 0
          have r1 := ROW8.out.cell 1
          have r2 := ROW8.out.cell 2
          have r3 := ROW8.out.cell 3
          have r4 := ROW8.out.cell 4
          have hB8 : Hid (RqB ⟨m, p, ⟨a1, nQ, c1, hAt Q⟩, ⟨some ⟨g7, 0, none⟩, n8, c7, hAt (H ++ [(⟨NM, VL⟩ : Hp)])⟩, ⟨#[]⟩⟩ 1048576) := rq_bound RQ.out HnQ.out HN8.out nmz vlz
          have KR := hid (sRqF ⟨m, p, ⟨a1, nQ, c1, hAt Q⟩, ⟨some ⟨g7, 0, none⟩, n8, c7, hAt (H ++ [(⟨NM, VL⟩ : Hp)])⟩, ⟨#[]⟩⟩ hB8.out W8 ⟨by have := hps_of OQ8.out HnQ.out; rw [← HnQ.out] at this; exact this, by have := hps_of OH8.out HN8.out; rw [← HN8.out] at this; exact this⟩)
          have RE : Hid (rqP ⟨m, p, ⟨a1, nQ, c1, hAt Q⟩, ⟨some ⟨g7, 0, none⟩, n8, c7, hAt (H ++ [(⟨NM, VL⟩ : Hp)])⟩, ⟨#[]⟩⟩ ↔ rqP (mkRq m p Q (H ++ [(⟨NM, VL⟩ : Hp)]) ⟨#[]⟩)) := by show _ ↔ _; rw [HnQ.out, HN8.out]; exact Iff.rfl
          dsimp only at KR
          clear hB8
          go_wp2_with fail
          refine KR.out.mono ?_
          rintro e w9 ⟨rfl, hb9⟩
          have ROW9 := hid (ROW8.out.below hb9 ROW8.out.lt)
          have OQ9 := hid (OwnHp.next hb9 OQ8.out)
          have OH9 := hid (OwnHp.next hb9 OH8.out)
          have A49 := hid (A48.out.below hb9 A48.out.lt)
          have BD9 := hid (BD8.out.below hb9 BD8.out.lt)
          have BB9 := hid (BB8.out.trans (hb9.mono BB8.out.size))
          have BH9 : BH ≤ w9.heap.size := Nat.le_trans BH8 hb9.size
          have X6l : X6 < W8.heap.size := ROW8.out.lt
          clear ROW8 OQ8 OH8 A48 BD8 BB8
          clear hb9 KR r0 r1 r2 r3 r4
          by_cases hr : rqP ⟨m, p, ⟨a1, nQ, c1, hAt Q⟩, ⟨some ⟨g7, 0, none⟩, n8, c7, hAt (H ++ [(⟨NM, VL⟩ : Hp)])⟩, ⟨#[]⟩⟩
          case neg =>
            rw [rqV_f hr]
            have F := hid (FB.out fun hh => hr (RE.out.2 hh))
            clear FB FG hr RE
            have b0 := BD9.out.cell 0
            have b1 := BD9.out.cell 1
            have b2 := BD9.out.cell 2
            have b3 := BD9.out.cell 3
            have b4 := BD9.out.cell 4
            have b5 := BD9.out.cell 5
            have b6 := BD9.out.cell 6
            have b7 := BD9.out.cell 7
            go_wp2_with (refine wpList_store_row rfl 35 (.tmp 4) (.tmp 136) rfl w.heap.size #[.int .i64 3, .int .i64 (ln : Int), .string ⟨#[]⟩, .string ⟨#[]⟩, .slice none 0 0, .slice none 0 0, .string ⟨#[]⟩, .int .i64 0] rfl rfl _ _ A49.out (by kernel_rfl) rfl (by simp [Value.oneCell']) ?_)
            have RR := A49.out.setRow #[.int .i64 3, .int .i64 (ln : Int), .string ⟨#[]⟩, .string ⟨#[]⟩, .slice none 0 0, .slice none 0 0, .string ⟨#[]⟩, .int .i64 0]
            refine bodyPost_ret (v := .agg #[.int .i64 3, .int .i64 (ln : Int), .string ⟨#[]⟩, .string ⟨#[]⟩, .slice none 0 0, .slice none 0 0, .string ⟨#[]⟩, .int .i64 0]) (results_cell_row Tryz.results15 _ _ w.heap.size _ _ _ _ rfl RR Tryz.underlying35 rfl (by kernel_rfl)) rfl ?_
            exact AnsRd.bad ln F.out _ (below_setRow BB9.out _ _ (Nat.le_refl _))
          rw [rqV_t hr]
          have HR := hid (RE.out.1 hr)
          have FD := hid (FG.out (RE.out.1 hr))
          clear FB FG hr RE
          go_wp2
          go_roundw
          case rel => exact ⟨kf + i + 1, ln + 1, by go_num, by go_num, by omega, A49.out, BB9.out, .inr ⟨m, p, Q, H ++ [(⟨NM, VL⟩ : Hp)], a1, c1, some ⟨g7, 0, none⟩, c7, BH, f, by rw [← HnQ.out, ← HN8.out]; exact ROW9.out, by rw [← HnQ.out]; exact OQ9.out, by rw [← HnQ.out]; exact QB.out, by rw [← HN8.out]; exact OH9.out, XBH, BH9, by rw [← HN8.out, HN8s.out, LN.out], HR.out, FD.out, FL.out⟩⟩
          case measure => simp [intOf]; omega
  · have dD : (400000 : Int) < (D.size : Int) := by omega
    have SL := RC
    have SS := ES
    clear RA ESZ
    have dE : (400000 : Int) ≤ (D.size : Int) := by omega
    go_upto_region 6 with fail
    generalize D.extract 0 400000 = S at SL SS ⊢
    have hD2 : S.size ≤ 400000 := by have := SS.out; omega
    have s9 : S.size ≤ 400000 := by omega
    go_wp2_with fail
    obtain ⟨W1, hW1⟩ : ∃ W, W = W0.alloc (.cells #[.string ⟨#[]⟩, .string ⟨#[]⟩, .slice none 0 0, .slice none 0 0, .string ⟨#[]⟩] 25) := ⟨_, rfl⟩
    have A1 : Hid (RowAt W1 w.heap.size 35 #[.int .i64 0, .int .i64 0, .string ⟨#[]⟩, .string ⟨#[]⟩, .slice none 0 0, .slice none 0 0, .string ⟨#[]⟩, .int .i64 0]) := by rw [hW1]; exact A0.out.alloc _
    have R1 : Hid (RowAt W1 W0.heap.size 25 #[.string ⟨#[]⟩, .string ⟨#[]⟩, .slice none 0 0, .slice none 0 0, .string ⟨#[]⟩]) := by rw [hW1]; exact RowAt.new _ _ _
    have B1 : Hid (Below w.heap.size w W1) := by rw [hW1]; exact B0.out.alloc B0.out.size _
    have x6 : w.heap.size < W0.heap.size := A0.out.lt
    obtain ⟨X6, hX6⟩ : ∃ X, X = W0.heap.size := ⟨_, rfl⟩
    rw [← hW1]
    rw [← hX6] at R1 x6 ⊢
    clear hW1 hX6 A0 B0
    go_loopw [7, 8] (fun fv lv wr => ∃ kf ln : Nat, fv = .int .i64 (kf : Int) ∧ lv = .int .i64 (ln : Int) ∧ kf ≤ S.size ∧ RdSt w X6 S.data.toList kf ln wr) (fun fv _ _ => S.size + 1 - (intOf fv).toNat)
    case atStart => exact ⟨0, 1, rfl, rfl, Nat.zero_le _, A1.out, B1.out, .inl ⟨rfl, rfl, R1.out⟩⟩
    case round =>
      obtain ⟨kf, ln, rfl, rfl, hkf, hA4, hB, hph⟩ := hrel
      clear A1 R1 B1
      have A4 := hid hA4
      have BW := hid hB
      have PH := hid hph
      clear hA4 hB hph
      have KI := hid (sIdx S ⟨#[10]⟩ kf (by omega) (by decide) (by decide) hkf (kf : Int) rfl wr)
      have SHORT : Hid (cutP [10] (S.data.toList.drop kf) = none → readO d (k : Int) = .short) := fun hc => by
        rw [RI.out, ← SL.out]
        rcases PH.out with ⟨rfl, rfl, _⟩ | ⟨m, p, Q, H, a1, c1, a2, c2, BH, f, h⟩
        · rw [List.drop_zero] at hc; exact rdO_none hc
        · obtain ⟨f, rfl⟩ : ∃ g, f = g + 1 := ⟨f - 1, by have := h.fl; omega⟩
          rw [h.rd, rdH_none hc]
      go_wp2_with fail
      refine KI.out.mono ?_
      rintro e w2 ⟨⟨z, rfl, hz⟩, hw2⟩
      obtain rfl := hw2.symm
      rcases hz with ⟨rfl, hc⟩ | ⟨i, rfl, hi, hc⟩
      · have F := hid (SHORT.out hc)
        clear hc KI SHORT
        go_wp2_with (refine wpList_store_row rfl 35 (.tmp 4) (.tmp 41) rfl w.heap.size #[.int .i64 2, .int .i64 0, .string ⟨#[]⟩, .string ⟨#[]⟩, .slice none 0 0, .slice none 0 0, .string ⟨#[]⟩, .int .i64 0] rfl rfl _ _ A4.out (by kernel_rfl) rfl (by simp [Value.oneCell']) ?_)
        have RR := A4.out.setRow #[.int .i64 2, .int .i64 0, .string ⟨#[]⟩, .string ⟨#[]⟩, .slice none 0 0, .slice none 0 0, .string ⟨#[]⟩, .int .i64 0]
        refine bodyPost_ret (v := .agg #[.int .i64 2, .int .i64 0, .string ⟨#[]⟩, .string ⟨#[]⟩, .slice none 0 0, .slice none 0 0, .string ⟨#[]⟩, .int .i64 0]) (results_cell_row Tryz.results15 _ _ w.heap.size _ _ _ _ rfl RR Tryz.underlying35 rfl (by kernel_rfl)) rfl ?_
        exact AnsRd.short F.out _ (below_setRow BW.out _ _ (Nat.le_refl _))
      clear SHORT KI
      have hi1 : kf + i + 1 ≤ S.size := hi
      have CC : Hid (cutP [10] (S.data.toList.drop kf) = some ((S.extract kf (kf + i)).data.toList, S.data.toList.drop (kf + i + 1))) := by
        show _ = _
        rw [show ([10] : List UInt8) = (⟨#[10]⟩ : ByteArray).data.toList from rfl, hc, ext_mid, ← List.take_drop, List.drop_drop]
        rfl
      have ts : (S.extract kf (kf + i)).size ≤ 400000 := by rw [ByteArray.size_extract]; omega
      clear hc hi
      have i0 : (0 : Int) ≤ (kf : Int) := by omega
      have i1 : (kf : Int) ≤ (kf : Int) + (i : Int) := by omega
      have i2 : (kf : Int) + (i : Int) ≤ (S.size : Int) := by omega
      have i3 : ¬ (kf : Int) + (i : Int) < 0 := by omega
      have ln9 : ln ≤ 40 := by
        rcases PH.out with ⟨rfl, _, _⟩ | ⟨m, p, Q, H, a1, c1, a2, c2, BH, f, h⟩
        · omega
        · have h1 := h.hln; have h2 : H.length ≤ 30 := h.rq.2.2.2.1.1; omega
      go_upto_region 16 with fail
      generalize S.extract kf (kf + i) = t at CC ts ⊢
      obtain ⟨W3, hW3⟩ : ∃ W, W = wr.alloc (.cells #[.int .i64 3, .int .i64 (ln : Int), .string ⟨#[]⟩, .string ⟨#[]⟩, .slice none 0 0, .slice none 0 0, .string ⟨#[]⟩, .int .i64 0] 35) := ⟨_, rfl⟩
      have A4a : Hid (RowAt W3 w.heap.size 35 #[.int .i64 0, .int .i64 0, .string ⟨#[]⟩, .string ⟨#[]⟩, .slice none 0 0, .slice none 0 0, .string ⟨#[]⟩, .int .i64 0]) := by rw [hW3]; exact A4.out.alloc _
      have BD : Hid (RowAt W3 wr.heap.size 35 #[.int .i64 3, .int .i64 (ln : Int), .string ⟨#[]⟩, .string ⟨#[]⟩, .slice none 0 0, .slice none 0 0, .string ⟨#[]⟩, .int .i64 0]) := by rw [hW3]; exact RowAt.new _ _ _
      have B3 : Hid (Below w.heap.size w W3) := by rw [hW3]; exact BW.out.alloc BW.out.size _
      have B3w : Hid (Below wr.heap.size wr W3) := by rw [hW3]; exact (Below.refl _ _).alloc (Nat.le_refl _) _
      have xb : w.heap.size < wr.heap.size := A4.out.lt
      obtain ⟨X11, hX⟩ : ∃ X, X = wr.heap.size := ⟨_, rfl⟩
      rw [← hW3]
      rw [← hX] at BD xb ⊢
      have XE := hid hX
      clear hW3 i0 i1 i2 i3 BW hX
      rcases PH.out with ⟨e1, e2, hr6⟩ | ⟨m, p, Q, H, a1, c1, a2, c2, BH, f, h⟩
      · have E1 := hid e1
        have E2 := hid e2
        have l1 : ((ln : Int) == 1) = true := by rw [e1]; rfl
        have R6 := hid (hr6.below B3w.out hr6.lt)
        have X6w : X6 < wr.heap.size := hr6.lt
        clear e1 e2 hr6 PH B3w A4
        have KF := hid (sFirst t ts W3)
        go_wp2_with fail
        refine KF.out.mono ?_
        rintro e w4 ⟨m, p, v, L, b, rfl, hO, hb4, hT, hF⟩
        have A4 := hid (A4a.out.below hb4 A4a.out.lt)
        have BDa := hid (BD.out.below hb4 BD.out.lt)
        have R6a := hid (R6.out.below hb4 R6.out.lt)
        have B4 := hid (B3.out.trans (hb4.mono B3.out.size))
        have X3 : X6 < W3.heap.size := R6.out.lt
        have w3s : w.heap.size + 1 ≤ W3.heap.size := A4a.out.lt
        have w34 : W3.heap.size ≤ w4.heap.size := hb4.size
        obtain ⟨av, vc, rfl, _⟩ := hO.hps
        have OW := hid hO
        obtain ⟨nL, hnL⟩ : ∃ n, n = L.length := ⟨_, rfl⟩
        rw [← hnL]
        have OW2 : Hid (OwnHp w4 W3.heap.size (.slice av nL vc) L) := by rw [hnL]; exact OW.out
        have HnL := hid hnL
        clear hO hb4 A4a BD R6 B3 KF OW hnL
        cases b with
        | false =>
          have F : Hid (readO d (k : Int) = .bad ln) := by
            show _ = _
            rw [RI.out, ← SL.out, E1.out]
            have := CC.out
            rw [E2.out, List.drop_zero] at this
            exact rdO_bad this (hF rfl)
          clear hT hF CC E1 E2
          go_upto_region 18 with fail
          obtain ⟨W5, hW5⟩ : ∃ W, W = w4.alloc (.cells #[.string m, .string p, .slice av nL vc, .slice none 0 0, .string ⟨#[]⟩] 25) := ⟨_, rfl⟩
          have A5 : Hid (RowAt W5 w.heap.size 35 #[.int .i64 0, .int .i64 0, .string ⟨#[]⟩, .string ⟨#[]⟩, .slice none 0 0, .slice none 0 0, .string ⟨#[]⟩, .int .i64 0]) := by rw [hW5]; exact A4.out.alloc _
          have BD5 : Hid (RowAt W5 X11 35 #[.int .i64 3, .int .i64 (ln : Int), .string ⟨#[]⟩, .string ⟨#[]⟩, .slice none 0 0, .slice none 0 0, .string ⟨#[]⟩, .int .i64 0]) := by rw [hW5]; exact BDa.out.alloc _
          have B5 : Hid (Below w.heap.size w W5) := by rw [hW5]; exact B4.out.alloc B4.out.size _
          rw [← hW5]
          clear hW5 A4 BDa B4 R6a
          have b0 := BD5.out.cell 0
          have b1 := BD5.out.cell 1
          have b2 := BD5.out.cell 2
          have b3 := BD5.out.cell 3
          have b4 := BD5.out.cell 4
          have b5 := BD5.out.cell 5
          have b6 := BD5.out.cell 6
          have b7 := BD5.out.cell 7
          go_wp2_with (refine wpList_store_row rfl 35 (.tmp 4) (.tmp 59) rfl w.heap.size #[.int .i64 3, .int .i64 (ln : Int), .string ⟨#[]⟩, .string ⟨#[]⟩, .slice none 0 0, .slice none 0 0, .string ⟨#[]⟩, .int .i64 0] rfl rfl _ _ A5.out (by kernel_rfl) rfl (by simp [Value.oneCell']) ?_)
          have RR := A5.out.setRow #[.int .i64 3, .int .i64 (ln : Int), .string ⟨#[]⟩, .string ⟨#[]⟩, .slice none 0 0, .slice none 0 0, .string ⟨#[]⟩, .int .i64 0]
          refine bodyPost_ret (v := .agg #[.int .i64 3, .int .i64 (ln : Int), .string ⟨#[]⟩, .string ⟨#[]⟩, .slice none 0 0, .slice none 0 0, .string ⟨#[]⟩, .int .i64 0]) (results_cell_row Tryz.results15 _ _ w.heap.size _ _ _ _ rfl RR Tryz.underlying35 rfl (by kernel_rfl)) rfl ?_
          exact AnsRd.bad ln F.out _ (below_setRow B5.out _ _ (Nat.le_refl _))
        | true =>
          have HT := hid (hT rfl)
          have RQ := hid (fstO_rq (hT rfl))
          clear hT hF
          go_upto_region 18 with fail
          obtain ⟨W5, hW5⟩ : ∃ W, W = w4.alloc (.cells #[.string m, .string p, .slice av nL vc, .slice none 0 0, .string ⟨#[]⟩] 25) := ⟨_, rfl⟩
          have A5 : Hid (RowAt W5 w.heap.size 35 #[.int .i64 0, .int .i64 0, .string ⟨#[]⟩, .string ⟨#[]⟩, .slice none 0 0, .slice none 0 0, .string ⟨#[]⟩, .int .i64 0]) := by rw [hW5]; exact A4.out.alloc _
          have R65 : Hid (RowAt W5 X6 25 #[.string ⟨#[]⟩, .string ⟨#[]⟩, .slice none 0 0, .slice none 0 0, .string ⟨#[]⟩]) := by rw [hW5]; exact R6a.out.alloc _
          have X12 : Hid (RowAt W5 w4.heap.size 25 #[.string m, .string p, .slice av nL vc, .slice none 0 0, .string ⟨#[]⟩]) := by rw [hW5]; exact RowAt.new _ _ _
          have B5 : Hid (Below w.heap.size w W5) := by rw [hW5]; exact B4.out.alloc B4.out.size _
          have OW5 : Hid (OwnHp W5 W3.heap.size (.slice av nL vc) L) := by rw [hW5]; exact World.ownsRow.alloc OW2.out _
          have w45 : W3.heap.size ≤ W5.heap.size := by rw [hW5]; simp; omega
          have x12 : w4.heap.size ≠ X6 := by omega
          obtain ⟨XX, hXX⟩ : ∃ X, X = w4.heap.size := ⟨_, rfl⟩
          rw [← hW5]
          rw [← hXX] at X12 x12 ⊢
          clear hW5 hXX A4 BDa B4 R6a OW2
          have b0 := X12.out.cell 0
          have b1 := X12.out.cell 1
          have b2 := X12.out.cell 2
          have b3 := X12.out.cell 3
          have b4 := X12.out.cell 4
          go_wp2_with (refine wpList_store_row rfl 25 (.tmp 6) (.tmp 60) rfl X6 #[.string m, .string p, .slice av nL vc, .slice none 0 0, .string ⟨#[]⟩] rfl rfl _ _ R65.out (by kernel_rfl) rfl (by simp [Value.oneCell']) ?_)
          go_roundw
          case rel => exact ⟨kf + i + 1, ln + 1, by go_num, by go_num, by omega, A5.out.otherRow _ _ (by omega), below_setRow B5.out _ _ (by omega), .inr ⟨m, p, L, [], av, vc, none, 0, W5.heap.size, (S.data.toList.drop (kf + i + 1)).length + 1, by rw [← HnL.out]; exact R65.out.setRow _, by rw [← HnL.out]; exact (OW5.out.setRow X3 _).mono X3, by rw [← HnL.out]; exact fun g hg => (World.ownsRow.lt OW5.out g hg).2, OwnHp.nil _ _, R65.out.lt, by rw [setRow_size]; exact Nat.le_refl _, by rw [E1.out]; rfl, RQ.out, by have := CC.out; rw [E2.out, List.drop_zero] at this; rw [rdO_go this HT.out, E1.out, E2.out], Nat.lt_succ_self _⟩⟩
          case measure => simp [intOf]; omega
      · obtain ⟨f, rfl⟩ : ∃ g, f = g + 1 := ⟨f - 1, by have := h.fl; omega⟩
        have LN := hid h.hln
        have RQ := hid h.rq
        have RD := hid h.rd
        have FL : Hid ((S.data.toList.drop (kf + i + 1)).length < f) := by show _ < _; have := h.fl; rw [List.length_drop, baLen] at this ⊢; omega
        have XBH := h.xb
        have BHW : BH ≤ wr.heap.size := h.bh
        have QB := hid h.qb
        have HBk : Hid (∀ g, (Value.slice a2 H.length c2).ownBlock = some g → BH ≤ g ∧ g < X11) := fun g hg => by rw [XE.out]; exact World.ownsRow.lt h.oh g hg
        have ROWa := hid (h.row.below B3w.out h.row.lt)
        have OQa := hid (OwnHp.next B3w.out h.oq)
        have OHa := hid (OwnHp.next B3w.out h.oh)
        have BH3 : BH ≤ W3.heap.size := Nat.le_trans BHW B3w.out.size
        have X6p : w.heap.size < X6 := x6
        have hQ30 : Q.length ≤ 30 := h.rq.2.2.1.1
        have hH30 : H.length ≤ 30 := h.rq.2.2.2.1.1
        obtain ⟨nQ, hnQ⟩ : ∃ n, n = Q.length := ⟨_, rfl⟩
        obtain ⟨nH, hnH⟩ : ∃ n, n = H.length := ⟨_, rfl⟩
        have ROW : Hid (RowAt W3 X6 25 #[.string m, .string p, .slice a1 nQ c1, .slice a2 nH c2, .string ⟨#[]⟩]) := by rw [hnQ, hnH]; exact ROWa.out
        have OQ : Hid (OwnHp W3 (X6 + 1) (.slice a1 nQ c1) Q) := by rw [hnQ]; exact OQa.out
        have OH : Hid (OwnHp W3 BH (.slice a2 nH c2) H) := by rw [hnH]; exact OHa.out
        rw [← hnH] at HBk hH30 LN
        rw [← hnQ] at QB hQ30
        have HnQ := hid hnQ
        have HnH := hid hnH
        have l1 : ((ln : Int) == 1) = false := by rw [beq_eq_false_iff_ne]; have := LN.out; omega
        replace A4 := A4a
        have BB := B3
        clear h ROWa OQa OHa B3 PH B3w hnQ hnH
        have KB := hid (sBegins t ⟨#[108, 101, 110, 103, 116, 104, 58, 32]⟩ (by omega) (by decide) W3)
        go_wp2_with fail
        refine KB.out.mono ?_
        rintro e w4 ⟨rfl, hw4⟩
        obtain rfl := hw4.symm
        clear KB
        by_cases hlen : lenS <+: t.data.toList
        · rw [pb_t (show bgP t ⟨#[108, 101, 110, 103, 116, 104, 58, 32]⟩ from hlen)]
          have t8 : 8 ≤ t.size := ((bgP_iff t ⟨#[108, 101, 110, 103, 116, 104, 58, 32]⟩).1 hlen).1
          have t8i : (8 : Int) ≤ (t.size : Int) := by omega
          have NTL := hid (ext_end t 8)
          have ntz : (t.extract 8 t.size).size ≤ 400000 := by rw [ByteArray.size_extract]; omega
          have BADL : Hid (¬ lnP (t.data.toList.drop 8) → readO d (k : Int) = .bad ln) := fun hn => by rw [RI.out, ← SL.out, RD.out, rdH_lenBad CC.out hlen hn]
          have OKL : Hid (lnP (t.data.toList.drop 8) → readO d (k : Int) = rdE m p Q H ln (numL (t.extract 8 t.size).data.toList) (S.data.toList.drop (kf + i + 1))) := fun hn => by rw [RI.out, ← SL.out, RD.out, rdH_len CC.out hlen hn, NTL.out]
          have LNU : Hid (lnP (t.data.toList.drop 8) → dgP (t.extract 8 t.size) 6 ∧ numL (t.extract 8 t.size).data.toList ≤ 100000 ∧ ofL (Lib.decDigits (numL (t.extract 8 t.size).data.toList)) = t.extract 8 t.size) := fun ⟨n, h1, h2⟩ => by
            rw [← NTL.out] at h2
            have e : numL (t.extract 8 t.size).data.toList = n := by rw [h2, numL_dec]
            rw [e]
            exact ⟨dgP_dec (d := 5) h2 (by omega), h1, (ofL_of h2).symm⟩
          have LNI : Hid (numL (t.extract 8 t.size).data.toList ≤ 100000 → ofL (Lib.decDigits (numL (t.extract 8 t.size).data.toList)) = t.extract 8 t.size → lnP (t.data.toList.drop 8)) := fun h1 h2 => ⟨_, h1, by rw [← NTL.out]; conv => lhs; rw [← h2, ofL_l]⟩
          have KN := hid (sNumber (t.extract 8 t.size) (by omega) 6 (by omega) W3)
          go_wp2_with fail
          refine KN.out.mono ?_
          rintro e w5 ⟨rfl, hw5⟩
          obtain rfl := hw5.symm
          clear KN
          by_cases hdg : dgP (t.extract 8 t.size) 6
          case neg =>
            rw [numV_f hdg]
            have F := hid (BADL.out fun hh => hdg (LNU.out hh).1)
            clear BADL OKL LNU LNI hdg hlen
            go_wp2_with fail
            go_quiet (fail)
            have ROWz := hid (ROW.out.drewN nq)
            have OQz : Hid (OwnHp _ _ _ _) := OQ.out
            have OHz : Hid (OwnHp _ _ _ _) := OH.out
            have A4z := hid (A4.out.drewN nq)
            have BDz := hid (BD.out.drewN nq)
            have BBz := hid (below_drewN BB.out nq)
            clear ROW OQ OH A4 BD BB
            have b0 := BDz.out.cell 0
            have b1 := BDz.out.cell 1
            have b2 := BDz.out.cell 2
            have b3 := BDz.out.cell 3
            have b4 := BDz.out.cell 4
            have b5 := BDz.out.cell 5
            have b6 := BDz.out.cell 6
            have b7 := BDz.out.cell 7
            go_wp2_with (refine wpList_store_row rfl 35 (.tmp 4) (.tmp 79) rfl w.heap.size #[.int .i64 3, .int .i64 (ln : Int), .string ⟨#[]⟩, .string ⟨#[]⟩, .slice none 0 0, .slice none 0 0, .string ⟨#[]⟩, .int .i64 0] rfl rfl _ _ A4z.out (by kernel_rfl) rfl (by simp [Value.oneCell']) ?_)
            have RR := A4z.out.setRow #[.int .i64 3, .int .i64 (ln : Int), .string ⟨#[]⟩, .string ⟨#[]⟩, .slice none 0 0, .slice none 0 0, .string ⟨#[]⟩, .int .i64 0]
            refine bodyPost_ret (v := .agg #[.int .i64 3, .int .i64 (ln : Int), .string ⟨#[]⟩, .string ⟨#[]⟩, .slice none 0 0, .slice none 0 0, .string ⟨#[]⟩, .int .i64 0]) (results_cell_row Tryz.results15 _ _ w.heap.size _ _ _ _ rfl RR Tryz.underlying35 rfl (by kernel_rfl)) rfl ?_
            exact AnsRd.bad ln F.out _ (below_setRow BBz.out _ _ (Nat.le_refl _))
          rw [numV_t hdg]
          have DGD := hid (fun (n : Nat) hn wx => sDecI (n : Int) n rfl hn wx)
          have DLE := hid dec_len
          obtain ⟨N, hN⟩ : ∃ N, N = numL (t.extract 8 t.size).data.toList := ⟨_, rfl⟩
          rw [← hN] at LNU LNI OKL ⊢
          clear hN hdg
          have n0 : ¬ (N : Int) < 0 := by omega
          by_cases hN : N ≤ 100000
          case neg =>
            have n1 : (100000 : Int) < (N : Int) := by omega
            have F := hid (BADL.out fun hh => hN (LNU.out hh).2.1)
            clear BADL OKL LNU LNI hN hlen DGD DLE
            go_wp2_with fail
            go_quiet (fail)
            have ROWz := hid (ROW.out.drewN nq)
            have OQz : Hid (OwnHp _ _ _ _) := OQ.out
            have OHz : Hid (OwnHp _ _ _ _) := OH.out
            have A4z := hid (A4.out.drewN nq)
            have BDz := hid (BD.out.drewN nq)
            have BBz := hid (below_drewN BB.out nq)
            clear ROW OQ OH A4 BD BB
            have b0 := BDz.out.cell 0
            have b1 := BDz.out.cell 1
            have b2 := BDz.out.cell 2
            have b3 := BDz.out.cell 3
            have b4 := BDz.out.cell 4
            have b5 := BDz.out.cell 5
            have b6 := BDz.out.cell 6
            have b7 := BDz.out.cell 7
            go_wp2_with (refine wpList_store_row rfl 35 (.tmp 4) (.tmp 79) rfl w.heap.size #[.int .i64 3, .int .i64 (ln : Int), .string ⟨#[]⟩, .string ⟨#[]⟩, .slice none 0 0, .slice none 0 0, .string ⟨#[]⟩, .int .i64 0] rfl rfl _ _ A4z.out (by kernel_rfl) rfl (by simp [Value.oneCell']) ?_)
            have RR := A4z.out.setRow #[.int .i64 3, .int .i64 (ln : Int), .string ⟨#[]⟩, .string ⟨#[]⟩, .slice none 0 0, .slice none 0 0, .string ⟨#[]⟩, .int .i64 0]
            refine bodyPost_ret (v := .agg #[.int .i64 3, .int .i64 (ln : Int), .string ⟨#[]⟩, .string ⟨#[]⟩, .slice none 0 0, .slice none 0 0, .string ⟨#[]⟩, .int .i64 0]) (results_cell_row Tryz.results15 _ _ w.heap.size _ _ _ _ rfl RR Tryz.underlying35 rfl (by kernel_rfl)) rfl ?_
            exact AnsRd.bad ln F.out _ (below_setRow BBz.out _ _ (Nat.le_refl _))
          have n1 : decide ((100000 : Int) < (N : Int)) = false := by rw [decide_eq_false_iff_not]; omega
          have n0d : decide ((N : Int) < 0) = false := by rw [decide_eq_false_iff_not]; omega
          have DC := fun wx => hid (DGD.out N (by omega) wx)
          clear DGD DLE
          obtain ⟨DD, hDD⟩ : ∃ b, b = ofL (Lib.decDigits N) := ⟨_, rfl⟩
          rw [← hDD] at DC LNU LNI
          clear hDD
          go_upto_region 23 with fail
          go_region_held3 (fun _ => True) (trivial) ((go_at_call 47; refine (DC _).out.mono ?_; rintro e w5 ⟨rfl, hb5⟩; (first | have hb5w : Hid (Below W3.heap.size W3 w5) := hb5 | have hb5w : Hid (Below W3.heap.size W3 w5) := (Below.refl _ W3).drew.trans hb5); clear hb5))
          have ROWb := hid (ROW.out.below hb5w.out ROW.out.lt)
          have OQb := hid (OwnHp.next hb5w.out OQ.out)
          have OHb := hid (OwnHp.next hb5w.out OH.out)
          have A4b := hid (A4.out.below hb5w.out A4.out.lt)
          have BDb := hid (BD.out.below hb5w.out BD.out.lt)
          have BBb := hid (BB.out.trans (hb5w.out.mono BB.out.size))
          have BH5 : BH ≤ w5.heap.size := Nat.le_trans BH3 hb5w.out.size
          clear ROW OQ OH A4 BD BB
          clear hb5w DC
          generalize t.extract 8 t.size = NT at LNU LNI OKL NTL ntz ⊢
          by_cases heq : DD = NT
          case neg =>
            have bq1 : (DD.toList == NT.toList) = false := (eqL _ _).trans (decide_eq_false heq)
            have F := hid (BADL.out fun hh => heq (LNU.out hh).2.2)
            clear BADL OKL LNU LNI hlen heq
            rw [bq1]
            simp only [Bool.not_false]
            have b0 := BDb.out.cell 0
            have b1 := BDb.out.cell 1
            have b2 := BDb.out.cell 2
            have b3 := BDb.out.cell 3
            have b4 := BDb.out.cell 4
            have b5 := BDb.out.cell 5
            have b6 := BDb.out.cell 6
            have b7 := BDb.out.cell 7
            go_wp2_with (refine wpList_store_row rfl 35 (.tmp 4) (.tmp 79) rfl w.heap.size #[.int .i64 3, .int .i64 (ln : Int), .string ⟨#[]⟩, .string ⟨#[]⟩, .slice none 0 0, .slice none 0 0, .string ⟨#[]⟩, .int .i64 0] rfl rfl _ _ A4b.out (by kernel_rfl) rfl (by simp [Value.oneCell']) ?_)
            have RR := A4b.out.setRow #[.int .i64 3, .int .i64 (ln : Int), .string ⟨#[]⟩, .string ⟨#[]⟩, .slice none 0 0, .slice none 0 0, .string ⟨#[]⟩, .int .i64 0]
            refine bodyPost_ret (v := .agg #[.int .i64 3, .int .i64 (ln : Int), .string ⟨#[]⟩, .string ⟨#[]⟩, .slice none 0 0, .slice none 0 0, .string ⟨#[]⟩, .int .i64 0]) (results_cell_row Tryz.results15 _ _ w.heap.size _ _ _ _ rfl RR Tryz.underlying35 rfl (by kernel_rfl)) rfl ?_
            exact AnsRd.bad ln F.out _ (below_setRow BBb.out _ _ (Nat.le_refl _))
          have bq1 : (DD.toList == NT.toList) = true := (eqL _ _).trans (decide_eq_true heq)
          have OK := hid (OKL.out (LNI.out hN heq))
          clear BADL OKL LNU LNI hlen heq
          rw [bq1]
          simp only [Bool.not_true]
          have fr1 : (kf : Int) + (i : Int) + 1 ≤ (S.size : Int) := by omega
          by_cases hE : kf + i + 1 = S.size
          case pos =>
            have be : ((S.size : Int) == (kf : Int) + (i : Int) + 1) = true := by rw [beq_iff_eq]; omega
            have F : Hid (readO d (k : Int) = .short) := by show _ = _; rw [OK.out, List.drop_of_length_le (by rw [baLen]; omega)]; rfl
            clear OK
            go_wp2_with (refine wpList_store_row rfl 35 (.tmp 4) (.tmp 84) rfl w.heap.size #[.int .i64 2, .int .i64 0, .string ⟨#[]⟩, .string ⟨#[]⟩, .slice none 0 0, .slice none 0 0, .string ⟨#[]⟩, .int .i64 0] rfl rfl _ _ A4b.out (by kernel_rfl) rfl (by simp [Value.oneCell']) ?_)
            have RR := A4b.out.setRow #[.int .i64 2, .int .i64 0, .string ⟨#[]⟩, .string ⟨#[]⟩, .slice none 0 0, .slice none 0 0, .string ⟨#[]⟩, .int .i64 0]
            refine bodyPost_ret (v := .agg #[.int .i64 2, .int .i64 0, .string ⟨#[]⟩, .string ⟨#[]⟩, .slice none 0 0, .slice none 0 0, .string ⟨#[]⟩, .int .i64 0]) (results_cell_row Tryz.results15 _ _ w.heap.size _ _ _ _ rfl RR Tryz.underlying35 rfl (by kernel_rfl)) rfl ?_
            exact AnsRd.short F.out _ (below_setRow BBb.out _ _ (Nat.le_refl _))
          have be : ((S.size : Int) == (kf : Int) + (i : Int) + 1) = false := by rw [beq_eq_false_iff_ne]; omega
          have hlt : kf + i + 1 < S.size := by omega
          have DR : Hid (S.data.toList.drop (kf + i + 1) = (S[kf + i + 1]'hlt) :: S.data.toList.drop (kf + i + 1 + 1)) := by show _ = _; rw [List.drop_eq_getElem_cons (by rw [baLen]; exact hlt)]; rfl
          have ix := fun wx => ixS S (kf + i + 1) hlt ((kf : Int) + (i : Int) + 1) (by omega) wx
          have BL : Hid ((S.data.toList.drop (kf + i + 1 + 1)).length = S.size - (kf + i + 1 + 1)) := by show _ = _; rw [List.length_drop, baLen]
          obtain ⟨C, hC⟩ : ∃ C, C = S[kf + i + 1]'hlt := ⟨_, rfl⟩
          rw [← hC] at DR ix
          clear hC
          by_cases hc10 : C.toNat = 10
          case neg =>
            have bn : ((C.toNat : Int) != 10) = true := by rw [bne_iff_ne]; omega
            have F : Hid (readO d (k : Int) = .bad (ln + 1)) := by show _ = _; rw [OK.out, DR.out, rdE_cons, if_neg fun h => hc10 (by rw [h]; rfl)]
            clear OK DR BL hc10
            go_wp2_with (refine wpList_store_row rfl 35 (.tmp 4) (.tmp 91) rfl w.heap.size #[.int .i64 3, .int .i64 ((ln : Int) + 1), .string ⟨#[]⟩, .string ⟨#[]⟩, .slice none 0 0, .slice none 0 0, .string ⟨#[]⟩, .int .i64 0] rfl rfl _ _ A4b.out (by kernel_rfl) rfl (by simp [Value.oneCell']) ?_)
            have RR := A4b.out.setRow #[.int .i64 3, .int .i64 ((ln : Int) + 1), .string ⟨#[]⟩, .string ⟨#[]⟩, .slice none 0 0, .slice none 0 0, .string ⟨#[]⟩, .int .i64 0]
            refine bodyPost_ret (v := .agg #[.int .i64 3, .int .i64 ((ln : Int) + 1), .string ⟨#[]⟩, .string ⟨#[]⟩, .slice none 0 0, .slice none 0 0, .string ⟨#[]⟩, .int .i64 0]) (results_cell_row Tryz.results15 _ _ w.heap.size _ _ _ _ rfl RR Tryz.underlying35 rfl (by kernel_rfl)) rfl ?_
            exact (show AnsRd d (k : Int) w (.returned (.agg #[.int .i64 3, .int .i64 ((ln : Int) + 1), .string ⟨#[]⟩, .string ⟨#[]⟩, .slice none 0 0, .slice none 0 0, .string ⟨#[]⟩, .int .i64 0])) _ from by rw [show ((ln : Int) + 1) = ((ln + 1 : Nat) : Int) by omega]; exact AnsRd.bad (ln + 1) F.out _ (below_setRow BBb.out _ _ (Nat.le_refl _)))
          have bn : ((C.toNat : Int) != 10) = false := by rw [bne_eq_false_iff_eq]; omega
          have C10 : Hid (C = 10) := UInt8.toNat_inj.1 hc10
          have fr2 : (kf : Int) + (i : Int) + 1 + 1 ≤ (S.size : Int) := by omega
          clear hc10
          by_cases hsh : S.size - (kf + i + 1 + 1) < N
          case pos =>
            have bs : (S.size : Int) - ((kf : Int) + (i : Int) + 1 + 1) < (N : Int) := by omega
            have F : Hid (readO d (k : Int) = .short) := by show _ = _; rw [OK.out, DR.out, rdE_cons, if_pos C10.out, if_pos (by rw [BL.out]; exact hsh)]
            clear OK DR BL C10
            go_wp2_with (refine wpList_store_row rfl 35 (.tmp 4) (.tmp 100) rfl w.heap.size #[.int .i64 2, .int .i64 0, .string ⟨#[]⟩, .string ⟨#[]⟩, .slice none 0 0, .slice none 0 0, .string ⟨#[]⟩, .int .i64 0] rfl rfl _ _ A4b.out (by kernel_rfl) rfl (by simp [Value.oneCell']) ?_)
            have RR := A4b.out.setRow #[.int .i64 2, .int .i64 0, .string ⟨#[]⟩, .string ⟨#[]⟩, .slice none 0 0, .slice none 0 0, .string ⟨#[]⟩, .int .i64 0]
            refine bodyPost_ret (v := .agg #[.int .i64 2, .int .i64 0, .string ⟨#[]⟩, .string ⟨#[]⟩, .slice none 0 0, .slice none 0 0, .string ⟨#[]⟩, .int .i64 0]) (results_cell_row Tryz.results15 _ _ w.heap.size _ _ _ _ rfl RR Tryz.underlying35 rfl (by kernel_rfl)) rfl ?_
            exact AnsRd.short F.out _ (below_setRow BBb.out _ _ (Nat.le_refl _))
          have bs : ¬ (S.size : Int) - ((kf : Int) + (i : Int) + 1 + 1) < (N : Int) := by omega
          have fr3 : (kf : Int) + (i : Int) + 1 + 1 + (N : Int) ≤ (S.size : Int) := by omega
          have fr4 : (0 : Int) ≤ (kf : Int) + (i : Int) + 1 + 1 := by omega
          have BYE : Hid (ofL ((S.data.toList.drop (kf + i + 1 + 1)).take N) = S.extract (kf + i + 1 + 1) (kf + i + 1 + 1 + N)) := by show _ = _; exact (ofL_of (by rw [ext_mid, ← List.take_drop])).symm
          have F : Hid (readO d (k : Int) = .ok m p Q H (S.extract (kf + i + 1 + 1) (kf + i + 1 + 1 + N)) (S.size - (kf + i + 1 + 1) - N)) := by show _ = _; rw [OK.out, DR.out, rdE_cons, if_pos C10.out, if_neg (by rw [BL.out]; exact hsh), BL.out, BYE.out]
          have o4 := ROWb.out.cell 4
          have f4 := ROWb.out.free 4
          clear OK DR BL C10 BYE
          go_upto_region 33 with fail
          generalize S.extract (kf + i + 1 + 1) (kf + i + 1 + 1 + N) = BY at F ⊢
          obtain ⟨W6, hW6⟩ : ∃ W, W = w5.setCell ⟨X6, 4, none⟩ (.string BY) := ⟨_, rfl⟩
          have ROWc : Hid (RowAt W6 X6 25 #[.string m, .string p, .slice a1 nQ c1, .slice a2 nH c2, .string BY]) := by rw [hW6]; exact ROWb.out.set 4 _
          have A4c : Hid (RowAt W6 w.heap.size 35 #[.int .i64 0, .int .i64 0, .string ⟨#[]⟩, .string ⟨#[]⟩, .slice none 0 0, .slice none 0 0, .string ⟨#[]⟩, .int .i64 0]) := by rw [hW6]; exact A4b.out.other _ _ (by dsimp only; omega)
          have OQc : Hid (OwnHp W6 (X6 + 1) (.slice a1 nQ c1) Q) := by rw [hW6]; exact OQb.out.setCell _ _ (by dsimp only; omega)
          have OHc : Hid (OwnHp W6 BH (.slice a2 nH c2) H) := by rw [hW6]; exact OHb.out.setCell _ _ (by dsimp only; omega)
          have BBc : Hid (Below w.heap.size w W6) := by rw [hW6]; exact BBb.out.setCell (by dsimp only; omega) _
          rw [← hW6]
          clear hW6 ROWb OQb OHb A4b BDb BBb o4 f4 ix
          have r0 := ROWc.out.cell 0
          have r1 := ROWc.out.cell 1
          have r2 := ROWc.out.cell 2
          have r3 := ROWc.out.cell 3
          have r4 := ROWc.out.cell 4
          go_wp2_with (refine wpList_store_row rfl 35 (.tmp 4) (.tmp 114) rfl w.heap.size #[.int .i64 0, .int .i64 0, .string m, .string p, .slice a1 nQ c1, .slice a2 nH c2, .string BY, .int .i64 ((k : Int) + ((kf : Int) + (i : Int) + 1 + 1) + (N : Int))] rfl rfl _ _ A4c.out (by kernel_rfl) rfl (by simp [Value.oneCell']) ?_)
          have RR := A4c.out.setRow #[.int .i64 0, .int .i64 0, .string m, .string p, .slice a1 nQ c1, .slice a2 nH c2, .string BY, .int .i64 ((k : Int) + ((kf : Int) + (i : Int) + 1 + 1) + (N : Int))]
          refine bodyPost_ret (v := .agg #[.int .i64 0, .int .i64 0, .string m, .string p, .slice a1 nQ c1, .slice a2 nH c2, .string BY, .int .i64 ((k : Int) + ((kf : Int) + (i : Int) + 1 + 1) + (N : Int))]) (results_cell_row Tryz.results15 _ _ w.heap.size _ _ _ _ rfl RR Tryz.underlying35 rfl (by kernel_rfl)) rfl ?_
          exact (show AnsRd d (k : Int) w (.returned (.agg #[.int .i64 0, .int .i64 0, .string m, .string p, .slice a1 nQ c1, .slice a2 nH c2, .string BY, .int .i64 ((k : Int) + ((kf : Int) + (i : Int) + 1 + 1) + (N : Int))])) _ from by rw [HnQ.out, HnH.out]; exact AnsRd.ok m p Q H BY _ F.out a1 c1 a2 c2 _ (by have := SS.out; rw [Int.toNat_natCast, ← this]; omega) _ (below_setRow BBc.out _ _ (Nat.le_refl _)) (hps_of (OQc.out.setRow (by omega) _) HnQ.out) (hps_of (OHc.out.setRow (by omega) _) HnH.out))
        rw [pb_f (show ¬ bgP t ⟨#[108, 101, 110, 103, 116, 104, 58, 32]⟩ from hlen)]
        have KC := hid (sIdx t ⟨#[58, 32]⟩ 0 (by omega) (by decide) (by decide) (Nat.zero_le _) 0 rfl W3)
        go_wp2_with fail
        refine KC.out.mono ?_
        rintro e w5 ⟨⟨z, rfl, hz⟩, hw5⟩
        obtain rfl := hw5.symm
        clear KC
        rcases idx0 hz with ⟨rfl, hcp⟩ | ⟨c, rfl, hc2, hcp⟩
        · have F : Hid (readO d (k : Int) = .bad ln) := by show _ = _; rw [RI.out, ← SL.out, RD.out, rdH_bad CC.out hlen hcp]
          clear hz hcp hlen
          have b0 := BD.out.cell 0
          have b1 := BD.out.cell 1
          have b2 := BD.out.cell 2
          have b3 := BD.out.cell 3
          have b4 := BD.out.cell 4
          have b5 := BD.out.cell 5
          have b6 := BD.out.cell 6
          have b7 := BD.out.cell 7
          go_wp2_with (refine wpList_store_row rfl 35 (.tmp 4) (.tmp 119) rfl w.heap.size #[.int .i64 3, .int .i64 (ln : Int), .string ⟨#[]⟩, .string ⟨#[]⟩, .slice none 0 0, .slice none 0 0, .string ⟨#[]⟩, .int .i64 0] rfl rfl _ _ A4.out (by kernel_rfl) rfl (by simp [Value.oneCell']) ?_)
          have RR := A4.out.setRow #[.int .i64 3, .int .i64 (ln : Int), .string ⟨#[]⟩, .string ⟨#[]⟩, .slice none 0 0, .slice none 0 0, .string ⟨#[]⟩, .int .i64 0]
          refine bodyPost_ret (v := .agg #[.int .i64 3, .int .i64 (ln : Int), .string ⟨#[]⟩, .string ⟨#[]⟩, .slice none 0 0, .slice none 0 0, .string ⟨#[]⟩, .int .i64 0]) (results_cell_row Tryz.results15 _ _ w.heap.size _ _ _ _ rfl RR Tryz.underlying35 rfl (by kernel_rfl)) rfl ?_
          exact AnsRd.bad ln F.out _ (below_setRow BB.out _ _ (Nat.le_refl _))
        have CP : Hid (cutP [58, 32] t.data.toList = some ((t.extract 0 c).data.toList, (t.extract (c + 2) t.size).data.toList)) := hcp
        have c2s : c + 2 ≤ t.size := hc2
        clear hz hcp hc2
        have c0 : (0 : Int) ≤ (c : Int) := by omega
        have c1i : (c : Int) ≤ (t.size : Int) := by omega
        have c2i : (c : Int) + 2 ≤ (t.size : Int) := by omega
        have c3i : (0 : Int) ≤ (c : Int) + 2 := by omega
        have c4i : ¬ (c : Int) + 2 < 0 := by omega
        have c5i : ((c : Int) + 2).toNat = c + 2 := by omega
        have cw : IntKind.i64.wrap ((c : Int) + 2) = (c : Int) + 2 := by rw [IntKind.wrap_i64]; omega
        have nmz : (t.extract 0 c).size ≤ 400000 := by rw [ByteArray.size_extract]; omega
        have vlz : (t.extract (c + 2) t.size).size ≤ 400000 := by rw [ByteArray.size_extract]; omega
        have FB : Hid (¬ rqP (mkRq m p Q (H ++ [(⟨t.extract 0 c, t.extract (c + 2) t.size⟩ : Hp)]) ⟨#[]⟩) → readO d (k : Int) = .bad ln) := fun hn => by
          rw [RI.out, ← SL.out, RD.out]
          exact rdH_no CC.out hlen CP.out (by rw [← ofL_of (b := t.extract 0 c) rfl, ← ofL_of (b := t.extract (c + 2) t.size) rfl]; exact hn)
        have FG : Hid (rqP (mkRq m p Q (H ++ [(⟨t.extract 0 c, t.extract (c + 2) t.size⟩ : Hp)]) ⟨#[]⟩) → rdO S.data.toList = rdH m p Q f (ln + 1) (H ++ [(⟨t.extract 0 c, t.extract (c + 2) t.size⟩ : Hp)]) (S.data.toList.drop (kf + i + 1))) := fun hn => by
          rw [RD.out]
          have := rdH_go (f := f) (line := ln) CC.out hlen CP.out (by rw [← ofL_of (b := t.extract 0 c) rfl, ← ofL_of (b := t.extract (c + 2) t.size) rfl]; exact hn)
          rw [← ofL_of (b := t.extract 0 c) rfl, ← ofL_of (b := t.extract (c + 2) t.size) rfl] at this
          exact this
        clear hlen CP RD CC
        have h3 : W3.cell? ⟨X6, 3, none⟩ = some (.slice a2 nH c2) := ROW.out.cell 3
        have h3a : (W3.alloc (.cells #[.string (t.extract 0 c), .string (t.extract (c + 2) t.size)] 54)).cell? ⟨X6, 3, none⟩ = some (.slice a2 nH c2) := (ROW.out.alloc _).cell 3
        have h3b : (W3.drew.alloc (.cells #[.string (t.extract 0 c), .string (t.extract (c + 2) t.size)] 54)).cell? ⟨X6, 3, none⟩ = some (.slice a2 nH c2) := (ROW.out.drew.alloc _).cell 3
        have nHl : Hid (H.length + 1 ≤ 1048576) := by show _ ≤ _; rw [← HnH.out]; omega
        have NEX : Hid (some X6 ≠ (Value.slice a2 nH c2).ownBlock) := OwnHp.apart OH.out XBH
        go_upto_region 37 with fail
        go_region_law (refine step_append_hp BH _ (by rfl) _ _ 23 (by rfl) Tryz.underlying23 Tryz.infoHpF _ H (t.extract 0 c) (t.extract (c + 2) t.size) (by rfl) (by first | exact World.ownsRow.alloc OH.out _ | exact World.ownsRow.drew (World.ownsRow.alloc OH.out _) | exact World.ownsRow.alloc (World.ownsRow.drew OH.out) _) (by first | (simp; omega) | omega) _ (by exact heap_alloc_new _ _) (by rfl) nHl.out ?_; intro g7 c7 w7 hO7 hg7; (first | have ROW7 := row_grown (ROW.out.alloc _) hg7 NEX.out | have ROW7 := row_grown (ROW.out.alloc _).drew hg7 NEX.out | have ROW7 := row_grown (ROW.out.drew.alloc _) hg7 NEX.out); have y3 := ROW7.cell 3; have f3 := ROW7.free 3; have G7 : Hid (W3.grownBy w7 (Value.slice a2 nH c2).ownBlock) := (by first | exact grown_trans (World.grownBy_alloc W3 _ _) hg7 | exact grown_trans (World.grownBy_alloc W3 _ _) (grown_trans (grown_drewN _ 1 _) hg7) | exact grown_trans (grown_drewN W3 1 _) (grown_trans (World.grownBy_alloc _ _ _) hg7)); clear hg7)
        all_goals
          have ROWx := hid ROW7
          have A4x := hid (row_grown A4.out G7.out (OwnHp.apart OH.out (by omega)))
          have BDx := hid (row_grown BD.out G7.out (fun e => by have := (HBk.out _ e.symm).2; omega))
          have OQx := hid (World.ownsRow.kept OQ.out G7.out (by cases hv : (Value.slice a1 nQ c1).ownBlock with | none => exact .inl rfl | some g => exact .inr (fun e => by have h1 := QB.out g hv; have h2 := (HBk.out g e.symm).1; omega)))
          have BBx := hid (BB.out.grown G7.out BB.out.size fun g hg => by have := (HBk.out g hg).1; omega)
          have BH7 : BH ≤ w7.heap.size := Nat.le_trans BH3 G7.out.size
          have OHx := hid hO7
          generalize t.extract 0 c = NM at OHx FB FG nmz ⊢
          generalize t.extract (c + 2) t.size = VL at OHx FB FG vlz ⊢
          obtain ⟨n8, hn8⟩ : ∃ n, n = H.length + 1 := ⟨_, rfl⟩
          rw [← hn8] at OHx ⊢
          have HN8 : Hid (n8 = (H ++ [(⟨NM, VL⟩ : Hp)]).length) := by show _ = _; rw [hn8]; simp
          have n8s : n8 = nH + 1 := by rw [hn8, HnH.out]
          have n8b : n8 ≤ 31 := by omega
          have HN8s := hid n8s
          clear hn8 n8s hO7 ROW7 y3 f3 G7 ROW OQ OH A4 BD BB h3 h3a h3b
          obtain ⟨W8, hW8⟩ : ∃ W, W = w7.setCell ⟨X6, 3, none⟩ (.slice (some ⟨g7, 0, none⟩) n8 c7) := ⟨_, rfl⟩
          have ROW8 : Hid (RowAt W8 X6 25 #[.string m, .string p, .slice a1 nQ c1, .slice (some ⟨g7, 0, none⟩) n8 c7, .string ⟨#[]⟩]) := by rw [hW8]; exact ROWx.out.set 3 _
          have A48 : Hid (RowAt W8 w.heap.size 35 #[.int .i64 0, .int .i64 0, .string ⟨#[]⟩, .string ⟨#[]⟩, .slice none 0 0, .slice none 0 0, .string ⟨#[]⟩, .int .i64 0]) := by rw [hW8]; exact A4x.out.other _ _ (by dsimp only; omega)
          have BD8 : Hid (RowAt W8 X11 35 #[.int .i64 3, .int .i64 (ln : Int), .string ⟨#[]⟩, .string ⟨#[]⟩, .slice none 0 0, .slice none 0 0, .string ⟨#[]⟩, .int .i64 0]) := by rw [hW8]; exact BDx.out.other _ _ (by have := XE.out; dsimp only; omega)
          have OQ8 : Hid (OwnHp W8 (X6 + 1) (.slice a1 nQ c1) Q) := by rw [hW8]; exact OwnHp.setCell OQx.out _ _ (by dsimp only; omega)
          have OH8 : Hid (OwnHp W8 BH (.slice (some ⟨g7, 0, none⟩) n8 c7) (H ++ [(⟨NM, VL⟩ : Hp)])) := by rw [hW8]; exact OwnHp.setCell OHx.out _ _ (by dsimp only; omega)
          have BB8 : Hid (Below w.heap.size w W8) := by rw [hW8]; exact BBx.out.setCell (by dsimp only; omega) _
          have BH8 : BH ≤ W8.heap.size := by rw [hW8]; simpa using BH7
          rw [← hW8]
          clear hW8 ROWx A4x BDx OQx OHx BBx BH7
          have r0 := ROW8.out.cell 0
          have r1 := ROW8.out.cell 1
          have r2 := ROW8.out.cell 2
          have r3 := ROW8.out.cell 3
          have r4 := ROW8.out.cell 4
          have hB8 : Hid (RqB ⟨m, p, ⟨a1, nQ, c1, hAt Q⟩, ⟨some ⟨g7, 0, none⟩, n8, c7, hAt (H ++ [(⟨NM, VL⟩ : Hp)])⟩, ⟨#[]⟩⟩ 1048576) := rq_bound RQ.out HnQ.out HN8.out nmz vlz
          have KR := hid (sRqF ⟨m, p, ⟨a1, nQ, c1, hAt Q⟩, ⟨some ⟨g7, 0, none⟩, n8, c7, hAt (H ++ [(⟨NM, VL⟩ : Hp)])⟩, ⟨#[]⟩⟩ hB8.out W8 ⟨by have := hps_of OQ8.out HnQ.out; rw [← HnQ.out] at this; exact this, by have := hps_of OH8.out HN8.out; rw [← HN8.out] at this; exact this⟩)
          have RE : Hid (rqP ⟨m, p, ⟨a1, nQ, c1, hAt Q⟩, ⟨some ⟨g7, 0, none⟩, n8, c7, hAt (H ++ [(⟨NM, VL⟩ : Hp)])⟩, ⟨#[]⟩⟩ ↔ rqP (mkRq m p Q (H ++ [(⟨NM, VL⟩ : Hp)]) ⟨#[]⟩)) := by show _ ↔ _; rw [HnQ.out, HN8.out]; exact Iff.rfl
          dsimp only at KR
          clear hB8
          go_wp2_with fail
          refine KR.out.mono ?_
          rintro e w9 ⟨rfl, hb9⟩
          have ROW9 := hid (ROW8.out.below hb9 ROW8.out.lt)
          have OQ9 := hid (OwnHp.next hb9 OQ8.out)
          have OH9 := hid (OwnHp.next hb9 OH8.out)
          have A49 := hid (A48.out.below hb9 A48.out.lt)
          have BD9 := hid (BD8.out.below hb9 BD8.out.lt)
          have BB9 := hid (BB8.out.trans (hb9.mono BB8.out.size))
          have BH9 : BH ≤ w9.heap.size := Nat.le_trans BH8 hb9.size
          have X6l : X6 < W8.heap.size := ROW8.out.lt
          clear ROW8 OQ8 OH8 A48 BD8 BB8
          clear hb9 KR r0 r1 r2 r3 r4
          by_cases hr : rqP ⟨m, p, ⟨a1, nQ, c1, hAt Q⟩, ⟨some ⟨g7, 0, none⟩, n8, c7, hAt (H ++ [(⟨NM, VL⟩ : Hp)])⟩, ⟨#[]⟩⟩
          case neg =>
            rw [rqV_f hr]
            have F := hid (FB.out fun hh => hr (RE.out.2 hh))
            clear FB FG hr RE
            have b0 := BD9.out.cell 0
            have b1 := BD9.out.cell 1
            have b2 := BD9.out.cell 2
            have b3 := BD9.out.cell 3
            have b4 := BD9.out.cell 4
            have b5 := BD9.out.cell 5
            have b6 := BD9.out.cell 6
            have b7 := BD9.out.cell 7
            go_wp2_with (refine wpList_store_row rfl 35 (.tmp 4) (.tmp 136) rfl w.heap.size #[.int .i64 3, .int .i64 (ln : Int), .string ⟨#[]⟩, .string ⟨#[]⟩, .slice none 0 0, .slice none 0 0, .string ⟨#[]⟩, .int .i64 0] rfl rfl _ _ A49.out (by kernel_rfl) rfl (by simp [Value.oneCell']) ?_)
            have RR := A49.out.setRow #[.int .i64 3, .int .i64 (ln : Int), .string ⟨#[]⟩, .string ⟨#[]⟩, .slice none 0 0, .slice none 0 0, .string ⟨#[]⟩, .int .i64 0]
            refine bodyPost_ret (v := .agg #[.int .i64 3, .int .i64 (ln : Int), .string ⟨#[]⟩, .string ⟨#[]⟩, .slice none 0 0, .slice none 0 0, .string ⟨#[]⟩, .int .i64 0]) (results_cell_row Tryz.results15 _ _ w.heap.size _ _ _ _ rfl RR Tryz.underlying35 rfl (by kernel_rfl)) rfl ?_
            exact AnsRd.bad ln F.out _ (below_setRow BB9.out _ _ (Nat.le_refl _))
          rw [rqV_t hr]
          have HR := hid (RE.out.1 hr)
          have FD := hid (FG.out (RE.out.1 hr))
          clear FB FG hr RE
          go_wp2
          go_roundw
          case rel => exact ⟨kf + i + 1, ln + 1, by go_num, by go_num, by omega, A49.out, BB9.out, .inr ⟨m, p, Q, H ++ [(⟨NM, VL⟩ : Hp)], a1, c1, some ⟨g7, 0, none⟩, c7, BH, f, by rw [← HnQ.out, ← HN8.out]; exact ROW9.out, by rw [← HnQ.out]; exact OQ9.out, by rw [← HnQ.out]; exact QB.out, by rw [← HN8.out]; exact OH9.out, XBH, BH9, by rw [← HN8.out, HN8s.out, LN.out], HR.out, FD.out, FL.out⟩⟩
          case measure => simp [intOf]; omega
end Go.Proofs.YtnchjcaclfcaiaaGreatDoor
