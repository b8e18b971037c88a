import Derived.Test.YtmjolkagkeonfaaGreatDoorG12
namespace Go.Proofs.YtmjolkagkeonfaaGreatDoor
open Go.RowKit
set_option linter.unusedVariables false
/-! The program's readStatements. -/
theorem wdsL_B {s : ByteArray} {n : Nat} (hs : s.size ≤ n) : (wdsL s).length ≤ n + 1 ∧ ∀ x ∈ wdsL s, x.size ≤ n := by
  unfold wdsL
  refine ⟨?_, fun x hx => ?_⟩
  · have h1 := List.length_filter_le (fun b : ByteArray => decide (0 < b.size)) (splB 32 s)
    have h2 := (splB_len 32 s).2
    omega
  · have hx := (List.mem_filter.1 hx).1
    unfold splB at hx
    obtain ⟨y, hy, rfl⟩ := List.mem_map.1 hx
    have := splA_mem _ _ _ _ hy
    rw [baLen] at this
    rw [ofL_size]
    simp at this
    omega
theorem splB_sz {c : UInt8} {s : ByteArray} {n : Nat} (hs : s.size ≤ n) : ∀ x ∈ splB c s, x.size ≤ n := by
  intro x hx
  unfold splB at hx
  obtain ⟨y, hy, rfl⟩ := List.mem_map.1 hx
  have := splA_mem _ _ _ _ hy
  rw [baLen] at this
  rw [ofL_size]
  simp at this
  omega
theorem cdsO_sz : ∀ (w : List ByteArray) (cs : List Cn), CdsO w cs → (∀ x ∈ w, x.size ≤ 1048576) → ∀ c ∈ cs, c.tx.size ≤ 1048576
  | [], [], _, _ => by intro c hc; cases hc
  | [], _ :: _, h, _ => by cases h
  | [_], [], h, _ => by cases h
  | [_], _ :: _, h, _ => by cases h
  | _ :: _ :: _, [], h, _ => by cases h
  | a :: b :: r, c :: cs, h, hw => by
    intro x hx
    rcases List.mem_cons.1 hx with rfl | hx
    · rcases h.1 with ⟨_, rfl⟩ | ⟨_, z, _, rfl⟩ | ⟨_, z, _, rfl⟩ | ⟨_, rfl⟩
      · exact hw b (by simp)
      · exact Nat.zero_le _
      · exact Nat.zero_le _
      · exact hw b (by simp)
    · exact cdsO_sz r cs h.2 (fun y hy => hw y (by simp [hy])) x hx
theorem ps_B {ws : List ByteArray} {cs : List Cn} (hw : ws.length ≤ 1000001 ∧ ∀ x ∈ ws, x.size ≤ 1000000) (h7 : 7 ≤ ws.length) (h : CdsO (ws.drop 7) cs) : psB ⟨efV (atB ws 0), splB 44 (atB ws 2), splB 44 (atB ws 4), splB 44 (atB ws 6), cs⟩ := by
  have hz : ∀ i, i < ws.length → (atB ws i).size ≤ 1000000 := fun i hi => hw.2 _ (atB_mem hi)
  refine ⟨splB_B 44 (hz 2 (by omega)), splB_B 44 (hz 4 (by omega)), splB_B 44 (hz 6 (by omega)), ?_, ?_⟩
  · have := (cdsO_iff _ _ h).1
    rw [List.length_drop] at this
    dsimp only
    omega
  · exact cdsO_sz _ _ h fun x hx => by have := hw.2 x (List.mem_of_mem_drop hx); omega
theorem PolR.monoB {w : World} {B B' : Nat} {v : Value} {L : List PS} {Rs : List St} {X : Nat → Nat} (h : PolR w B v L Rs X) (hb : B' ≤ B) : PolR w B' v L Rs X := by
  refine ⟨⟨h.own.1, ?_⟩, h.len, Nat.le_trans hb h.lo, h.hi, h.at_⟩
  rcases h.own.2 with h0 | ⟨g, cap, cur, he, hbg, r⟩
  · exact .inl h0
  · exact .inr ⟨g, cap, cur, he, Nat.le_trans hb hbg, r⟩
theorem PolAt.monoB {w : World} {B B' : Nat} {v : Value} {L : List PS} (h : PolAt w B v L) (hb : B' ≤ B) : PolAt w B' v L := by
  obtain ⟨Rs, X, h⟩ := h
  exact ⟨Rs, X, h.monoB hb⟩
set_option maxRecDepth 20000 in
set_option maxHeartbeats 2000000 in
theorem iNewL (l : Int) (t : ByteArray) (ht : t.size ≤ 1000000) (w : World) :
    Calls Tryz.prog 73 #[.int .i64 l, .string t] w fun e w' => ∃ b g, e = .returned (.pointer (some ⟨b, 0, none⟩)) ∧ Rdr w w' b g l (wdsL t) 0 := by
  have K := hid (iFields t (by omega) w)
  have HW := hid (wdsL_B ht)
  obtain ⟨ws, hws⟩ : ∃ x, x = wdsL t := ⟨_, rfl⟩
  rw [← hws] at K HW ⊢
  clear hws
  obtain ⟨n, hn⟩ : ∃ n, n = ws.length := ⟨_, rfl⟩
  rw [← hn] at K
  have HN := hid hn
  clear hn
  go_enter Tryz.func73, Tryz.ntmps73
  go_wp2_with fail
  refine K.out.mono ?_
  rintro e w2 ⟨A, rfl, hA, hO, hB⟩
  have RW : Hid (RowAt w2 A 9 (ws.map Value.string).toArray) := by
    rcases hO.2 with ⟨h0, _⟩ | ⟨g, cap, cur, he, hbg, hr, hnc, hm, hsz, htk⟩
    · cases h0
    · injection he with e1 e2 e3
      have e1 := Option.some.inj e1
      injection e1 with e1
      subst e1
      have : cur.toList = ws.map Value.string := by
        rw [← htk, List.take_of_length_le]
        rw [Array.length_toList, hsz, ← e3]
        have := HN.out
        omega
      have e4 : cur = (ws.map Value.string).toArray := by rw [← this]
      rw [← e4]
      exact hr
  have HA := hid hA
  have HB := hid hB
  clear hA hO hB K
  go_wp2
  go_ret
  refine ⟨w2.heap.size, A, rfl, HB.out.alloc HB.out.size _, HB.out.size, ?_, Nat.zero_le _, ⟨by have := HW.out.1; omega, fun x hx => by have := HW.out.2 x hx; omega⟩, ⟨some ⟨A, 0, none⟩, ?_, fun _ => rfl⟩, RW.out.alloc _⟩
  · have := RW.out.lt; omega
  · rw [Nat.sub_zero, ← HN.out]; exact RowAt.new _ _ _
set_option maxRecDepth 20000 in
set_option maxHeartbeats 4000000 in
theorem iChk3 (s : St) (hs : StB s 1048576) (l : Int) (i : Nat) (hp : ¬ stP s) (w : World) (h : StIn w s) :
    Calls Tryz.prog 69 #[.agg #[.int .i64 s.ef, .slice s.wo.ad s.wo.n s.wo.cap, .slice s.wa.ad s.wa.n s.wa.cap, .slice s.wi.ad s.wi.n s.wi.cap, .slice s.cs.ad s.cs.n s.cs.cap], .int .i64 l, .int .i64 (i : Int)] w fun e w' => ThrownAt e 3 l ∧ Below w.heap.size w w' := by
  have B0 : Hid (Below w.heap.size w (w.alloc (.cells #[.int .i64 s.ef, .slice s.wo.ad s.wo.n s.wo.cap, .slice s.wa.ad s.wa.n s.wa.cap, .slice s.wi.ad s.wi.n s.wi.cap, .slice s.cs.ad s.cs.n s.cs.cap] 73))) := balCn (Below.refl _ _) _
  have K := hid (iStF s hs _ (h.below B0.out))
  obtain ⟨W0, hW0⟩ : ∃ W, W = w.alloc (.cells #[.int .i64 s.ef, .slice s.wo.ad s.wo.n s.wo.cap, .slice s.wa.ad s.wa.n s.wa.cap, .slice s.wi.ad s.wi.n s.wi.cap, .slice s.cs.ad s.cs.n s.cs.cap] 73) := ⟨_, rfl⟩
  rw [← hW0] at B0 K
  clear hs h
  rw [pb_f hp] at K
  clear hp
  obtain ⟨f, ⟨a1, n1, c1, t1⟩, ⟨a2, n2, c2, t2⟩, ⟨a3, n3, c3, t3⟩, ⟨a4, n4, c4, o4⟩⟩ := s
  dsimp only at B0 K hW0 ⊢
  go_enter Tryz.func69, Tryz.ntmps69
  go_wp2_with fail
  rw [← hW0]
  clear hW0
  refine K.out.mono ?_
  rintro e w2 ⟨rfl, hb2⟩
  have B2 := hid (B0.out.trans (hb2.mono B0.out.size))
  clear hb2 B0 K
  go_wp2
  exact ⟨rfl, rfl, B2.out⟩
set_option maxRecDepth 20000 in
set_option maxHeartbeats 4000000 in
theorem iChk4 (s : St) (hs : StB s 1048576) (l : Int) (i : Nat) (hi0 : i ≤ 1048576) (q : stP s) (hq : ¬ (i < 50 ∧ s.cs.n ≤ 10)) (w : World) (h : StIn w s) :
    Calls Tryz.prog 69 #[.agg #[.int .i64 s.ef, .slice s.wo.ad s.wo.n s.wo.cap, .slice s.wa.ad s.wa.n s.wa.cap, .slice s.wi.ad s.wi.n s.wi.cap, .slice s.cs.ad s.cs.n s.cs.cap], .int .i64 l, .int .i64 (i : Int)] w fun e w' => ThrownAt e 4 l ∧ Below w.heap.size w w' := by
  have B0 : Hid (Below w.heap.size w (w.alloc (.cells #[.int .i64 s.ef, .slice s.wo.ad s.wo.n s.wo.cap, .slice s.wa.ad s.wa.n s.wa.cap, .slice s.wi.ad s.wi.n s.wi.cap, .slice s.cs.ad s.cs.n s.cs.cap] 73))) := balCn (Below.refl _ _) _
  have K := hid (iStF s hs _ (h.below B0.out))
  obtain ⟨W0, hW0⟩ : ∃ W, W = w.alloc (.cells #[.int .i64 s.ef, .slice s.wo.ad s.wo.n s.wo.cap, .slice s.wa.ad s.wa.n s.wa.cap, .slice s.wi.ad s.wi.n s.wi.cap, .slice s.cs.ad s.cs.n s.cs.cap] 73) := ⟨_, rfl⟩
  have A0 : Hid (RowAt W0 w.heap.size 73 #[.int .i64 s.ef, .slice s.wo.ad s.wo.n s.wo.cap, .slice s.wa.ad s.wa.n s.wa.cap, .slice s.wi.ad s.wi.n s.wi.cap, .slice s.cs.ad s.cs.n s.cs.cap]) := by rw [hW0]; exact RowAt.new _ _ _
  rw [← hW0] at B0 K
  have hn : s.cs.n ≤ 1048576 := hs.cs.1
  clear hs h
  rw [pb_t q] at K
  clear q
  obtain ⟨f, ⟨a1, n1, c1, t1⟩, ⟨a2, n2, c2, t2⟩, ⟨a3, n3, c3, t3⟩, ⟨a4, n4, c4, o4⟩⟩ := s
  dsimp only at B0 K hW0 A0 hn hq ⊢
  go_enter Tryz.func69, Tryz.ntmps69
  go_wp2_with fail
  rw [← hW0]
  clear hW0
  refine K.out.mono ?_
  rintro e w2 ⟨rfl, hb2⟩
  have x4 := (hb2.cell (p := ⟨w.heap.size, 4, none⟩) A0.out.lt).trans (A0.out.cell 4)
  have B2 := hid (B0.out.trans (hb2.mono B0.out.size))
  clear hb2 A0 B0 K
  by_cases q1 : 50 ≤ i
  · have d1 : (50 : Int) ≤ (i : Int) := by omega
    go_wp2
    exact ⟨rfl, rfl, B2.out⟩
  · have d1 : ¬ (50 : Int) ≤ (i : Int) := by omega
    have d2 : (10 : Int) < (n4 : Int) := by omega
    go_wp2
    exact ⟨rfl, rfl, B2.out⟩
def RdSO (w : World) (lines : List ByteArray) (e : Ending) (w' : World) : Prop :=
  ((∃ v L, e = .returned v ∧ rdP 0 [] lines = (0, 0, L) ∧ PolAt w' w.heap.size v L) ∨ (∃ c l : Int, ThrownAt e c l ∧ ¬ c = 0 ∧ rdP 0 [] lines = (c, l, []))) ∧ Below w.heap.size w w'
set_option maxRecDepth 20000 in
set_option maxHeartbeats 16000000 in
theorem iRdS (t : ByteArray) (ht : t.size ≤ 10000) (w : World) (hv : RdV w) :
    Calls Tryz.prog 36 #[.string t] w fun e w' => RdSO w (splB 10 t) e w' := by
  have K := hid (iSplitC 10 t (by omega) w hv)
  have HV := hid hv
  obtain ⟨LS, hLS⟩ : ∃ x, x = splB 10 t := ⟨_, rfl⟩
  have SZ : Hid (∀ x ∈ LS, x.size ≤ 10000) := by rw [hLS]; exact splB_sz ht
  have LN : Hid (LS.length ≤ 10001) := by show _ ≤ _; rw [hLS]; have := (splB_len 10 t).2; omega
  rw [← hLS] at K ⊢
  clear hLS hv
  obtain ⟨n, hn⟩ : ∃ n, n = LS.length := ⟨_, rfl⟩
  rw [← hn] at K LN
  have HN := hid hn
  clear hn
  have hnb : n ≤ 10001 := LN.out
  go_enter Tryz.func36, Tryz.ntmps36
  go_wp2_with fail
  refine K.out.mono ?_
  rintro e w1 ⟨rfl, hw1⟩
  have R1 : Hid (RowAt w1 w.heap.size 9 (LS.map Value.string).toArray) := by rw [hw1]; exact RowAt.new _ _ _
  have B1 : Hid (Below w.heap.size w w1) := by rw [hw1]; exact (Below.refl _ _).alloc (Nat.le_refl _) _
  clear hw1 K
  go_wp2_with fail
  go_loopw [3, 11] (fun v3 v11 wr => ∃ (i : Nat) (acc : List PS), i ≤ n ∧ v11 = .int .i64 (i : Int) ∧ PolAt wr w1.heap.size v3 acc ∧ acc.length ≤ 50 ∧ Below w1.heap.size w1 wr ∧ rdP i acc (LS.drop i) = rdP 0 [] LS) (fun _ v11 _ => n - (intOf v11).toNat)
  case atStart => exact ⟨0, [], Nat.zero_le _, rfl, PolAt.nil _ _ (Nat.le_refl _), Nat.zero_le _, Below.refl _ _, rfl⟩
  case round =>
    obtain ⟨i, acc, hi, rfl, hP, hacc, hB, hR⟩ := hrel
    obtain ⟨Rs, X, hP⟩ := hP
    obtain ⟨a3, c3, rfl⟩ := hP.own.slice
    obtain ⟨m, hm⟩ : ∃ m, m = Rs.length := ⟨_, rfl⟩
    rw [← hm] at hP ⊢
    have P0 := hid hP
    have BB := hid hB
    have RR := hid hR
    have ML : Hid (m = acc.length) := hm.trans hP.len
    have HMR := hid hm
    have hm50 : m ≤ 50 := by rw [ML.out]; exact hacc
    clear hP hB hR hm hacc
    by_cases hlt : i < n
    · have d3 : (i : Int) < (n : Int) := by omega
      have i0 : (0 : Int) ≤ (i : Int) := by omega
      obtain ⟨x, hx⟩ : ∃ x, x = atB LS i := ⟨_, rfl⟩
      have c0 : wr.cell? ⟨w.heap.size, i, none⟩ = some (.string x) := by
        rw [(R1.out.below BB.out R1.out.lt).cell i, List.getElem?_toArray, List.getElem?_map, atB_get (by rw [← HN.out]; exact hlt), hx]
        rfl
      have hxs : x.size ≤ 10000 := by rw [hx]; exact SZ.out _ (atB_mem (by rw [← HN.out]; exact hlt))
      have DR : Hid (LS.drop i = x :: LS.drop (i + 1)) := by
        show _ = _
        have e1 := atB_get (l := LS) (i := i) (by rw [← HN.out]; exact hlt)
        rw [List.getElem?_eq_getElem (by rw [← HN.out]; exact hlt)] at e1
        rw [List.drop_eq_getElem_cons (by rw [← HN.out]; exact hlt), Option.some.inj e1, hx]
      rw [DR.out] at RR
      clear hx
      have KN := hid (iNewL ((i : Int) + 1) x (by omega) wr)
      have HW := hid (wdsL_B (n := 1000000) (show x.size ≤ 1000000 by omega))
      obtain ⟨ws, hws⟩ : ∃ y, y = wdsL x := ⟨_, rfl⟩
      rw [← hws] at KN HW
      have HWS := hid hws
      clear hws
      go_wp2_with fail
      refine KN.out.mono ?_
      rintro e w2 ⟨b, g, rfl, hL⟩
      have L2 := hid hL
      obtain ⟨A, r1, r2⟩ := hL.row
      rw [Nat.sub_zero] at r1
      have c1 := r1.cell 1
      have hbg : Hid (b < w2.heap.size) := r1.lt
      have B2 : Hid (Below wr.heap.size wr w2) := hL.bw
      clear KN hL r1 r2 c0
      by_cases h0 : ws.length = 0
      · rw [h0] at c1
        have EX : Hid (rdP (i + 1) acc (LS.drop (i + 1)) = rdP 0 [] LS) := by
          show _ = _
          rw [← RR.out, rdP_skip]
          rw [← HWS.out]
          exact List.eq_nil_of_length_eq_zero h0
        have B3 := hid (BB.out.trans (B2.out.mono BB.out.size))
        have P3 := hid (P0.out.below B2.out)
        clear h0
        go_wp2
        go_roundw
        case rel => exact ⟨i + 1, acc, by omega, by go_num, ⟨Rs, X, P3.out⟩, by have := ML.out; omega, B3.out, EX.out⟩
        case measure => simp [intOf]; omega
      have h0' : 0 < ws.length := by omega
      have hsz := L2.out.sz.1
      have NE : Hid (¬ wdsL x = []) := fun e => by rw [← HWS.out] at e; rw [e] at h0; exact h0 rfl
      have KT := hid (iTakeS wr (HV.out.below (B1.out.trans (BB.out.mono B1.out.size))) b g ((i : Int) + 1) ws h0' w2 L2.out)
      obtain ⟨N, hN⟩ : ∃ N, ws.length = N + 1 := ⟨ws.length - 1, by omega⟩
      rw [hN] at c1
      have hNb : N ≤ 1048576 := by omega
      have d5 : ¬ ((N : Int) + 1 = 0) := by omega
      have HNW := hid hN
      clear hN h0 h0' hsz
      go_wp2_with fail
      refine KT.out.mono ?_
      rintro e w3 (⟨s, cs, rfl, hf, hc, hP, hL, hg⟩ | ⟨hT, hnl, hB⟩)
      case inr =>
        unfold ThrownAt at hT
        subst hT
        have FIN : Hid (rdP 0 [] LS = (3, (i : Int) + 1, [])) := by
          show _ = _
          rw [← RR.out, rdP_syn NE.out (by rw [← HWS.out]; exact hnl)]
        have B3 : Hid (Below w.heap.size w w3) := B1.out.trans ((BB.out.trans (hB.mono BB.out.size)).mono B1.out.size)
        clear hnl hB KT
        go_wp2
        exact ⟨rfl, .inr ⟨3, (i : Int) + 1, rfl, by decide, FIN.out⟩, B3.out⟩
      have PB := hid (ps_B HW.out hf.1 hc)
      have PI := hid (ps_iff hc)
      have FRM := hid hf
      obtain ⟨PP, hPP⟩ : ∃ p, p = (⟨efV (atB ws 0), splB 44 (atB ws 2), splB 44 (atB ws 4), splB 44 (atB ws 6), cs⟩ : PS) := ⟨_, rfl⟩
      have CL : Hid (PP.cs = cs) := by rw [hPP]; exact rfl
      rw [← hPP] at hP PB PI
      have L3 := hid hL
      have G3 := hid hg
      have Z23 : Hid (w2.heap.size ≤ w3.heap.size) := hg.size
      have PS3 := hid hP
      have P3 : Hid (PolR w3 w1.heap.size (.slice a3 m c3) acc Rs X) := by
        have q := P0.out.below B2.out
        have hbz := L2.out.hb
        refine ⟨q.own.keep fun g' cs' hb' hr' => ?_, q.len, q.lo, Nat.le_trans q.hi hg.size, fun k hk => (q.at_ k hk).keep fun g' t' cs' h1' h2' ht' hr' => ?_⟩
        · refine (hg.block g' hr'.lt fun e => ?_).trans hr'
          have e := Option.some.inj e
          have := (P0.out.own.row hb').2.1
          omega
        · refine (hg.block g' hr'.lt fun e => ?_).trans hr'
          have e := Option.some.inj e
          have := q.mono (k + 1) acc.length (by omega) (Nat.le_refl _)
          have := P0.out.hi
          omega
      have B3 : Hid (Below w1.heap.size w1 w3) := by
        refine (BB.out.trans (B2.out.mono BB.out.size)).grown hg ?_ ?_
        · exact Nat.le_trans BB.out.size B2.out.size
        · intro y hy
          have := Option.some.inj hy
          have := L2.out.hb
          have := BB.out.size
          omega
      clear hf hc hP hL hg KT hPP
      obtain ⟨W4, hW4⟩ : ∃ W, W = w3.alloc (.cells #[.int .i64 s.ef, .slice s.wo.ad s.wo.n s.wo.cap, .slice s.wa.ad s.wa.n s.wa.cap, .slice s.wi.ad s.wi.n s.wi.cap, .slice s.cs.ad s.cs.n s.cs.cap] 73) := ⟨_, rfl⟩
      have A4 : Hid (Below w3.heap.size w3 W4) := by rw [hW4]; exact (Below.refl _ _).alloc (Nat.le_refl _) _
      have R4 : Hid (RowAt W4 w3.heap.size 73 #[.int .i64 s.ef, .slice s.wo.ad s.wo.n s.wo.cap, .slice s.wa.ad s.wa.n s.wa.cap, .slice s.wi.ad s.wi.n s.wi.cap, .slice s.cs.ad s.cs.n s.cs.cap]) := by rw [hW4]; exact RowAt.new _ _ _
      have P4 := hid (P3.out.below A4.out)
      have B4 : Hid (Below w1.heap.size w1 W4) := B3.out.trans (A4.out.mono B3.out.size)
      have S4 := hid (PS3.out.below A4.out)
      obtain ⟨A5, r5, _⟩ := L3.out.row
      have x5 := (r5.below A4.out r5.lt).cell 0
      clear r5
      go_upto_region 8 with ((refine wpList_store_row rfl 73 (.tmp 7) (.tmp 27) rfl w3.heap.size #[.int .i64 s.ef, .slice s.wo.ad s.wo.n s.wo.cap, .slice s.wa.ad s.wa.n s.wa.cap, .slice s.wi.ad s.wi.n s.wi.cap, .slice s.cs.ad s.cs.n s.cs.cap] rfl rfl _ _ (RowAt.new w3 _ _) (by kernel_rfl) rfl (by simp [Value.oneCell']) ?_); rw [World.setRow_alloc_new])
      rw [← hW4]
      clear hW4 P3 B3
      obtain ⟨X4, hX4⟩ : ∃ y, y = w3.heap.size := ⟨_, rfl⟩
      rw [← hX4] at R4 ⊢
      have HX4 := hid hX4
      clear hX4 c1
      have SB := hid (S4.out.stB PB.out)
      have SI := hid S4.out.in
      have SP := hid S4.out.iff
      have CN : Hid (s.cs.n = cs.length) := by
        have := S4.out.lens.2.2.2
        rw [CL.out] at this
        exact this
      have y0 := R4.out.cell 0
      have y1 := R4.out.cell 1
      have y2 := R4.out.cell 2
      have y3 := R4.out.cell 3
      have y4 := R4.out.cell 4
      have BW : Hid (Below w.heap.size w W4) := B1.out.trans (B4.out.mono B1.out.size)
      by_cases hp : psP PP
      case neg =>
        have K3 := fun wx (h : StIn wx s) => hid (iChk3 s SB.out ((i : Int) + 1) m (fun q => hp (SP.out.1 q)) wx h)
        have FIN : Hid (rdP 0 [] LS = (3, (i : Int) + 1, [])) := by
          show _ = _
          rw [← RR.out, rdP_syn NE.out]
          intro q
          rw [← HWS.out] at q
          exact hp (PI.out.1.2 q.2)
        clear hp SB SP CN
        go_region_dies
        all_goals go_at_call 69
        all_goals refine (K3 _ (by first | exact SI.out | exact SI.out.below (Below.refl _ _).drew)).out.mono ?_
        all_goals rintro e w5 ⟨hT5, hB5⟩
        all_goals unfold ThrownAt at hT5
        all_goals subst hT5
        all_goals exact ⟨rfl, .inr ⟨3, (i : Int) + 1, rfl, by decide, FIN.out⟩, BW.out.trans (by first | exact hB5.mono BW.out.size | exact ((Below.refl _ _).drew.trans hB5).mono BW.out.size)⟩
      by_cases h50 : m < 50 ∧ cs.length ≤ 10
      case neg =>
        have K4 := fun wx (h : StIn wx s) => hid (iChk4 s SB.out ((i : Int) + 1) m (by omega) (SP.out.2 hp) (by rw [CN.out]; exact h50) wx h)
        have FIN : Hid (rdP 0 [] LS = (4, (i : Int) + 1, [])) := by
          show _ = _
          have hl := PI.out.2.2
          rw [← RR.out, rdP_cnt NE.out]
          · rw [← HWS.out]; exact ⟨FRM.out, PI.out.1.1 hp⟩
          · rw [← HWS.out, ← hl, ← ML.out]; exact h50
        clear hp SB SP CN h50
        go_region_dies
        all_goals go_at_call 69
        all_goals refine (K4 _ (by first | exact SI.out | exact SI.out.below (Below.refl _ _).drew)).out.mono ?_
        all_goals rintro e w5 ⟨hT5, hB5⟩
        all_goals unfold ThrownAt at hT5
        all_goals subst hT5
        all_goals exact ⟨rfl, .inr ⟨4, (i : Int) + 1, rfl, by decide, FIN.out⟩, BW.out.trans (by first | exact hB5.mono BW.out.size | exact ((Below.refl _ _).drew.trans hB5).mono BW.out.size)⟩
      have KO := fun wx (h : StIn wx s) => hid (iChk_ok s SB.out ((i : Int) + 1) m (SP.out.2 hp) h50.1 (by rw [CN.out]; exact h50.2) wx h)
      have PE : Hid (PP = sS ws) := PI.out.2.1 hp
      have NX : Hid (rdP (i + 1) (acc ++ [PP]) (LS.drop (i + 1)) = rdP 0 [] LS) := by
        show _ = _
        have hl := PI.out.2.2
        rw [PE.out, ← RR.out, rdP_ok NE.out, HWS.out]
        · rw [← HWS.out]; exact ⟨FRM.out, PI.out.1.1 hp⟩
        · rw [← HWS.out, ← hl, ← ML.out]; exact h50
      have hm49 : m < 50 := h50.1
      clear hp h50 SP CN SB PI
      go_region_law (go_simp; go_at_call 69; refine (KO _ (by first | exact SI.out | exact SI.out.below (Below.refl _ _).drew)).out.mono ?_; rintro e w5 ⟨rfl, hB5⟩; have B5 : Hid (Below W4.heap.size W4 w5) := (by first | exact hB5 | exact (Below.refl _ _).drew.trans hB5); have z0 := (R4.out.below B5.out R4.out.lt).cell 0; have z1 := (R4.out.below B5.out R4.out.lt).cell 1; have z2 := (R4.out.below B5.out R4.out.lt).cell 2; have z3 := (R4.out.below B5.out R4.out.lt).cell 3; have z4 := (R4.out.below B5.out R4.out.lt).cell 4; clear hB5; dsimp only)
      all_goals
        have P5 := hid (P4.out.below B5.out)
        have S5 := hid (S4.out.below B5.out)
        have BZ : Hid (w1.heap.size ≤ w5.heap.size) := Nat.le_trans B4.out.size B5.out.size
        have B6 := hid (B4.out.trans (B5.out.mono B4.out.size))
        go_wp2_with (refine append_st w1.heap.size w5 (by rfl) (.tmp 36) (.tmp 38) (by rfl) _ Rs s (by rfl) P5.out.own BZ.out (by rfl) (by have := HMR.out; omega) ?_; intro v6 w6 hO6 hg6)
        have P6 : Hid (PolAt w6 w1.heap.size v6 (acc ++ [PP])) := P5.out.snoc S5.out (by have h1 := P0.out.hi; have h2 := B2.out.size; omega) (by have h1 := A4.out.size; have h2 := B5.out.size; omega) hO6 hg6
        have B7 : Hid (Below w1.heap.size w1 w6) := B6.out.grown hg6 BZ.out fun k hk => (P5.out.own.row hk).1
        clear hO6 hg6 z0 z1 z2 z3 z4
        go_wp2
        go_roundw
        case rel => exact ⟨i + 1, acc ++ [PP], by omega, by go_num, P6.out, by have := ML.out; simp; omega, B7.out, NX.out⟩
        case measure => simp [intOf]; omega
    · have d3 : ¬ (i : Int) < (n : Int) := by omega
      have FIN : Hid (rdP 0 [] LS = (0, 0, acc)) := by
        show _ = _
        rw [← RR.out, List.drop_of_length_le (by have := HN.out; omega), rdP]
      have BF : Hid (Below w.heap.size w wr) := B1.out.trans (BB.out.mono B1.out.size)
      go_wp2
      go_ret
      exact ⟨.inl ⟨_, acc, rfl, FIN.out, PolAt.monoB ⟨Rs, X, P0.out⟩ B1.out.size⟩, BF.out⟩
end Go.Proofs.YtmjolkagkeonfaaGreatDoor
