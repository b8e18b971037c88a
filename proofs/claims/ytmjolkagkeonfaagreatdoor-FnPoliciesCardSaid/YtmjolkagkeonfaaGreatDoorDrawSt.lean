import Derived.Test.YtmjolkagkeonfaaGreatDoorDrawSt9
import Derived.Test.YtmjolkagkeonfaaGreatDoorDrawSt13
namespace Go.Proofs.YtmjolkagkeonfaaGreatDoor
open Go.RowKit
set_option linter.unusedVariables false
/-! The draw of statements. -/
/-- how long the list is that lies in a cell -/
def lnAt (w : World) (b p : Nat) : Nat := match w.cell? ⟨b, p, none⟩ with | some (.slice _ n _) => n | _ => 0
theorem rdP_P : ∀ (ls : List ByteArray) (i : Nat) (acc : List PS), (∀ p ∈ acc, psP p ∧ p.cs.length ≤ 10) → ∀ p ∈ (rdP i acc ls).2.2, psP p ∧ p.cs.length ≤ 10
  | [], i, acc, h => by rw [rdP]; exact h
  | l :: r, i, acc, h => by
    by_cases hw : wdsL l = []
    · rw [rdP_skip hw]
      exact rdP_P r _ _ h
    · by_cases hl : lnP (wdsL l)
      · by_cases h3 : acc.length < 50 ∧ (sS (wdsL l)).cs.length ≤ 10
        · rw [rdP_ok hw hl h3]
          refine rdP_P r _ _ fun p hp => ?_
          rcases List.mem_append.1 hp with q | q
          · exact h p q
          · simp at q
            subst q
            exact ⟨hl.2, h3.2⟩
        · rw [rdP_cnt hw hl h3]
          exact fun p hp => by cases hp
      · rw [rdP_syn hw hl]
        exact fun p hp => by cases hp
theorem polP (t : ByteArray) : ∀ i, i < (polO t).2.2.length → (psA (polO t).2.2 i).wo.length ≤ 20 ∧ (psA (polO t).2.2 i).wa.length ≤ 20 ∧ (psA (polO t).2.2 i).cs.length ≤ 10 := by
  have q : ∀ p ∈ (polO t).2.2, psP p ∧ p.cs.length ≤ 10 := by
    unfold polO
    by_cases h : t.size ≤ 10000
    · rw [if_pos h]
      exact rdP_P _ _ _ (fun p hp => by cases hp)
    · rw [if_neg h]
      exact fun p hp => by cases hp
  intro i hi
  have m : psA (polO t).2.2 i ∈ (polO t).2.2 := by
    unfold psA
    rw [List.getD_eq_getElem?_getD, List.getElem?_eq_getElem hi]
    exact List.getElem_mem hi
  obtain ⟨⟨_, h1, h2, _⟩, h3⟩ := q _ m
  exact ⟨h1.2.1, h2.2.1, h3⟩
theorem stU_B {R : Nat → St} {k n : Nat} {s : St} (hB : ∀ i, i < n → StB (R i) 1048576) (hs : StB s 1048576) : ∀ i, i < n → StB (stU R k s i) 1048576 := fun i hi => by
  by_cases e : i = k
  · rw [e, stU_k]; exact hs
  · rw [stU_o _ _ _ e]; exact hB i hi
theorem ssB_snoc {xs : List ByteArray} {y : ByteArray} {a : Option Addr} {c : Nat} (h : lsB xs) (hy : y.size ≤ 1048576) (hl : xs.length + 1 ≤ 1048576) : SSB ⟨a, xs.length + 1, c, atB (xs ++ [y])⟩ 1048576 :=
  ⟨hl, fun i hi => by
    have hi : i < xs.length + 1 := hi
    show (atB (xs ++ [y]) i).size ≤ _
    have hl2 : i < (xs ++ [y]).length := by simp; omega
    have e := atB_get hl2
    have hm := List.mem_of_getElem? e
    rcases List.mem_append.1 hm with q | q
    · exact h.2 _ q
    · rw [List.mem_singleton.1 q]; exact hy⟩
theorem csB_snoc {xs : List Cn} {y : Cn} {a : Option Addr} {c : Nat} (h : cnB xs) (hy : y.tx.size ≤ 1048576) (hl : xs.length + 1 ≤ 1048576) : CSB ⟨a, xs.length + 1, c, atC (xs ++ [y])⟩ 1048576 :=
  ⟨hl, fun i hi => by
    have hi : i < xs.length + 1 := hi
    show (atC (xs ++ [y]) i).tx.size ≤ _
    have hl2 : i < (xs ++ [y]).length := by simp; omega
    have e := atC_get hl2
    have hm := List.mem_of_getElem? e
    rcases List.mem_append.1 hm with q | q
    · exact h.2 _ q
    · rw [List.mem_singleton.1 q]; exact hy⟩
theorem fldP2 (x0 x1 x2 : Value) (w : World) : (Instr.field 28 (.agg #[x0, x1, x2]) 2).run Tryz.prog w = .ok x2 w := by kernel_rfl
set_option maxRecDepth 20000 in
set_option maxHeartbeats 8000000 in
theorem statements_all (W0 w : World) (c : Nat) (a : Option Addr) (len cap p : Nat) (h : Src W0 w c a len cap p) (hp : p ≤ 700000) :
    Calls Tryz.prog 24 #[.pointer (some ⟨c, 0, none⟩)] w fun e w' => (∃ v, e = .returned v ∧ StDR w' w.heap.size v) ∧ (∃ p', Src W0 w' c a len cap p' ∧ p' ≤ p + 3000) ∧ w.grownBy w' (some c) := by
  have hcw := h.lt
  have h0w : W0.heap.size ≤ w.heap.size := h.2.2.2.1.size
  have KP := hid (policy_all W0 w c a len cap p h (by omega))
  clear h
  go_enter Tryz.func24, Tryz.ntmps24
  go_wp2_with fail
  refine KP.out.mono ?_
  rintro e w1 ⟨⟨u, rfl, hu⟩, ⟨p1, hs1, hp1⟩, hg1⟩
  have S1 := hid hs1
  have G1 := hid hg1
  clear hs1 hg1 KP
  have KR := hid (sReadP u (by omega) w1)
  go_wp2_with fail
  refine KR.out.mono ?_
  rintro e w2 ⟨v, rfl, hP, hb2⟩
  have PS := hid hP
  have hw1 : Hid (w.heap.size ≤ w1.heap.size) := G1.out.size
  have S2 := hid (S1.out.belowD hb2)
  have G2 := hid (grown_trans G1.out (below_grown hb2 (some c)))
  have PB := hid (polB u)
  have PL := hid (polP u)
  clear hP hb2 S1 G1 KR
  obtain ⟨L, hL⟩ : ∃ L, L = (polO u).2.2 := ⟨_, rfl⟩
  rw [← hL] at PS PB PL
  clear hL
  obtain ⟨Rs, X, hR⟩ := PS.out
  have PR := hid hR
  clear hR PS
  obtain ⟨av, cv, hv⟩ := PR.out.own.slice
  rw [PR.out.len] at hv
  subst hv
  have fP := fun wx => fldP2 (.int .i64 (polO u).1) (.int .i64 (polO u).2.1) (.slice av L.length cv) wx
  by_cases hL0 : L.length = 0
  · have d0 : ((L.length : Int) == 0) = true := by rw [hL0]; rfl
    clear hL0
    go_wp2
    go_ret
    exact ⟨⟨_, rfl, PR.out.stdR PB.out.1 PB.out.2 hw1.out⟩, ⟨p1, S2.out, by omega⟩, G2.out⟩
  have d0 : ((L.length : Int) == 0) = false := beq_eq_false_iff_ne.2 (by omega)
  have d1 : ¬ (L.length : Int) = 0 := by omega
  go_wp2_with fail
  refine (one_all W0 _ c a len cap p1 6 S2.out (by omega) (by omega) (by omega)).mono ?_
  rintro e w3 ⟨⟨b, rfl⟩, hs3, hg3⟩
  have S3 := hid hs3
  have G3 := hid (grown_trans G2.out hg3)
  clear fP
  have P3 := hid (PR.out.keepC hg3 (by have := hw1.out; omega))
  clear hs3 hg3 S2 G2 PR
  cases b with
  | false =>
    go_wp2
    go_ret
    exact ⟨⟨_, rfl, P3.out.stdR PB.out.1 PB.out.2 hw1.out⟩, ⟨_, S3.out, by omega⟩, G3.out⟩
  | true =>
  have dL : (1 : Int) ≤ (L.length : Int) := by omega
  have dM : (L.length : Int) ≤ 9223372036854775807 := by have := PB.out.1; omega
  go_wp2_with fail
  refine (n_all W0 _ c a len cap (p1 + 1) (L.length : Int) S3.out (by omega) dL dM).mono ?_
  rintro e w4 ⟨⟨r, rfl, hr0, hr1⟩, hs4, hg4⟩
  obtain ⟨k, rfl⟩ := Int.eq_ofNat_of_zero_le hr0
  have hk : k < L.length := by omega
  have S4 := hid hs4
  have G4 := hid (grown_trans G3.out hg4)
  have P4 := hid (P3.out.keepC hg4 (by have := hw1.out; omega))
  clear hs4 hg4 S3 G3 P3 hr0 hr1
  go_wp2_with fail
  refine (n_all W0 _ c a len cap (p1 + 1 + 1) 6 S4.out (by omega) (by omega) (by omega)).mono ?_
  rintro e w5 ⟨⟨r, rfl, hr0, hr1⟩, hs5, hg5⟩
  obtain ⟨j, rfl⟩ := Int.eq_ofNat_of_zero_le hr0
  have hj : j < 6 := by omega
  have S5 := hid hs5
  have G5 := hid (grown_trans G4.out hg5)
  have P5 := hid (P4.out.keepC hg5 (by have := hw1.out; omega))
  clear hs5 hg5 S4 G4 P4 hr0 hr1
  obtain ⟨gS, cc, f, hvv, hSX⟩ := P5.out.sx (W0 := W0) hL0 G5.out hw1.out hcw h0w
  injection hvv with hv1 hv2 hv3
  subst hv1
  subst hv3
  have SX5 := hid hSX
  have HB := hid fun i (hi : i < L.length) => (P5.out.at_ i hi).stB (PB.out.2 i hi)
  have PK := hid (P5.out.at_ k hk)
  have PX0 : Hid (w.heap.size ≤ X k) := by have := P5.out.mono 0 k (by omega) (by omega); have := P5.out.lo; have := hw1.out; show _ ≤ _; omega
  have N50 : Hid (L.length ≤ 50) := PB.out.1
  have PKB := hid (PB.out.2 k hk)
  obtain ⟨pl1, pl2, pl3⟩ := PL.out k hk
  clear hSX
  obtain ⟨R, hR⟩ : ∃ R, R = stA Rs := ⟨_, rfl⟩
  rw [← hR] at SX5 HB PK
  clear hR
  obtain ⟨pk, hpk⟩ : ∃ x, x = psA L k := ⟨_, rfl⟩
  rw [← hpk] at PK PKB pl1 pl2 pl3
  clear hpk
  obtain ⟨lo, hlo⟩ : ∃ x, x = X k := ⟨_, rfl⟩
  obtain ⟨hi, hhi⟩ : ∃ x, x = X (k + 1) := ⟨_, rfl⟩
  rw [← hlo] at PK PX0
  rw [← hhi] at PK
  have SD5 := hid (P5.out.stdR PB.out.1 PB.out.2 hw1.out)
  clear hlo hhi P5 PB hw1
  obtain ⟨n, hn⟩ : ∃ n, n = L.length := ⟨_, rfl⟩
  rw [← hn] at SX5 HB N50 SD5 hk dL dM hL0 d0 d1 ⊢
  clear hn
  have dk : (k : Int) < (n : Int) := by omega
  have LEN := hid PK.out.lens
  rcases (by omega : j = 0 ∨ j = 1 ∨ j = 2 ∨ j = 3 ∨ j = 4 ∨ j = 5) with rfl | rfl | rfl | rfl | rfl | rfl
  · go_wp2_with fail
    refine (n_all W0 _ c a len cap (p1 + 1 + 1 + 1) 4 S5.out (by omega) (by omega) (by omega)).mono ?_
    rintro e w6 ⟨⟨r, rfl, hr0, hr1⟩, hs6, hg6⟩
    have X6 := hid ((SX5.out k 0 hk).1.grow hg6)
    have S6 := hid hs6
    have nc := X6.out.nc
    have q1 := X6.out.row.cell (p := k * 5) (by omega)
    have q2 := X6.out.row.free (k * 5)
    have Y6 := hid (X6.out.set (R' := stU R k { (R k) with ef := r }) (k * 5) (.int .i64 r) (by rw [stF0, stU_k]) (fun q _ hq => stF_q _ _ k 0 (by omega) (fun i hi => stU_o _ _ _ hi) (by intro e; exact absurd rfl e) (by intro _; rw [stU_k]) (by intro _; rw [stU_k]) (by intro _; rw [stU_k]) (by intro _; rw [stU_k]) q hq) (fun i _ hi => stU_o _ _ _ hi))
    have Z6 := hid (S6.out.set (b := gS) (by have := X6.out.b0; have := X6.out.b1; omega) (k * 5) (.int .i64 r))
    have HBk := hid (HB.out k hk)
    clear hs6 hg6
    go_wp2
    go_ret
    exact ⟨⟨_, rfl, Y6.out.std (fun x kp this => by rw [stU_k]; exact ⟨this.wo, this.wa, this.wi, this.cs⟩) (fun b e => ((SX5.out k 0 hk).2 b e).1) (stU_B HB.out ⟨HBk.out.wo, HBk.out.wa, HBk.out.wi, HBk.out.cs⟩) N50.out⟩, ⟨_, Z6.out, by omega⟩, Y6.out.gr⟩
  · obtain ⟨sx, ob⟩ := SX5.out k 1 hk
    have OB := hid ob
    clear ob
    obtain ⟨x1, x2, x3, l1, l2, l3, l4, ⟨a1, b1⟩, _⟩ := PK.out.mem
    have A1 := hid (a1.baseLe PX0.out)
    clear a1 b1
    go_upto_region 9 with fail
    refine st9_wp W0 w c a len cap (p1 + 1 + 1 + 1) gS cv n k f R (stE (R k) 1) pk.wo w5 S5.out sx A1.out ⟨by omega, hk, by omega, hcw, sx.b0, h0w⟩ OB.out ?_
    intro X7 R9 x11 X12 G CP oo pp w6 hS6 hp6 hO2 hY hR9 hx11 _ _
    have S6 := hid hS6
    have Y6 := hid hY
    have O6 := hid hO2.1
    have HBk := hid (HB.out k hk)
    have LB := hid PKB.out.1
    clear hS6 hY hO2
    go_wp2
    go_ret
    refine ⟨⟨_, rfl, Y6.out.std (fun x kp this => by rw [stU_k]; exact ⟨O6.out.kp kp, this.wa, this.wi, this.cs⟩) (fun b e => (O6.out.row e).1) (stU_B HB.out ⟨ssB_snoc LB.out (by omega) (by omega), HBk.out.wa, HBk.out.wi, HBk.out.cs⟩) N50.out⟩, ⟨_, S6.out, by omega⟩, Y6.out.gr⟩
  · have X6 := hid ((SX5.out k 3 hk).1.alloc (.cells #[] 9))
    have S6 := hid (S5.out.alloc (.cells #[] 9))
    have nc := X6.out.nc
    have q1 := X6.out.row.cell (p := k * 5 + 3) (by omega)
    have q2 := X6.out.row.free (k * 5 + 3)
    have Y6 := hid (X6.out.set (R' := stU R k { (R k) with wi := ⟨some ⟨w5.heap.size, 0, none⟩, 0, 0, atB []⟩ }) (k * 5 + 3) (.slice (some ⟨w5.heap.size, 0, none⟩) 0 0) (by rw [stF3, stU_k]) (fun q _ hq => stF_q _ _ k 3 (by omega) (fun i hi => stU_o _ _ _ hi) (by intro _; rw [stU_k]) (by intro _; rw [stU_k]) (by intro _; rw [stU_k]) (by intro e; exact absurd rfl e) (by intro _; rw [stU_k]) q hq) (fun i _ hi => stU_o _ _ _ hi))
    have Z6 := hid (S6.out.set (b := gS) (by have := X6.out.b0; have := X6.out.b1; omega) (k * 5 + 3) (.slice (some ⟨w5.heap.size, 0, none⟩) 0 0))
    have HBk := hid (HB.out k hk)
    go_wp2
    go_ret
    exact ⟨⟨_, rfl, Y6.out.std (fun x kp this => by rw [stU_k]; exact ⟨this.wo, this.wa, ⟨Nat.le_refl _, .inl rfl⟩, this.cs⟩) (fun b e => ((SX5.out k 3 hk).2 b e).1) (stU_B HB.out ⟨HBk.out.wo, HBk.out.wa, ⟨Nat.zero_le _, fun i hi => absurd hi (Nat.not_lt_zero _)⟩, HBk.out.cs⟩) N50.out⟩, ⟨_, Z6.out, by omega⟩, Y6.out.gr⟩
  · obtain ⟨sx, ob⟩ := SX5.out k 4 hk
    have OB := hid ob
    clear ob
    obtain ⟨x1, x2, x3, l1, l2, l3, l4, _, _, _, ⟨a4, b4⟩⟩ := PK.out.mem
    have A1 := hid (a4.baseLe (Nat.le_trans PX0.out (by omega : lo ≤ x3)))
    clear a4 b4
    go_upto_region 13 with fail
    refine st13_wp W0 w c a len cap (p1 + 1 + 1 + 1) gS cv n k f R (stE (R k) 4) pk.cs w5 S5.out sx A1.out ⟨by omega, hk, by omega, hcw, sx.b0, h0w⟩ OB.out ?_
    intro X9 R8 R11 R15 x13 X18 G CP oo pp w6 hS6 hp6 hO2 hY hR8 hR11 hR15 hx13 _ _
    have S6 := hid hS6
    have Y6 := hid hY
    have O6 := hid hO2.1
    have HBk := hid (HB.out k hk)
    have LB := hid PKB.out.2.2.2
    clear hS6 hY hO2
    go_wp2
    go_ret
    refine ⟨⟨_, rfl, Y6.out.std (fun x kp this => by rw [stU_k]; exact ⟨this.wo, this.wa, this.wi, O6.out.kp kp⟩) (fun b e => (O6.out.row e).1) (stU_B HB.out ⟨HBk.out.wo, HBk.out.wa, HBk.out.wi, csB_snoc LB.out (by show x13.size ≤ _; omega) (by omega)⟩) N50.out⟩, ⟨_, S6.out, by omega⟩, Y6.out.gr⟩
  · obtain ⟨sx, ob⟩ := SX5.out k 2 hk
    obtain ⟨x1, x2, x3, l1, l2, l3, l4, _, ⟨a2, b2⟩, _⟩ := PK.out.mem
    have A1 := hid (a2.baseLe (Nat.le_trans PX0.out (by omega : lo ≤ x1)))
    have eE : stE (R k) 2 = { (R k) with wa := ss0 } := rfl
    have LP : Hid (∃ (s : SS) (ys : List ByteArray) (f' : Nat → Value) (o : Option Nat), SX W0 w w5 c gS cv n k f' (stU R k { (R k) with wa := s }) { (R k) with wa := ss0 } o ∧ (∀ b, o = some b → w.heap.size ≤ b ∧ b ≠ gS) ∧ OwnStrs w5 w.heap.size (.slice s.ad s.n s.cap) ys ∧ o = (Value.slice s.ad s.n s.cap).ownBlock ∧ s.ts = atB ys ∧ lsB ys ∧ ys.length ≤ 21) := by
      refine ⟨(R k).wa, pk.wa, f, _, ?_, ob, A1.out, rfl, PK.out.t2, PKB.out.2.1, by omega⟩
      have eR : stU R k { (R k) with wa := (R k).wa } = R := by funext i; unfold stU; by_cases e : i = k <;> simp [e]
      rw [eR]
      exact sx
    clear sx ob a2 b2 A1
    have HBk := hid (HB.out k hk)
    go_wp2_with fail
    go_loopw [] (fun wr => Src W0 wr c a len cap (p1 + 1 + 1 + 1) ∧ ∃ (s : SS) (ys : List ByteArray) (f' : Nat → Value) (o : Option Nat), SX W0 w wr c gS cv n k f' (stU R k { (R k) with wa := s }) { (R k) with wa := ss0 } o ∧ (∀ b, o = some b → w.heap.size ≤ b ∧ b ≠ gS) ∧ OwnStrs wr w.heap.size (.slice s.ad s.n s.cap) ys ∧ o = (Value.slice s.ad s.n s.cap).ownBlock ∧ s.ts = atB ys ∧ lsB ys ∧ ys.length ≤ 21) (fun wr => 21 - lnAt wr gS (k * 5 + 2))
    case atStart => exact ⟨S5.out, LP.out⟩
    case round =>
      obtain ⟨hS, s, ys, f', o, hX, hob, hO, ho, hts, hlb, hyl⟩ := hrel
      obtain ⟨WR, hWR⟩ : ∃ v, v = wr := ⟨_, rfl⟩
      subst hWR
      obtain ⟨sa, sn, sc, st⟩ := s
      dsimp only at hO ho hts
      obtain ⟨rfl, hst⟩ := hO.strsA
      have SS := hid hS
      have XX := hid hX
      have OB := hid hob
      have OO := hid hO
      have TS := hid hts
      have OE := hid ho
      have LB := hid hlb
      have c0 := hX.at_ (k * 5 + 2) (by omega)
      rw [stF2, stU_k] at c0
      dsimp only at c0
      have ME : Hid (lnAt WR gS (k * 5 + 2) = ys.length) := by show _ = _; unfold lnAt; rw [c0]
      clear hS hX hob hO ho hts hlb LP hst
      by_cases hy : ys.length < 21
      · have dy : (ys.length : Int) < 21 := by omega
        have nc := XX.out.nc
        have A2 := hid (XX.out.alloc (.cells #[.string ⟨#[120]⟩] 9))
        have hsz := XX.out.gr.size
        go_wp2_with (at_builtin; refine append_strL w.heap.size WR rfl (.tmp 96) (.tmp 97) rfl _ ys ys.length rfl ⟨#[120]⟩ rfl OO.out hsz rfl (by omega) ?_; intro G CP W3 hO3 hg3 hl3; have hg4 : Hid (WR.grownBy W3 o) := (by rw [OE.out]; exact hg3); have hl4 : Hid (o = some G ∨ WR.heap.size ≤ G) := (by rw [OE.out]; exact hl3); have X3 := hid (XX.out.lies hg4.out hl4.out OB.out); have q1 := X3.out.row.at_ (k * 5 + 2) (by omega); have q2 := X3.out.row.free (k * 5 + 2))
        have O3 := hid hO3
        have GN : Hid (w.heap.size ≤ G ∧ G ≠ gS) := by
          rcases hl4.out with e | e
          · exact OB.out G e
          · exact ⟨by omega, by have := XX.out.row.lt; show G ≠ gS; omega⟩
        clear hO3 hg3 hl3
        have Y3 := hid (X3.out.set (R' := stU R k { (R k) with wa := ⟨some ⟨G, 0, none⟩, ys.length + 1, CP, atB (ys ++ [⟨#[120]⟩])⟩ }) (k * 5 + 2) (.slice (some ⟨G, 0, none⟩) (ys.length + 1) CP) (by rw [stF2, stU_k]) (fun q _ hq => stF_q _ _ k 2 (by omega) (fun i hi => by rw [stU_o _ _ _ hi, stU_o _ _ _ hi]) (by intro _; rw [stU_k, stU_k]) (by intro _; rw [stU_k, stU_k]) (by intro e; exact absurd rfl e) (by intro _; rw [stU_k, stU_k]) (by intro _; rw [stU_k, stU_k]) q hq) (fun i _ hi => by rw [stU_o _ _ _ hi, stU_o _ _ _ hi]))
        have Z3 := hid ((SS.out.far hg4.out (fun e => by have := (OB.out c e.symm).1; omega) (fun g e => by have := (OB.out g e).1; omega)).set (b := gS) (by have := X3.out.b0; have := X3.out.b1; omega) (k * 5 + 2) (.slice (some ⟨G, 0, none⟩) (ys.length + 1) CP))
        have U3 := hid (O3.out.setC (b := gS) (k := k * 5 + 2) (u := .slice (some ⟨G, 0, none⟩) (ys.length + 1) CP) (fun g e => by have e2 : G = g := Option.some.inj e; have := GN.out.2; omega))
        have LB3 : Hid (lsB (ys ++ [⟨#[120]⟩])) := ⟨by rw [List.length_append]; show ys.length + 1 ≤ _; omega, fun x hx => by
          rcases List.mem_append.1 hx with q | q
          · exact LB.out.2 x q
          · rw [List.mem_singleton.1 q]; decide⟩
        have M3 : Hid (lnAt (W3.setCell ⟨gS, k * 5 + 2, none⟩ (.slice (some ⟨G, 0, none⟩) (ys.length + 1) CP)) gS (k * 5 + 2) = ys.length + 1) := by
          have := Y3.out.at_ (k * 5 + 2) (by omega)
          rw [stF2, stU_k] at this
          show _ = _
          unfold lnAt
          rw [this]
        go_roundw
        case rel => exact ⟨Z3.out, ⟨some ⟨G, 0, none⟩, ys.length + 1, CP, atB (ys ++ [⟨#[120]⟩])⟩, ys ++ [⟨#[120]⟩], _, some G, Y3.out, fun b e => by have e2 : G = b := Option.some.inj e; subst e2; exact GN.out, U3.out, rfl, rfl, LB3.out, by rw [List.length_append]; show ys.length + 1 ≤ _; omega⟩
        case measure =>
          rw [M3.out, ME.out]
          omega
      · have dy : ¬ (ys.length : Int) < 21 := by omega
        have SB := hid (XX.out.std (fun x kp this => by rw [stU_k]; exact ⟨this.wo, by rw [TS.out]; exact OO.out.kp kp, this.wi, this.cs⟩) (fun b e => (OB.out b e).1) (stU_B HB.out ⟨HBk.out.wo, ⟨by show ys.length ≤ _; omega, fun i hi => by show (st i).size ≤ _; rw [TS.out]; exact lsB_at LB.out i hi⟩, HBk.out.wi, HBk.out.cs⟩) N50.out)
        go_wp2
        go_ret
        exact ⟨⟨_, rfl, SB.out⟩, ⟨_, SS.out, by omega⟩, XX.out.gr⟩
  · go_wp2
    go_ret
    exact ⟨⟨_, rfl, SD5.out⟩, ⟨_, S5.out, by omega⟩, G5.out⟩
end Go.Proofs.YtmjolkagkeonfaaGreatDoor
