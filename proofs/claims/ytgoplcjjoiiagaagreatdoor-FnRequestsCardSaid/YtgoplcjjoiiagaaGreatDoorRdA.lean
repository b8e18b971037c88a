import Derived.Test.YtgoplcjjoiiagaaGreatDoorRdF
import Derived.Test.YtgoplcjjoiiagaaGreatDoorRdO
namespace Go.Proofs.YtgoplcjjoiiagaaGreatDoor
open Go.RowKit Go.Shelf
/-! The program's takeHeaders. -/
def lenN : List UInt8 := [108, 101, 110, 103, 116, 104]
theorem lenTL : (⟨#[108, 101, 110, 103, 116, 104]⟩ : ByteArray).toList = [108, 101, 110, 103, 116, 104] := by first | decide | kernel_rfl | simp
theorem len_cut (t : List UInt8) : lenS <+: t ↔ ∃ vl, cutP [58, 32] t = some (lenN, vl) := by
  constructor
  · rintro ⟨r, rfl⟩
    exact ⟨r, by simp [lenS, lenN, cutP, List.isPrefixOf]⟩
  · rintro ⟨vl, h⟩
    have := cutP_parts h
    exact ⟨vl, by rw [this]; simp [lenS, lenN]⟩
theorem len_drop {t vl : List UInt8} (h : cutP [58, 32] t = some (lenN, vl)) : t.drop 8 = vl := by
  rw [cutP_parts h]
  simp [lenN]
theorem rq_hdrs {m p : ByteArray} {Q H : List Hp} (h0 : rqP (mkRq m p Q [] ⟨#[]⟩)) : rqP (mkRq m p Q H ⟨#[]⟩) ↔ dfP H.length (hAt H) ∧ ∀ i, i < H.length → hdP (hAt H i) := by
  obtain ⟨a, b, c, _, e, f, _⟩ := h0
  constructor
  · rintro ⟨_, _, _, d, _, _, g⟩
    exact ⟨d, g⟩
  · rintro ⟨d, g⟩
    exact ⟨a, b, c, d, e, f, g⟩
theorem RdV.far {w w' : World} {q : Nat} (h : RdV w) (hG : GlB q) (hq : q < w.heap.size) (hg : w.grownBy w' (some q)) : RdV w' := h.low hG fun k hk => hg.block k (by omega) (fun e => by cases e; omega)
structure HdI (w : World) (q : Nat) (D : ByteArray) (wr : World) (p ln : Nat) (v : Value) (H : List Hp) : Prop where
  r : RdAt wr q D p ln
  o : OwnHp wr w.heap.size v H
  g : w.grownBy wr (some q)
theorem HdI.below {w : World} {q : Nat} {D : ByteArray} {wr w2 : World} {p ln : Nat} {v : Value} {H : List Hp} (h : HdI w q D wr p ln v H) (hb : Below wr.heap.size wr w2) : HdI w q D w2 p ln v H :=
  ⟨RowAt.below h.r hb (RowAt.lt h.r), OwnHp.next hb h.o, grown_trans h.g (below_grown hb _)⟩
theorem HdI.drewN {w : World} {q : Nat} {D : ByteArray} {wr : World} {p ln : Nat} {v : Value} {H : List Hp} (h : HdI w q D wr p ln v H) (n : Nat) : HdI w q D (wr.drewN n) p ln v H :=
  ⟨h.r, h.o, ⟨h.g.os, h.g.tape, h.g.output, h.g.size, h.g.block⟩⟩
/-- a line has been taken -/
theorem HdI.line {w : World} {q : Nat} {D : ByteArray} {wr w2 : World} {p ln p' ln' : Nat} {v : Value} {H : List Hp} (h : HdI w q D wr p ln v H) (hq : q < w.heap.size) (hr : RdAt w2 q D p' ln') (hg : wr.grownBy w2 (some q)) : HdI w q D w2 p' ln' v H :=
  ⟨hr, World.ownsRow.kept h.o hg (by
    right
    intro e
    have := (World.ownsRow.lt h.o q e).1
    omega), grown_trans h.g hg⟩
def HdO (m pt : ByteArray) (Q : List Hp) (f0 ln0 : Nat) (R0 : List UInt8) (D : ByteArray) (w w' : World) (v : Value) (z c : Int) (p ln : Nat) : Prop :=
  (c = 2 ∧ rdH m pt Q f0 ln0 [] R0 = .short) ∨ (c = 3 ∧ rdH m pt Q f0 ln0 [] R0 = .bad ln) ∨ (c = 0 ∧ ∃ (H : List Hp) (k : Nat), z = (k : Int) ∧ k ≤ 100000 ∧ H.length ≤ 30 ∧ OwnHp w' w.heap.size v H ∧ rdH m pt Q f0 ln0 [] R0 = rdE m pt Q H ln k (D.data.toList.drop p))
def rdMs (D : ByteArray) (q : Nat) (W : World) : Nat := match W.cell? ⟨q, 1, none⟩ with | some (.int _ z) => D.size + 1 - z.toNat | _ => 0
set_option maxRecDepth 20000 in
set_option maxHeartbeats 2000000 in
theorem iHdrs (m pt : ByteArray) (Q : List Hp) (hr0 : rqP (mkRq m pt Q [] ⟨#[]⟩)) (q : Nat) (D : ByteArray) (p0 ln0 f0 : Nat) (hf : (D.data.toList.drop p0).length < f0) (w : World) (h : RdAt w q D p0 ln0) (hp : p0 ≤ D.size) (hd : D.size ≤ 1048576) (hl : ln0 ≤ p0) (hv : RdV w) (hG : GlB q) :
    Calls Tryz.prog 74 #[.pointer (some ⟨q, 0, none⟩)] w fun e w' => (∃ v z c p ln, e = .returned (.tuple #[v, .int .i64 z, .int .i64 c]) ∧ RdAt w' q D p ln ∧ p ≤ D.size ∧ ln ≤ D.size + 1 ∧ HdO m pt Q f0 (ln0 + 1) (D.data.toList.drop p0) D w w' v z c p ln) ∧ w.grownBy w' (some q) := by
  have hq : q < w.heap.size := RowAt.lt h
  have I0 : Hid (HdI w q D w p0 ln0 (.slice none 0 0) []) := ⟨h, OwnHp.nil _ _, below_grown (Below.refl _ _) _⟩
  have HF := hid hf
  have HV := hid hv
  have HG := hid hG
  have HR := hid hr0
  clear h hf hv hG hr0
  go_enter Tryz.func74, Tryz.ntmps74
  go_wp2_with fail
  go_loopw [5] (fun v wr => ∃ (p ln f : Nat) (H : List Hp), HdI w q D wr p ln v H ∧ p ≤ D.size ∧ ln ≤ p ∧ (D.data.toList.drop p).length < f ∧ H.length ≤ 30 ∧ (∀ x ∈ H, x.nm.size ≤ 1048576 ∧ x.vl.size ≤ 1048576) ∧ rdH m pt Q f0 (ln0 + 1) [] (D.data.toList.drop p0) = rdH m pt Q f (ln + 1) H (D.data.toList.drop p)) (fun _ wr => rdMs D q wr)
  case atStart => exact ⟨p0, ln0, f0, [], I0.out, hp, hl, HF.out, Nat.zero_le _, (fun x hx => by cases hx), rfl⟩
  case round =>
    obtain ⟨p, ln, f, H, hI, hpp, hlp, hff, hH, hB, hE⟩ := hrel
    obtain ⟨f', rfl⟩ : ∃ f', f = f' + 1 := ⟨f - 1, by omega⟩
    have II := hid hI
    have HE := hid hE
    have HBB := hid hB
    have MS : Hid (rdMs D q wr = D.size + 1 - p) := by
      show _ = _
      unfold rdMs
      rw [show wr.cell? ⟨q, 1, none⟩ = some (.int .i64 (p : Int)) from RowAt.cell hI.r 1]
      show D.size + 1 - ((p : Int)).toNat = _
      omega
    have KL := hid (rLine q D p ln wr hI.r hpp hd (by omega) (HV.out.far HG.out hq hI.g) (by have := HG.out.1; omega))
    obtain ⟨a5, cp5, hv5, _⟩ := hI.o.hps
    subst hv5
    clear hI hE I0 hB
    go_wp2_with fail
    refine KL.out.mono ?_
    rintro e w2 ⟨⟨t, ok, p', rfl, hln, htz, hr2⟩, hg2⟩
    have I2 := hid (II.out.line hq hr2 hg2)
    clear hr2 hg2 II KL
    cases ok with
    | false =>
      have FN : Hid (rdH m pt Q f0 (ln0 + 1) [] (D.data.toList.drop p0) = .short ∧ p' = p) := by
        rcases hln with ⟨_, h1, h2⟩ | ⟨h1, _⟩
        · exact ⟨by rw [HE.out]; exact rdH_none h1, h2⟩
        · cases h1
      clear hln
      go_wp2
      go_ret3
      exact ⟨⟨_, 0, 2, p', ln + 1, rfl, I2.out.r, by rw [FN.out.2]; exact hpp, by omega, .inl ⟨rfl, FN.out.1⟩⟩, I2.out.g⟩
    | true =>
      have LN : Hid (cutP [10] (D.data.toList.drop p) = some (t.data.toList, D.data.toList.drop p') ∧ p' = p + t.size + 1 ∧ p' ≤ D.size) := by
        rcases hln with ⟨h1, _⟩ | ⟨_, h1⟩
        · cases h1
        · exact h1
      have V2 := hid (HV.out.far HG.out hq I2.out.g)
      obtain ⟨nm, vl, pd, hc⟩ : ∃ a b c, cutV [58, 32] t.data.toList = (a, b, c) := ⟨_, _, _, rfl⟩
      have KC := hid (iCutS t ⟨#[58, 32]⟩ (by omega) w2 V2.out)
      have e1 : cutV (⟨#[58, 32]⟩ : ByteArray).data.toList t.data.toList = (nm, vl, pd) := hc
      rw [e1] at KC
      dsimp only at KC
      have zz : nm.length ≤ t.size ∧ vl.length ≤ t.size := by
        have h1 := hc
        unfold cutV at h1
        rw [← baLen]
        cases hq9 : cutP [58, 32] t.data.toList with
        | none => rw [hq9] at h1; cases h1; simp
        | some x =>
          rw [hq9] at h1
          cases h1
          have := congrArg List.length (cutP_parts hq9)
          simp at this
          simp
          omega
      have HC := hid hc
      have hp1 := LN.out.2.1
      have hp2 := LN.out.2.2
      have HZ := hid zz
      have HTZ := hid htz
      have hps : p + 1 ≤ p' := by omega
      clear hln e1 hc zz hp1
      obtain ⟨NM, hNM⟩ : ∃ x, x = ofL nm := ⟨_, rfl⟩
      obtain ⟨VL, hVL⟩ : ∃ x, x = ofL vl := ⟨_, rfl⟩
      rw [← hNM, ← hVL] at KC
      have HNM := hid hNM
      have HVL := hid hVL
      clear hNM hVL
      by_cases hlen : pd = true ∧ nm = lenN
      · obtain ⟨rfl, rfl⟩ := hlen
        have hcp : cutP [58, 32] t.data.toList = some (lenN, vl) := by
          have h1 := HC.out
          unfold cutV at h1
          cases hq9 : cutP [58, 32] t.data.toList with
          | none => rw [hq9] at h1; simp at h1
          | some x =>
            rw [hq9] at h1
            obtain ⟨x1, x2⟩ := x
            have : x1 = lenN ∧ x2 = vl := by simpa using h1
            rw [this.1, this.2]
        have LS : Hid (lenS <+: t.data.toList ∧ t.data.toList.drop 8 = vl) := ⟨(len_cut _).2 ⟨vl, hcp⟩, len_drop hcp⟩
        have eqn : (NM.toList == (⟨#[108, 101, 110, 103, 116, 104]⟩ : ByteArray).toList) = true := (eqL _ _).trans (decide_eq_true (by rw [HNM.out]; rfl))
        have eqm : (NM.toList == [108, 101, 110, 103, 116, 104]) = true := by
          rw [← lenTL]
          exact eqn
        clear eqn
        have VZ : VL.size ≤ 1048576 := by rw [HVL.out, ofL_size]; have := HZ.out.2; have := HTZ.out; omega
        have KD := fun wx (hx : RdV wx) => hid (iRDec VL VZ wx hx)
        clear hcp
        go_wp2_with fail
        refine KC.out.mono ?_
        rintro e w3 ⟨rfl, k3, hw3⟩
        have I3 : Hid (HdI w q D w3 p' (ln + 1) (.slice a5 H.length cp5) H) := by rw [hw3]; exact I2.out.drewN k3
        clear hw3 I2 V2 KC
        have V3 := hid (HV.out.far HG.out hq I3.out.g)
        go_wp2_with fail
        refine (KD _ V3.out).out.mono ?_
        rintro e w4 ⟨⟨z, rfl, hz⟩, hb4⟩
        have I4 := hid (I3.out.below hb4)
        clear hb4 I3 V3 KD
        rw [HVL.out, ofL_l] at hz
        by_cases hz0 : 0 ≤ z ∧ z ≤ 100000
        · obtain ⟨n, rfl⟩ := Int.eq_ofNat_of_zero_le hz0.1
          have hn := ((hz.2 n).1 rfl).2
          have d0 : decide ((n : Int) < 0) = false := by simp
          have d1 : decide ((100000 : Int) < (n : Int)) = false := by simp; omega
          have hn2 : n ≤ 100000 := by omega
          have FN : Hid (rdH m pt Q f0 (ln0 + 1) [] (D.data.toList.drop p0) = rdE m pt Q H (ln + 1) n (D.data.toList.drop p')) := by
            show _ = _
            rw [HE.out, rdH_len LN.out.1 LS.out.1 (by rw [LS.out.2]; exact ⟨n, hn2, hn⟩), LS.out.2, hn, numL_dec]
          clear hz hn
          go_wp2
          go_ret3
          exact ⟨⟨_, _, 0, p', ln + 1, rfl, I4.out.r, hp2, by omega, .inr (.inr ⟨rfl, H, n, rfl, hn2, hH, I4.out.o, FN.out⟩)⟩, I4.out.g⟩
        · have FN : Hid (rdH m pt Q f0 (ln0 + 1) [] (D.data.toList.drop p0) = .bad (ln + 1)) := by
            show _ = _
            rw [HE.out]
            refine rdH_lenBad LN.out.1 LS.out.1 ?_
            rw [LS.out.2]
            rintro ⟨n, hn, he⟩
            have := (hz.2 n).2 ⟨by omega, he⟩
            exact hz0 (by omega)
          by_cases hzn : z < 0
          · have d0 : decide (z < 0) = true := by simp; omega
            clear hz hz0
            go_wp2
            go_ret3
            exact ⟨⟨_, 0, 3, p', ln + 1, rfl, I4.out.r, hp2, by omega, .inr (.inl ⟨rfl, FN.out⟩)⟩, I4.out.g⟩
          · have d0 : decide (z < 0) = false := by simp; omega
            have d1 : decide ((100000 : Int) < z) = true := by simp; omega
            clear hz hz0
            go_wp2
            go_ret3
            exact ⟨⟨_, 0, 3, p', ln + 1, rfl, I4.out.r, hp2, by omega, .inr (.inl ⟨rfl, FN.out⟩)⟩, I4.out.g⟩
      · have NL : Hid (¬ lenS <+: t.data.toList) := fun h9 => by
          obtain ⟨v9, h9⟩ := (len_cut _).1 h9
          have h1 := HC.out
          unfold cutV at h1
          rw [h9] at h1
          have : lenN = nm ∧ v9 = vl ∧ true = pd := by simpa using h1
          exact hlen ⟨this.2.2.symm, this.1.symm⟩
        have NZ : NM.size ≤ 1048576 := by rw [HNM.out, ofL_size]; have := HZ.out.1; have := HTZ.out; omega
        have VZ : VL.size ≤ 1048576 := by rw [HVL.out, ofL_size]; have := HZ.out.2; have := HTZ.out; omega
        have KN := fun wx => hid (clone_any NM wx (by omega))
        have KV := fun wx => hid (clone_any VL wx (by omega))
        have hlen6 : H.length + 1 ≤ 1048576 := by omega
        have HNZ := hid NZ
        have HVZ := hid VZ
        clear NZ VZ
        cases pd with
        | false =>
          have CN : Hid (cutP [58, 32] t.data.toList = none) := by
            have h1 := HC.out
            unfold cutV at h1
            cases hq9 : cutP [58, 32] t.data.toList with
            | none => rfl
            | some x => rw [hq9] at h1; simp at h1
          have FN : Hid (rdH m pt Q f0 (ln0 + 1) [] (D.data.toList.drop p0) = .bad (ln + 1)) := by show _ = _; rw [HE.out]; exact rdH_bad LN.out.1 NL.out CN.out
          clear hlen
          go_wp2_with fail
          refine KC.out.mono ?_
          rintro e w3 ⟨rfl, k3, hw3⟩
          have I3 : Hid (HdI w q D w3 p' (ln + 1) (.slice a5 H.length cp5) H) := by rw [hw3]; exact I2.out.drewN k3
          clear hw3 I2 V2 KC
          go_wp2_with fail
          refine (KN _).out.mono ?_
          rintro e w4 ⟨rfl, hb4⟩
          have I4 := hid (I3.out.below hb4)
          clear hb4 I3
          go_wp2_with fail
          refine (KV _).out.mono ?_
          rintro e w5 ⟨rfl, hb5⟩
          have I5 := hid (I4.out.below hb5)
          clear hb5 I4
          have z5 : Hid (w.heap.size ≤ w5.heap.size) := I5.out.g.size
          go_wp2_with (first | (at_builtin; refine append_hp1 w.heap.size w5 rfl (.tmp 40) (.tmp 46) 23 rfl Tryz.underlying23 infoPr (.slice a5 H.length cp5) H NM VL rfl I5.out.o z5.out rfl hlen6 ?_) | go_in)
          intro v' w6 hO6 hg6
          obtain ⟨a6, cp6, hv6, hh6⟩ := hO6.hps
          subst hv6
          have I6 : Hid (HdI w q D w6 p' (ln + 1) (.slice a6 (H ++ [(⟨NM, VL⟩ : Hp)]).length cp6) (H ++ [(⟨NM, VL⟩ : Hp)])) :=
            ⟨(hg6.block q (RowAt.lt I5.out.r) (OwnHp.apart I5.out.o hq)).trans I5.out.r, hO6, grown_own I5.out.g hg6 (fun g e => (World.ownsRow.lt I5.out.o g e).1) (Nat.le_refl _)⟩
          have P6 := hid hh6
          clear hg6 hO6 hh6 I5
          obtain ⟨N6, hN6⟩ : ∃ n, n = (H ++ [(⟨NM, VL⟩ : Hp)]).length := ⟨_, rfl⟩
          rw [← hN6] at I6 P6 ⊢
          clear hN6
          go_wp2
          go_ret3
          exact ⟨⟨_, 0, 3, p', ln + 1, rfl, I6.out.r, hp2, by omega, .inr (.inl ⟨rfl, FN.out⟩)⟩, I6.out.g⟩
        | true =>
          have CS : Hid (cutP [58, 32] t.data.toList = some (nm, vl)) := by
            have h1 := HC.out
            unfold cutV at h1
            cases hq9 : cutP [58, 32] t.data.toList with
            | none => rw [hq9] at h1; simp at h1
            | some x =>
              rw [hq9] at h1
              obtain ⟨x1, x2⟩ := x
              have : x1 = nm ∧ x2 = vl := by simpa using h1
              rw [this.1, this.2]
              exact rfl
          have nne : nm ≠ lenN := fun e => hlen ⟨rfl, e⟩
          have eqn : (NM.toList == (⟨#[108, 101, 110, 103, 116, 104]⟩ : ByteArray).toList) = false := (eqL _ _).trans (decide_eq_false (fun e => nne (by
            have := congrArg (fun b : ByteArray => b.data.toList) e
            rw [HNM.out] at this
            simp only [ofL_l] at this
            exact this)))
          have eqm : (NM.toList == [108, 101, 110, 103, 116, 104]) = false := by
            rw [← lenTL]
            exact eqn
          clear eqn nne hlen
          go_wp2_with fail
          refine KC.out.mono ?_
          rintro e w3 ⟨rfl, k3, hw3⟩
          have I3 : Hid (HdI w q D w3 p' (ln + 1) (.slice a5 H.length cp5) H) := by rw [hw3]; exact I2.out.drewN k3
          clear hw3 I2 V2 KC
          go_wp2_with fail
          refine (KN _).out.mono ?_
          rintro e w4 ⟨rfl, hb4⟩
          have I4 := hid (I3.out.below hb4)
          clear hb4 I3
          go_wp2_with fail
          refine (KV _).out.mono ?_
          rintro e w5 ⟨rfl, hb5⟩
          have I5 := hid (I4.out.below hb5)
          clear hb5 I4
          have z5 : Hid (w.heap.size ≤ w5.heap.size) := I5.out.g.size
          go_wp2_with (first | (at_builtin; refine append_hp1 w.heap.size w5 rfl (.tmp 40) (.tmp 46) 23 rfl Tryz.underlying23 infoPr (.slice a5 H.length cp5) H NM VL rfl I5.out.o z5.out rfl hlen6 ?_) | go_in)
          intro v' w6 hO6 hg6
          obtain ⟨a6, cp6, hv6, hh6⟩ := hO6.hps
          subst hv6
          have I6 : Hid (HdI w q D w6 p' (ln + 1) (.slice a6 (H ++ [(⟨NM, VL⟩ : Hp)]).length cp6) (H ++ [(⟨NM, VL⟩ : Hp)])) :=
            ⟨(hg6.block q (RowAt.lt I5.out.r) (OwnHp.apart I5.out.o hq)).trans I5.out.r, hO6, grown_own I5.out.g hg6 (fun g e => (World.ownsRow.lt I5.out.o g e).1) (Nat.le_refl _)⟩
          have P6 := hid hh6
          clear hg6 hO6 hh6 I5
          obtain ⟨N6, hN6⟩ : ∃ n, n = (H ++ [(⟨NM, VL⟩ : Hp)]).length := ⟨_, rfl⟩
          rw [← hN6] at I6 P6 ⊢
          have BB : Hid (∀ x ∈ H ++ [(⟨NM, VL⟩ : Hp)], x.nm.size ≤ 1048576 ∧ x.vl.size ≤ 1048576) := fun x hx => by
            rcases List.mem_append.1 hx with hx | hx
            · exact HBB.out x hx
            · rw [List.mem_singleton.1 hx]; exact ⟨HNZ.out, HVZ.out⟩
          have KP := hid (iPairsH a6 N6 cp6 (hAt (H ++ [(⟨NM, VL⟩ : Hp)])) (by rw [hN6, List.length_append]; simp; omega) (fun i hi => hAt_bd BB.out i (by rw [← hN6]; exact hi)) w6 P6.out)
          have RQ : Hid ((dfP N6 (hAt (H ++ [(⟨NM, VL⟩ : Hp)])) ∧ ∀ i, i < N6 → hdP (hAt (H ++ [(⟨NM, VL⟩ : Hp)]) i)) ↔ rqP (mkRq m pt Q (H ++ [(⟨NM, VL⟩ : Hp)]) ⟨#[]⟩)) := by rw [hN6]; exact (rq_hdrs HR.out).symm
          have NN : Hid (ofL nm = NM ∧ ofL vl = VL) := ⟨HNM.out.symm, HVL.out.symm⟩
          have HN6 := hid hN6
          clear hN6 P6
          by_cases hok : dfP N6 (hAt (H ++ [(⟨NM, VL⟩ : Hp)])) ∧ ∀ i, i < N6 → hdP (hAt (H ++ [(⟨NM, VL⟩ : Hp)]) i)
          · rw [pb_t hok] at KP
            have FN : Hid (rdH m pt Q f0 (ln0 + 1) [] (D.data.toList.drop p0) = rdH m pt Q f' (ln + 1 + 1) (H ++ [(⟨NM, VL⟩ : Hp)]) (D.data.toList.drop p')) := by
              show _ = _
              rw [HE.out, rdH_go LN.out.1 NL.out CS.out (by rw [NN.out.1, NN.out.2]; exact RQ.out.1 hok), NN.out.1, NN.out.2]
            have L30 : Hid ((H ++ [(⟨NM, VL⟩ : Hp)]).length ≤ 30) := by show _ ≤ _; rw [← HN6.out]; exact hok.1.1
            clear hok RQ
            go_wp2_with fail
            refine KP.out.mono ?_
            rintro e w7 ⟨rfl, hb7⟩
            have I7 := hid (I6.out.below hb7)
            rw [HN6.out] at I7
            clear hb7 I6 KP
            go_wp2
            go_roundw
            case rel => exact ⟨p', ln + 1, f', H ++ [(⟨NM, VL⟩ : Hp)], by rw [HN6.out]; exact I7.out, hp2, by omega, by
              have h1 := hff
              rw [List.length_drop, baLen] at h1 ⊢
              omega, L30.out, BB.out, FN.out⟩
            case measure =>
              rw [MS.out]
              have e9 : rdMs D q w7 = D.size + 1 - p' := by
                unfold rdMs
                rw [show w7.cell? ⟨q, 1, none⟩ = some (.int .i64 (p' : Int)) from RowAt.cell I7.out.r 1]
                show D.size + 1 - ((p' : Int)).toNat = _
                omega
              rw [e9]
              omega
          · rw [pb_f hok] at KP
            have FN : Hid (rdH m pt Q f0 (ln0 + 1) [] (D.data.toList.drop p0) = .bad (ln + 1)) := by
              show _ = _
              rw [HE.out]
              exact rdH_no LN.out.1 NL.out CS.out (by rw [NN.out.1, NN.out.2]; exact fun h => hok (RQ.out.2 h))
            clear hok RQ
            go_wp2_with fail
            refine KP.out.mono ?_
            rintro e w7 ⟨rfl, hb7⟩
            have I7 := hid (I6.out.below hb7)
            clear hb7 I6 KP
            go_wp2
            go_ret3
            exact ⟨⟨_, 0, 3, p', ln + 1, rfl, I7.out.r, hp2, by omega, .inr (.inl ⟨rfl, FN.out⟩)⟩, I7.out.g⟩
end Go.Proofs.YtgoplcjjoiiagaaGreatDoor
namespace Go.Proofs.YtgoplcjjoiiagaaGreatDoor
open Go.RowKit Go.Shelf
/-! The program's takeBody, takeFirstLine. -/
def BdO (m pt : ByteArray) (Q H : List Hp) (ln n : Nat) (D : ByteArray) (p : Nat) (b : ByteArray) (c : Int) (p' : Nat) : Prop :=
  (c = 2 ∧ rdE m pt Q H ln n (D.data.toList.drop p) = .short) ∨ (c = 3 ∧ rdE m pt Q H ln n (D.data.toList.drop p) = .bad (ln + 1)) ∨ (c = 0 ∧ p' ≤ D.size ∧ rdE m pt Q H ln n (D.data.toList.drop p) = .ok m pt Q H b (D.size - p'))
set_option maxRecDepth 20000 in
set_option maxHeartbeats 2000000 in
theorem iBody (m pt : ByteArray) (Q H : List Hp) (q : Nat) (D : ByteArray) (p ln n : Nat) (w : World) (h : RdAt w q D p ln) (hp : p ≤ D.size) (hd : D.size ≤ 1048576) (hl : ln ≤ 1048577) (hn : n ≤ 100000) :
    Calls Tryz.prog 75 #[.pointer (some ⟨q, 0, none⟩), .int .i64 (n : Int)] w fun e w' => (∃ b c p', e = .returned (.tuple #[.string b, .int .i64 c]) ∧ RdAt w' q D p' (ln + 1) ∧ BdO m pt Q H ln n D p b c p') ∧ w.grownBy w' (some q) := by
  have c2 : w.cell? ⟨q, 2, none⟩ = some (.int .i64 (ln : Int)) := RowAt.cell h 2
  have f2 := RowAt.free h 2
  obtain ⟨W1, hW1⟩ : ∃ W, W = w.setCell ⟨q, 2, none⟩ (.int .i64 ((ln : Int) + 1)) := ⟨_, rfl⟩
  have R1 : Hid (RdAt W1 q D p (ln + 1)) := by
    unfold RdAt
    rw [hW1, show ((ln + 1 : Nat) : Int) = (ln : Int) + 1 by omega]
    exact RowAt.set h 2 _
  have G1 : Hid (w.grownBy W1 (some q)) := by rw [hW1]; exact grown_set
  clear h
  by_cases hpe : p = D.size
  · have K := hid (rByte_no q D p (ln + 1) W1 R1.out hpe hd)
    have FN : Hid (rdE m pt Q H ln n (D.data.toList.drop p) = .short) := by
      show _ = _
      rw [hpe, List.drop_of_length_le (by rw [baLen]; exact Nat.le_refl _)]
      rfl
    clear hpe
    go_enter Tryz.func75, Tryz.ntmps75
    go_wp2_with fail
    rw [← hW1]
    clear hW1
    refine K.out.mono ?_
    rintro e w2 ⟨rfl, hw⟩
    obtain rfl := hw.symm
    go_wp2
    go_ret2
    exact ⟨⟨_, 2, p, rfl, R1.out, .inl ⟨rfl, FN.out⟩⟩, G1.out⟩
  · have hlt : p < D.size := by omega
    have K := hid (rByte_yes q D p (ln + 1) W1 R1.out hlt hd)
    have hdr : D.data.toList.drop p = (D[p]'hlt) :: D.data.toList.drop (p + 1) := by
      have h1 : p < D.data.toList.length := by rw [baLen]; exact hlt
      rw [List.drop_eq_getElem_cons h1]
      rfl
    have HDR := hid hdr
    by_cases h10 : (D[p]'hlt) = 10
    · have e10 : ((D[p]'hlt).toNat : Int) = 10 := by rw [h10]; rfl
      rw [e10] at K
      by_cases hnz : D.size - (p + 1) < n
      · have FN : Hid (rdE m pt Q H ln n (D.data.toList.drop p) = .short) := by
          show _ = _
          rw [HDR.out, rdE, if_pos h10, if_pos (by rw [List.length_drop, baLen]; exact hnz)]
        have KB := fun wx (hx : RdAt wx q D (p + 1) (ln + 1)) => hid (rBytes_no q D (p + 1) (ln + 1) wx n hx (by omega) hd hnz)
        clear hdr h10 e10 hnz
        go_enter Tryz.func75, Tryz.ntmps75
        go_wp2_with fail
        rw [← hW1]
        clear hW1
        refine K.out.mono ?_
        rintro e w2 ⟨rfl, hr2, hg2⟩
        have R2 := hid hr2
        have G2 := hid (grown_trans G1.out hg2)
        clear hr2 hg2
        go_wp2_with fail
        refine (KB _ R2.out).out.mono ?_
        rintro e w3 ⟨rfl, hw⟩
        obtain rfl := hw.symm
        go_wp2
        go_ret2
        exact ⟨⟨_, 2, p + 1, rfl, R2.out, .inl ⟨rfl, FN.out⟩⟩, G2.out⟩
      · have FN : Hid (rdE m pt Q H ln n (D.data.toList.drop p) = .ok m pt Q H (D.extract (p + 1) (p + 1 + n)) (D.size - (p + 1 + n))) := by
          show _ = _
          rw [HDR.out, rdE, if_pos h10, if_neg (by rw [List.length_drop, baLen]; exact hnz), List.length_drop, baLen]
          congr 1
          · apply ba_extL
            rw [ofL_l, ext_mid, List.drop_take]
            congr 1
            omega
          · omega
        have KB := fun wx (hx : RdAt wx q D (p + 1) (ln + 1)) => hid (rBytes_yes q D (p + 1) (ln + 1) wx n hx (by omega) hd)
        have hpz : p + 1 + n ≤ D.size := by omega
        generalize D.extract (p + 1) (p + 1 + n) = B at KB FN
        clear hdr h10 e10 hnz
        go_enter Tryz.func75, Tryz.ntmps75
        go_wp2_with fail
        rw [← hW1]
        clear hW1
        refine K.out.mono ?_
        rintro e w2 ⟨rfl, hr2, hg2⟩
        have R2 := hid hr2
        have G2 := hid (grown_trans G1.out hg2)
        clear hr2 hg2
        go_wp2_with fail
        refine (KB _ R2.out).out.mono ?_
        rintro e w3 ⟨rfl, hr3, hg3⟩
        have R3 := hid hr3
        have G3 := hid (grown_trans G2.out hg3)
        clear hr3 hg3
        go_wp2
        go_ret2
        exact ⟨⟨_, 0, p + 1 + n, rfl, R3.out, .inr (.inr ⟨rfl, hpz, FN.out⟩)⟩, G3.out⟩
    · have FN : Hid (rdE m pt Q H ln n (D.data.toList.drop p) = .bad (ln + 1)) := by
        show _ = _
        rw [HDR.out, rdE, if_neg h10]
      have nb : (((D[p]'hlt).toNat : Int) != 10) = true := by
        simp
        intro e
        apply h10
        apply UInt8.toNat_inj.1
        have : ((D[p]'hlt).toNat : Int) = 10 := by exact_mod_cast e
        exact_mod_cast this
      generalize ((D[p]'hlt).toNat : Int) = zb at K nb
      clear hdr h10
      go_enter Tryz.func75, Tryz.ntmps75
      go_wp2_with fail
      rw [← hW1]
      clear hW1
      refine K.out.mono ?_
      rintro e w2 ⟨rfl, hr2, hg2⟩
      have R2 := hid hr2
      have G2 := hid (grown_trans G1.out hg2)
      clear hr2 hg2
      go_wp2
      go_ret2
      exact ⟨⟨_, 3, p + 1, rfl, R2.out, .inr (.inl ⟨rfl, FN.out⟩)⟩, G2.out⟩
end Go.Proofs.YtgoplcjjoiiagaaGreatDoor
namespace Go.Proofs.YtgoplcjjoiiagaaGreatDoor
open Go.RowKit Go.Shelf
/-! The program's takeFirstLine. -/
theorem fst_rq {t : List UInt8} {m p : ByteArray} {L : List Hp} (h : fstO t = some (m, p, L)) : rqP (mkRq m p L [] ⟨#[]⟩) := by
  have fin : ∀ (m0 : ByteArray) (a : List UInt8) (o : Option (List Hp)), finO m0 a o = some (m, p, L) → rqP (mkRq m p L [] ⟨#[]⟩) := fun m0 a o hf => by
    cases o with
    | none => cases hf
    | some L0 =>
      cases hu : unL a with
      | none => rw [finO_none2 _ _ hu] at hf; cases hf
      | some p0 =>
        by_cases hr : rqP (mkRq m0 (ofL p0) L0 [] ⟨#[]⟩)
        · rw [finO_yes _ _ hu hr] at hf
          cases hf
          exact hr
        · rw [finO_no _ _ hu hr] at hf; cases hf
  cases q1 : cutP [32] t with
  | none => rw [fstO_none q1] at h; cases h
  | some x =>
    obtain ⟨m0, r⟩ := x
    cases q2 : cutP [63] r with
    | none => rw [fstO_plain q1 q2] at h; exact fin _ _ _ h
    | some y =>
      obtain ⟨a, b⟩ := y
      rw [fstO_query q1 q2] at h
      exact fin _ _ _ h
def TfO (D : ByteArray) (p : Nat) (m pt : ByteArray) (Q : List Hp) (c : Int) (p' : Nat) : Prop :=
  (c = 2 ∧ rdO (D.data.toList.drop p) = .short) ∨ (c = 3 ∧ rdO (D.data.toList.drop p) = .bad 1) ∨ (c = 0 ∧ p + 1 ≤ p' ∧ p' ≤ D.size ∧ rqP (mkRq m pt Q [] ⟨#[]⟩) ∧ rdO (D.data.toList.drop p) = rdH m pt Q ((D.data.toList.drop p').length + 1) 2 [] (D.data.toList.drop p'))
def AnsT (D : ByteArray) (q p : Nat) (w : World) (e : Ending) (w' : World) : Prop :=
  (∃ m pt v Q c p', e = .returned (.tuple #[.agg #[.string m, .string pt, v, .slice none 0 0, .string ⟨#[]⟩], .int .i64 c]) ∧ RdAt w' q D p' 1 ∧ OwnHp w' w.heap.size v Q ∧ TfO D p m pt Q c p') ∧ w.grownBy w' (some q)
theorem tf_ret {D : ByteArray} {q p : Nat} {w wf : World} {m pt : ByteArray} {v : Value} {Q : List Hp} {c : Int} {p' : Nat} {tm : Array Value}
    (hR : RowAt wf w.heap.size 25 #[.string m, .string pt, v, .slice none 0 0, .string ⟨#[]⟩]) (hr : RdAt wf q D p' 1) (hO : OwnHp wf w.heap.size v Q) (hT : TfO D p m pt Q c p') (hg : w.grownBy wf (some q))
    (h2 : tm.getD 2 undef = .pointer (some ⟨w.heap.size, 0, none⟩)) (h3 : tm.getD 3 undef = .int .i64 c) :
    bodyPost Tryz.prog Tryz.f73 (fun e w' => AnsT D q p w e w') Exit.ret { tmps := tm, defers := [] } wf := by
  have h2' : tm[2]?.getD undef = .pointer (some ⟨w.heap.size, 0, none⟩) := by simpa using h2
  have h3' : tm[3]?.getD undef = .int .i64 c := by simpa using h3
  refine ⟨rfl, .tuple #[.agg #[.string m, .string pt, v, .slice none 0 0, .string ⟨#[]⟩], .int .i64 c], ?_, ⟨m, pt, v, Q, c, p', rfl, hr, hO, hT⟩, hg⟩
  have hl := run_loadVar_row (P := Tryz.prog) _ w.heap.size 25 25 _ (0, 0) _ hR Tryz.underlying25 rfl (by kernel_rfl)
  simp [results, Tryz.results73, h2', h3', asAddr, hl]
theorem g5 {w wx : World} {b q : Nat} (h : w.grownBy wx (some q)) (hb : w.heap.size ≤ b) (v0 v1 v2 v3 v4 : Value) : w.grownBy (((((wx.setCell ⟨b, 0, none⟩ v0).setCell ⟨b, 1, none⟩ v1).setCell ⟨b, 2, none⟩ v2).setCell ⟨b, 3, none⟩ v3).setCell ⟨b, 4, none⟩ v4) (some q) := by
  have st : ∀ (x : World) (i : Nat) (v : Value), w.grownBy x (some q) → w.grownBy (x.setCell ⟨b, i, none⟩ v) (some q) := fun x i v hx => grown_own hx grown_set (fun g e => by cases e; exact hb) (Nat.le_refl _)
  exact st _ _ _ (st _ _ _ (st _ _ _ (st _ _ _ (st _ _ _ h))))
theorem o5 {wx : World} {b base : Nat} {v : Value} {L : List Hp} (h : OwnHp wx base v L) (hb : b < base) (v0 v1 v2 v3 v4 : Value) : OwnHp (((((wx.setCell ⟨b, 0, none⟩ v0).setCell ⟨b, 1, none⟩ v1).setCell ⟨b, 2, none⟩ v2).setCell ⟨b, 3, none⟩ v3).setCell ⟨b, 4, none⟩ v4) base v L :=
  OwnHp.setCell (OwnHp.setCell (OwnHp.setCell (OwnHp.setCell (OwnHp.setCell h _ _ hb) _ _ hb) _ _ hb) _ _ hb) _ _ hb
set_option maxRecDepth 20000 in
set_option maxHeartbeats 2000000 in
theorem iTFirst (q : Nat) (D : ByteArray) (p : Nat) (w : World) (h : RdAt w q D p 0) (hp : p ≤ D.size) (hd : D.size ≤ 1048576) (hd4 : D.size ≤ p + 400000) (hv : RdV w) (hG : GlB q) :
    Calls Tryz.prog 73 #[.pointer (some ⟨q, 0, none⟩)] w fun e w' => AnsT D q p w e w' := by
  have hq : q < w.heap.size := RowAt.lt h
  obtain ⟨W0, hW0⟩ : ∃ W, W = w.alloc (.cells #[.string ⟨#[]⟩, .string ⟨#[]⟩, .slice none 0 0, .slice none 0 0, .string ⟨#[]⟩] 25) := ⟨_, rfl⟩
  have R0 : Hid (RowAt W0 w.heap.size 25 #[.string ⟨#[]⟩, .string ⟨#[]⟩, .slice none 0 0, .slice none 0 0, .string ⟨#[]⟩]) := by rw [hW0]; exact RowAt.new _ _ _
  have b0 : Below w.heap.size w W0 := by rw [hW0]; exact (Below.refl _ _).alloc (Nat.le_refl _) _
  have D0 : Hid (RdAt W0 q D p 0) := RowAt.below h b0 hq
  have V0 := hid (hv.below b0)
  have G0 : Hid (w.grownBy W0 (some q)) := below_grown b0 _
  have Z0 : Hid (w.heap.size < W0.heap.size) := R0.out.lt
  have KL := hid (rLine q D p 0 W0 D0.out hp hd (by omega) V0.out (by have := hG.1; omega))
  have HV := hid hv
  have HG := hid hG
  clear h b0 hv hG D0 V0
  go_enter Tryz.func73, Tryz.ntmps73
  go_wp2_with fail
  rw [← hW0]
  clear hW0
  refine KL.out.mono ?_
  rintro e w2 ⟨⟨t, ok, p', rfl, hln, htz, hr2⟩, hg2⟩
  have G2 := hid (grown_trans G0.out hg2)
  have R2 : Hid (RowAt w2 w.heap.size 25 #[.string ⟨#[]⟩, .string ⟨#[]⟩, .slice none 0 0, .slice none 0 0, .string ⟨#[]⟩]) := (hg2.block _ R0.out.lt (fun e => by cases e; omega)).trans R0.out
  have D2 := hid hr2
  have Z2 : Hid (w.heap.size < w2.heap.size) := R2.out.lt
  clear hr2 hg2 KL R0 G0 Z0
  cases ok with
  | false =>
    have FN : Hid (rdO (D.data.toList.drop p) = .short) := by
      rcases hln with ⟨_, h1, _⟩ | ⟨h1, _⟩
      · exact rdO_none h1
      · cases h1
    clear hln
    have q0 := R2.out.cell 0
    have f0 := R2.out.free 0
    have q1 := R2.out.cell 1
    have f1 := R2.out.free 1
    have q2 := R2.out.cell 2
    have f2 := R2.out.free 2
    have q3 := R2.out.cell 3
    have f3 := R2.out.free 3
    have q4 := R2.out.cell 4
    have f4 := R2.out.free 4
    have R9 := hid (r5_set R2.out (.string ⟨#[]⟩) (.string ⟨#[]⟩) (.slice none 0 0) (.slice none 0 0) (.string ⟨#[]⟩))
    have D9 := hid (r5_oth D2.out (b := w.heap.size) (by omega) (.string ⟨#[]⟩) (.string ⟨#[]⟩) (.slice none 0 0) (.slice none 0 0) (.string ⟨#[]⟩))
    have G9 := hid (g5 G2.out (Nat.le_refl _) (.string ⟨#[]⟩) (.string ⟨#[]⟩) (.slice none 0 0) (.slice none 0 0) (.string ⟨#[]⟩))
    go_wp2
    exact tf_ret R9.out D9.out (OwnHp.nil _ _) (.inl ⟨rfl, FN.out⟩) G9.out rfl rfl
  | true =>
    have LN : Hid (cutP [10] (D.data.toList.drop p) = some (t.data.toList, D.data.toList.drop p') ∧ p' = p + t.size + 1 ∧ p' ≤ D.size) := by
      rcases hln with ⟨h1, _⟩ | ⟨_, h1⟩
      · cases h1
      · exact h1
    have V2 := hid (HV.out.far HG.out hq G2.out)
    have KF := hid (iFirst t (by have := LN.out.2.1; have := LN.out.2.2; omega) w2 V2.out)
    clear hln V2
    go_wp2_with fail
    refine KF.out.mono ?_
    rintro e w3 ⟨m, pt, v, L, b, rfl, hO, hb3, hy, hn⟩
    obtain ⟨W4, hW4⟩ : ∃ W, W = w3.alloc (.cells #[.string m, .string pt, v, .slice none 0 0, .string ⟨#[]⟩] 25) := ⟨_, rfl⟩
    have hb4 : Below w2.heap.size w2 W4 := by rw [hW4]; exact hb3.alloc hb3.size _
    have R4 := hid (R2.out.below hb4 R2.out.lt)
    have D4 : Hid (RdAt W4 q D p' 1) := RowAt.below D2.out hb4 (RowAt.lt D2.out)
    have G4 := hid (grown_trans G2.out (below_grown hb4 (some q)))
    have B4 : Hid (RowAt W4 w3.heap.size 25 #[.string m, .string pt, v, .slice none 0 0, .string ⟨#[]⟩]) := by rw [hW4]; exact RowAt.new _ _ _
    have O4 : Hid (OwnHp W4 w2.heap.size v L) := by rw [hW4]; exact World.ownsRow.alloc hO _
    obtain ⟨a4, cp4, hv4, _⟩ := O4.out.hps
    subst hv4
    have HW4 := hid hW4
    clear hW4 hb3 hb4 R2 D2 G2 hO KF
    cases b with
    | false =>
      have FN : Hid (rdO (D.data.toList.drop p) = .bad 1) := rdO_bad LN.out.1 (hn rfl)
      clear hy hn
      have q0 := R4.out.cell 0
      have f0 := R4.out.free 0
      have q1 := R4.out.cell 1
      have f1 := R4.out.free 1
      have q2 := R4.out.cell 2
      have f2 := R4.out.free 2
      have q3 := R4.out.cell 3
      have f3 := R4.out.free 3
      have q4 := R4.out.cell 4
      have f4 := R4.out.free 4
      have R9 := hid (r5_set R4.out (.string ⟨#[]⟩) (.string ⟨#[]⟩) (.slice none 0 0) (.slice none 0 0) (.string ⟨#[]⟩))
      have D9 := hid (r5_oth D4.out (b := w.heap.size) (by omega) (.string ⟨#[]⟩) (.string ⟨#[]⟩) (.slice none 0 0) (.slice none 0 0) (.string ⟨#[]⟩))
      have G9 := hid (g5 G4.out (Nat.le_refl _) (.string ⟨#[]⟩) (.string ⟨#[]⟩) (.slice none 0 0) (.slice none 0 0) (.string ⟨#[]⟩))
      rw [HW4.out] at q0 q1 q2 q3 q4 f0 f1 f2 f3 f4 R9 D9 G9
      clear HW4
      go_wp2
      exact tf_ret R9.out D9.out (OwnHp.nil _ _) (.inr (.inl ⟨rfl, FN.out⟩)) G9.out rfl rfl
    | true =>
      have FN : Hid (rqP (mkRq m pt L [] ⟨#[]⟩) ∧ rdO (D.data.toList.drop p) = rdH m pt L ((D.data.toList.drop p').length + 1) 2 [] (D.data.toList.drop p')) := ⟨fst_rq (hy rfl), rdO_go LN.out.1 (hy rfl)⟩
      have PP : Hid (p + 1 ≤ p' ∧ p' ≤ D.size) := ⟨by have := LN.out.2.1; omega, LN.out.2.2⟩
      clear hy hn
      obtain ⟨LL, hLL⟩ : ∃ n, n = L.length := ⟨_, rfl⟩
      rw [← hLL] at B4 O4 HW4 ⊢
      clear hLL
      have q0 := R4.out.cell 0
      have f0 := R4.out.free 0
      have q1 := R4.out.cell 1
      have f1 := R4.out.free 1
      have q2 := R4.out.cell 2
      have f2 := R4.out.free 2
      have q3 := R4.out.cell 3
      have f3 := R4.out.free 3
      have q4 := R4.out.cell 4
      have f4 := R4.out.free 4
      have b0 := B4.out.cell 0
      have b1 := B4.out.cell 1
      have b2 := B4.out.cell 2
      have b3 := B4.out.cell 3
      have b4 := B4.out.cell 4
      have R9 := hid (r5_set R4.out (.string m) (.string pt) (.slice a4 LL cp4) (.slice none 0 0) (.string ⟨#[]⟩))
      have D9 := hid (r5_oth D4.out (b := w.heap.size) (by omega) (.string m) (.string pt) (.slice a4 LL cp4) (.slice none 0 0) (.string ⟨#[]⟩))
      have G9 := hid (g5 G4.out (Nat.le_refl _) (.string m) (.string pt) (.slice a4 LL cp4) (.slice none 0 0) (.string ⟨#[]⟩))
      have O9 := hid (o5 (b := w.heap.size) O4.out Z2.out (.string m) (.string pt) (.slice a4 LL cp4) (.slice none 0 0) (.string ⟨#[]⟩))
      rw [HW4.out] at q0 q1 q2 q3 q4 f0 f1 f2 f3 f4 b0 b1 b2 b3 b4 R9 D9 G9 O9
      clear HW4
      go_wp2
      exact tf_ret R9.out D9.out (O9.out.mono (Nat.le_of_lt Z2.out)) (.inr (.inr ⟨rfl, PP.out.1, PP.out.2, FN.out.1, FN.out.2⟩)) G9.out rfl rfl
end Go.Proofs.YtgoplcjjoiiagaaGreatDoor
namespace Go.Proofs.YtgoplcjjoiiagaaGreatDoor
open Go.RowKit Go.Shelf
/-! The program's takeRequest. -/
def TqO (D : ByteArray) (p : Nat) (m pt : ByteArray) (Q H : List Hp) (b : ByteArray) (c : Int) (p' ln : Nat) : Prop :=
  (c = 2 ∧ rdO (D.data.toList.drop p) = .short) ∨ (c = 3 ∧ rdO (D.data.toList.drop p) = .bad ln) ∨ (c = 0 ∧ p' ≤ D.size ∧ rdO (D.data.toList.drop p) = .ok m pt Q H b (D.size - p'))
def AnsQ (D : ByteArray) (q p : Nat) (w : World) (e : Ending) (w' : World) : Prop :=
  (∃ m pt v1 Q v2 H b c p' ln, e = .returned (.tuple #[.agg #[.string m, .string pt, v1, v2, .string b], .int .i64 c]) ∧ RdAt w' q D p' ln ∧ OwnHp w' w.heap.size v1 Q ∧ OwnHp w' w.heap.size v2 H ∧ (∀ g, v1.ownBlock = some g → v2.ownBlock ≠ some g) ∧ TqO D p m pt Q H b c p' ln) ∧ w.grownBy w' (some q)
theorem tq_ret {D : ByteArray} {q p : Nat} {w wf : World} {m pt : ByteArray} {v1 : Value} {Q : List Hp} {v2 : Value} {H : List Hp} {b : ByteArray} {c : Int} {p' ln : Nat} {tm : Array Value}
    (hR : RowAt wf w.heap.size 25 #[.string m, .string pt, v1, v2, .string b]) (hr : RdAt wf q D p' ln) (hO : OwnHp wf w.heap.size v1 Q) (hO2 : OwnHp wf w.heap.size v2 H) (hdj : ∀ g, v1.ownBlock = some g → v2.ownBlock ≠ some g) (hT : TqO D p m pt Q H b c p' ln) (hg : w.grownBy wf (some q))
    (h2 : tm.getD 2 undef = .pointer (some ⟨w.heap.size, 0, none⟩)) (h3 : tm.getD 3 undef = .int .i64 c) :
    bodyPost Tryz.prog Tryz.f41 (fun e w' => AnsQ D q p w e w') Exit.ret { tmps := tm, defers := [] } wf := by
  have h2' : tm[2]?.getD undef = .pointer (some ⟨w.heap.size, 0, none⟩) := by simpa using h2
  have h3' : tm[3]?.getD undef = .int .i64 c := by simpa using h3
  refine ⟨rfl, .tuple #[.agg #[.string m, .string pt, v1, v2, .string b], .int .i64 c], ?_, ⟨m, pt, v1, Q, v2, H, b, c, p', ln, rfl, hr, hO, hO2, hdj, hT⟩, hg⟩
  have hl := run_loadVar_row (P := Tryz.prog) _ w.heap.size 25 25 _ (0, 0) _ hR Tryz.underlying25 rfl (by kernel_rfl)
  simp [results, Tryz.results41, h2', h3', asAddr, hl]
theorem far_row {w w' : World} {b q : Nat} {t : TypeId} {c : Array Value} (h : RowAt w b t c) (hg : w.grownBy w' (some q)) (hn : b ≠ q) : RowAt w' b t c := (hg.block b h.lt (fun e => hn (by cases e; rfl))).trans h
theorem far_own {w w' : World} {base q : Nat} {v : Value} {L : List Hp} (h : OwnHp w base v L) (hg : w.grownBy w' (some q)) (hn : q < base) : OwnHp w' base v L := World.ownsRow.kept h hg (.inr fun e => by have := (World.ownsRow.lt h q e).1; omega)
set_option maxRecDepth 20000 in
set_option maxHeartbeats 2000000 in
theorem iTReq (q : Nat) (D : ByteArray) (p : Nat) (w : World) (h : RdAt w q D p 0) (hp : p ≤ D.size) (hd : D.size ≤ 1048576) (hd4 : D.size ≤ p + 400000) (hv : RdV w) (hG : GlB q) :
    Calls Tryz.prog 41 #[.pointer (some ⟨q, 0, none⟩)] w fun e w' => AnsQ D q p w e w' := by
  have hq : q < w.heap.size := RowAt.lt h
  obtain ⟨W0, hW0⟩ : ∃ W, W = w.alloc (.cells #[.string ⟨#[]⟩, .string ⟨#[]⟩, .slice none 0 0, .slice none 0 0, .string ⟨#[]⟩] 25) := ⟨_, rfl⟩
  have R0 : Hid (RowAt W0 w.heap.size 25 #[.string ⟨#[]⟩, .string ⟨#[]⟩, .slice none 0 0, .slice none 0 0, .string ⟨#[]⟩]) := by rw [hW0]; exact RowAt.new _ _ _
  have b0 : Below w.heap.size w W0 := by rw [hW0]; exact (Below.refl _ _).alloc (Nat.le_refl _) _
  have D0 : Hid (RdAt W0 q D p 0) := RowAt.below h b0 hq
  have V0 := hid (hv.below b0)
  have G0 : Hid (w.grownBy W0 (some q)) := below_grown b0 _
  have Z0 : Hid (w.heap.size < W0.heap.size) := R0.out.lt
  have KT := hid (iTFirst q D p W0 D0.out hp hd hd4 V0.out hG)
  have HV := hid hv
  have HG := hid hG
  clear h b0 hv hG D0 V0
  go_enter Tryz.func41, Tryz.ntmps41
  go_wp2_with fail
  rw [← hW0]
  clear hW0
  refine KT.out.mono ?_
  rintro e w2 ⟨⟨m, pt, v, Q, c, p', rfl, hr2, hO2, hT⟩, hg2⟩
  obtain ⟨a1, cp1, hv1, _⟩ := hO2.hps
  subst hv1
  obtain ⟨QL, hQL⟩ : ∃ n, n = Q.length := ⟨_, rfl⟩
  rw [← hQL] at hO2 ⊢
  clear hQL
  have blkY : Hid (∀ g, (Value.slice a1 QL cp1).ownBlock = some g → g < w2.heap.size) := fun g e => (World.ownsRow.lt hO2 g e).2
  obtain ⟨W3, hW3⟩ : ∃ W, W = w2.alloc (.cells #[.string m, .string pt, .slice a1 QL cp1, .slice none 0 0, .string ⟨#[]⟩] 25) := ⟨_, rfl⟩
  have hb3 : Below w2.heap.size w2 W3 := by rw [hW3]; exact (Below.refl _ _).alloc (Nat.le_refl _) _
  have R2 : RowAt w2 w.heap.size 25 #[.string ⟨#[]⟩, .string ⟨#[]⟩, .slice none 0 0, .slice none 0 0, .string ⟨#[]⟩] := far_row R0.out hg2 (by omega)
  have R3 := hid (R2.below hb3 R2.lt)
  have Y3 : Hid (RowAt W3 w2.heap.size 25 #[.string m, .string pt, .slice a1 QL cp1, .slice none 0 0, .string ⟨#[]⟩]) := by rw [hW3]; exact RowAt.new _ _ _
  have D3 : Hid (RdAt W3 q D p' 1) := RowAt.below hr2 hb3 (RowAt.lt hr2)
  have O3 : Hid (OwnHp W3 (w.heap.size + 1) (.slice a1 QL cp1) Q) := (OwnHp.next hb3 hO2).mono (by have := Z0.out; omega)
  have G3 := hid (grown_trans (grown_trans G0.out hg2) (below_grown hb3 (some q)))
  have ZY : Hid (w.heap.size < w2.heap.size) := R2.lt
  have HT := hid hT
  have HW3 := hid hW3
  obtain ⟨Y, hY⟩ : ∃ Y, Y = w2.heap.size := ⟨_, rfl⟩
  rw [← hY] at Y3 ZY blkY
  have HY := hid hY
  clear hW3 hb3 R2 hr2 hO2 hg2 KT R0 G0 hT Z0 hY
  by_cases hc : c = 0
  case neg =>
    have dc : (c != 0) = true := by simp; exact hc
    have FN : Hid (TqO D p ⟨#[]⟩ ⟨#[]⟩ [] [] ⟨#[]⟩ c p' 1) := by
      rcases HT.out with ⟨h1, h2⟩ | ⟨h1, h2⟩ | ⟨h1, _⟩
      · exact .inl ⟨h1, h2⟩
      · exact .inr (.inl ⟨h1, h2⟩)
      · exact absurd h1 hc
    clear hc
    have q0 := R3.out.cell 0
    have f0 := R3.out.free 0
    have q1 := R3.out.cell 1
    have f1 := R3.out.free 1
    have q2 := R3.out.cell 2
    have f2 := R3.out.free 2
    have q3 := R3.out.cell 3
    have f3 := R3.out.free 3
    have q4 := R3.out.cell 4
    have f4 := R3.out.free 4
    have R9 := hid (r5_set R3.out (.string ⟨#[]⟩) (.string ⟨#[]⟩) (.slice none 0 0) (.slice none 0 0) (.string ⟨#[]⟩))
    have D9 := hid (r5_oth D3.out (b := w.heap.size) (by omega) (.string ⟨#[]⟩) (.string ⟨#[]⟩) (.slice none 0 0) (.slice none 0 0) (.string ⟨#[]⟩))
    have G9 := hid (g5 G3.out (Nat.le_refl _) (.string ⟨#[]⟩) (.string ⟨#[]⟩) (.slice none 0 0) (.slice none 0 0) (.string ⟨#[]⟩))
    rw [HW3.out] at q0 q1 q2 q3 q4 f0 f1 f2 f3 f4 R9 D9 G9
    clear HW3
    go_wp2
    exact tq_ret R9.out D9.out (OwnHp.nil _ _) (OwnHp.nil _ _) (fun g e => by cases e) (FN.out) G9.out rfl rfl
  subst hc
  have TF : Hid (p + 1 ≤ p' ∧ p' ≤ D.size ∧ rqP (mkRq m pt Q [] ⟨#[]⟩) ∧ rdO (D.data.toList.drop p) = rdH m pt Q ((D.data.toList.drop p').length + 1) 2 [] (D.data.toList.drop p')) := by
    rcases HT.out with ⟨h1, _⟩ | ⟨h1, _⟩ | ⟨_, h2⟩
    · cases h1
    · cases h1
    · exact h2
  have V3 := hid (HV.out.far HG.out hq G3.out)
  have KH := hid (iHdrs m pt Q TF.out.2.2.1 q D p' 1 ((D.data.toList.drop p').length + 1) (Nat.lt_succ_self _) W3 D3.out TF.out.2.1 hd (by have := TF.out.1; omega) V3.out HG.out)
  have Z3 : Hid (w.heap.size < W3.heap.size ∧ Y < W3.heap.size ∧ q < W3.heap.size) := ⟨R3.out.lt, Y3.out.lt, RowAt.lt D3.out⟩
  have KH2 := KH
  rw [HW3.out] at KH2
  clear HT V3 KH
  go_wp2_with fail
  refine KH2.out.mono ?_
  rintro e w4 ⟨⟨v2, z, c2, p2, ln2, rfl, hr4, hp4, hl4, hH⟩, hg4⟩
  rw [← HW3.out] at hg4 hH
  have R4 := hid (far_row R3.out hg4 (by omega))
  have Y4 := hid (far_row Y3.out hg4 (by have := ZY.out; omega))
  have D4 : Hid (RdAt w4 q D p2 ln2) := hr4
  have O4 := hid (far_own O3.out hg4 (by omega))
  have G4 := hid (grown_trans G3.out hg4)
  have HH := hid hH
  have blk : Hid (∀ g, (Value.slice a1 QL cp1).ownBlock = some g → g < W3.heap.size) := fun g e => (World.ownsRow.lt O3.out g e).2
  clear hr4 hg4 hH KH2 HW3 R3 Y3 D3 O3 G3
  by_cases hc2 : c2 = 0
  case neg =>
    have dc : (c2 != 0) = true := by simp; exact hc2
    have FN : Hid (TqO D p ⟨#[]⟩ ⟨#[]⟩ [] [] ⟨#[]⟩ c2 p2 ln2) := by
      rcases HH.out with ⟨h1, h2⟩ | ⟨h1, h2⟩ | ⟨h1, _⟩
      · exact .inl ⟨h1, TF.out.2.2.2.trans h2⟩
      · exact .inr (.inl ⟨h1, TF.out.2.2.2.trans h2⟩)
      · exact absurd h1 hc2
    clear hc2
    have q0 := R4.out.cell 0
    have f0 := R4.out.free 0
    have q1 := R4.out.cell 1
    have f1 := R4.out.free 1
    have q2 := R4.out.cell 2
    have f2 := R4.out.free 2
    have q3 := R4.out.cell 3
    have f3 := R4.out.free 3
    have q4 := R4.out.cell 4
    have f4 := R4.out.free 4
    have R9 := hid (r5_set R4.out (.string ⟨#[]⟩) (.string ⟨#[]⟩) (.slice none 0 0) (.slice none 0 0) (.string ⟨#[]⟩))
    have D9 := hid (r5_oth D4.out (b := w.heap.size) (by omega) (.string ⟨#[]⟩) (.string ⟨#[]⟩) (.slice none 0 0) (.slice none 0 0) (.string ⟨#[]⟩))
    have G9 := hid (g5 G4.out (Nat.le_refl _) (.string ⟨#[]⟩) (.string ⟨#[]⟩) (.slice none 0 0) (.slice none 0 0) (.string ⟨#[]⟩))
    go_wp2
    exact tq_ret R9.out D9.out (OwnHp.nil _ _) (OwnHp.nil _ _) (fun g e => by cases e) (FN.out) G9.out rfl rfl
  subst hc2
  obtain ⟨H, k, rfl, hk, hHl, hOH, hE⟩ : ∃ (H : List Hp) (k : Nat), z = (k : Int) ∧ k ≤ 100000 ∧ H.length ≤ 30 ∧ OwnHp w4 W3.heap.size v2 H ∧ rdH m pt Q ((D.data.toList.drop p').length + 1) 2 [] (D.data.toList.drop p') = rdE m pt Q H ln2 k (D.data.toList.drop p2) := by
    rcases HH.out with ⟨h1, _⟩ | ⟨h1, _⟩ | ⟨_, h2⟩
    · cases h1
    · cases h1
    · exact h2
  have KB := hid (iBody m pt Q H q D p2 ln2 k w4 D4.out hp4 hd (by omega) hk)
  have HE := hid (TF.out.2.2.2.trans hE)
  obtain ⟨a2, cp2, hv2, _⟩ := hOH.hps
  subst hv2
  obtain ⟨HL, hHL⟩ : ∃ n, n = H.length := ⟨_, rfl⟩
  rw [← hHL] at hOH hHl ⊢
  clear hHL
  have OH := hid hOH
  clear HH hE hOH TF
  go_wp2_with fail
  refine KB.out.mono ?_
  rintro e w5 ⟨⟨b, c3, p3, rfl, hr5, hB⟩, hg5⟩
  have R5 := hid (far_row R4.out hg5 (by omega))
  have Y5 := hid (far_row Y4.out hg5 (by have := ZY.out; omega))
  have D5 : Hid (RdAt w5 q D p3 (ln2 + 1)) := hr5
  have O5 := hid (far_own O4.out hg5 (by omega))
  have OH5 := hid (far_own OH.out hg5 Z3.out.2.2)
  have G5 := hid (grown_trans G4.out hg5)
  have HB := hid hB
  clear hr5 hg5 hB KB R4 Y4 D4 O4 G4 OH
  by_cases hc3 : c3 = 0
  case neg =>
    have dc : (c3 != 0) = true := by simp; exact hc3
    have FN : Hid (TqO D p ⟨#[]⟩ ⟨#[]⟩ [] [] ⟨#[]⟩ c3 p3 (ln2 + 1)) := by
      rcases HB.out with ⟨h1, h2⟩ | ⟨h1, h2⟩ | ⟨h1, _⟩
      · exact .inl ⟨h1, HE.out.trans h2⟩
      · exact .inr (.inl ⟨h1, HE.out.trans h2⟩)
      · exact absurd h1 hc3
    clear hc3
    have q0 := R5.out.cell 0
    have f0 := R5.out.free 0
    have q1 := R5.out.cell 1
    have f1 := R5.out.free 1
    have q2 := R5.out.cell 2
    have f2 := R5.out.free 2
    have q3 := R5.out.cell 3
    have f3 := R5.out.free 3
    have q4 := R5.out.cell 4
    have f4 := R5.out.free 4
    have R9 := hid (r5_set R5.out (.string ⟨#[]⟩) (.string ⟨#[]⟩) (.slice none 0 0) (.slice none 0 0) (.string ⟨#[]⟩))
    have D9 := hid (r5_oth D5.out (b := w.heap.size) (by omega) (.string ⟨#[]⟩) (.string ⟨#[]⟩) (.slice none 0 0) (.slice none 0 0) (.string ⟨#[]⟩))
    have G9 := hid (g5 G5.out (Nat.le_refl _) (.string ⟨#[]⟩) (.string ⟨#[]⟩) (.slice none 0 0) (.slice none 0 0) (.string ⟨#[]⟩))
    go_wp2
    exact tq_ret R9.out D9.out (OwnHp.nil _ _) (OwnHp.nil _ _) (fun g e => by cases e) (FN.out) G9.out rfl rfl
  subst hc3
  have FN : Hid (TqO D p m pt Q H b 0 p3 (ln2 + 1)) := by
    rcases HB.out with ⟨h1, _⟩ | ⟨h1, _⟩ | ⟨h0, h1, h2⟩
    · cases h1
    · cases h1
    · exact .inr (.inr ⟨h0, h1, HE.out.trans h2⟩)
  have y3 := Y5.out.cell 3
  have fy3 := Y5.out.free 3
  have Y6 := hid (Y5.out.set 3 (.slice a2 HL cp2))
  have y4 := Y6.out.cell 4
  have fy4 := Y6.out.free 4
  have Y7 : Hid (RowAt ((w5.setCell ⟨Y, 3, none⟩ (.slice a2 HL cp2)).setCell ⟨Y, 4, none⟩ (.string b)) Y 25 #[.string m, .string pt, .slice a1 QL cp1, .slice a2 HL cp2, .string b]) := Y6.out.set 4 (.string b)
  obtain ⟨W7, hW7⟩ : ∃ W, W = (w5.setCell ⟨Y, 3, none⟩ (.slice a2 HL cp2)).setCell ⟨Y, 4, none⟩ (.string b) := ⟨_, rfl⟩
  have zy := ZY.out
  have R7 : Hid (RowAt W7 w.heap.size 25 #[.string ⟨#[]⟩, .string ⟨#[]⟩, .slice none 0 0, .slice none 0 0, .string ⟨#[]⟩]) := by rw [hW7]; exact (R5.out.other _ _ (by show w.heap.size ≠ Y; omega)).other _ _ (by show w.heap.size ≠ Y; omega)
  have D7 : Hid (RdAt W7 q D p3 (ln2 + 1)) := by rw [hW7]; exact RowAt.other (RowAt.other D5.out _ _ (by show q ≠ Y; omega)) _ _ (by show q ≠ Y; omega)
  have G7 : Hid (w.grownBy W7 (some q)) := by
    rw [hW7]
    exact grown_own (grown_own G5.out grown_set (fun g e => by cases e; exact Nat.le_of_lt zy) (Nat.le_refl _)) grown_set (fun g e => by cases e; exact Nat.le_of_lt zy) (Nat.le_refl _)
  have ST : Hid (∀ (base : Nat) (v : Value) (L : List Hp), OwnHp w5 base v L → v.ownBlock ≠ some Y → OwnHp W7 base v L) := fun base v L h1 h2 => by
    rw [hW7]
    exact World.ownsRow.kept (World.ownsRow.kept h1 grown_set (.inr h2)) grown_set (.inr h2)
  rw [← hW7] at Y7
  have HW7 := hid hW7
  clear hW7 zy
  have n1 : (Value.slice a1 QL cp1).ownBlock ≠ some Y := fun e => by have := blkY.out Y e; omega
  have n2 : (Value.slice a2 HL cp2).ownBlock ≠ some Y := fun e => by have := (World.ownsRow.lt OH5.out Y e).1; have := Z3.out.2.1; omega
  have O7 := hid (ST.out _ _ _ O5.out n1)
  have OH7 := hid (ST.out _ _ _ OH5.out n2)
  have dj : Hid (∀ g, (Value.slice a1 QL cp1).ownBlock = some g → (Value.slice a2 HL cp2).ownBlock ≠ some g) := fun g e e2 => by
    have h1 := blk.out g e
    have h2 := (World.ownsRow.lt OH5.out g e2).1
    omega
  clear ST n1 n2 O5 OH5 R5 D5 G5 HB HE blk blkY
  rw [← HY.out]
  go_upto_region 11 with fail
  rw [← HW7.out]
  clear HW7 HY y3 y4 fy3 fy4 Y5 Y6
  have b0 := Y7.out.cell 0
  have b1 := Y7.out.cell 1
  have b2 := Y7.out.cell 2
  have b3 := Y7.out.cell 3
  have b4 := Y7.out.cell 4
  have q0 := R7.out.cell 0
  have f0 := R7.out.free 0
  have q1 := R7.out.cell 1
  have f1 := R7.out.free 1
  have q2 := R7.out.cell 2
  have f2 := R7.out.free 2
  have q3 := R7.out.cell 3
  have f3 := R7.out.free 3
  have q4 := R7.out.cell 4
  have f4 := R7.out.free 4
  have R9 := hid (r5_set R7.out (.string m) (.string pt) (.slice a1 QL cp1) (.slice a2 HL cp2) (.string b))
  have D9 := hid (r5_oth D7.out (b := w.heap.size) (by omega) (.string m) (.string pt) (.slice a1 QL cp1) (.slice a2 HL cp2) (.string b))
  have G9 := hid (g5 G7.out (Nat.le_refl _) (.string m) (.string pt) (.slice a1 QL cp1) (.slice a2 HL cp2) (.string b))
  have O9 := hid (o5 (b := w.heap.size) O7.out (Nat.lt_succ_self _) (.string m) (.string pt) (.slice a1 QL cp1) (.slice a2 HL cp2) (.string b))
  have OH9 := hid (o5 (b := w.heap.size) OH7.out Z3.out.1 (.string m) (.string pt) (.slice a1 QL cp1) (.slice a2 HL cp2) (.string b))
  go_wp2
  exact tq_ret R9.out D9.out (O9.out.mono (Nat.le_succ _)) (OH9.out.mono (Nat.le_of_lt Z3.out.1)) dj.out FN.out G9.out rfl rfl
end Go.Proofs.YtgoplcjjoiiagaaGreatDoor
namespace Go.Proofs.YtgoplcjjoiiagaaGreatDoor
open Go.RowKit Go.Shelf
/-! The program's ReadRequest. -/
inductive AnsRI (d : ByteArray) (a : Int) (w : World) : Ending → World → Prop where
  | bad (n : Nat) (h : readO d a = .bad n) (w' : World) (hb : Below w.heap.size w w') : AnsRI d a w (.returned (.agg #[.int .i64 3, .int .i64 (n : Int), .string ⟨#[]⟩, .string ⟨#[]⟩, .slice none 0 0, .slice none 0 0, .string ⟨#[]⟩, .int .i64 0])) w'
  | short (h : readO d a = .short) (w' : World) (hb : Below w.heap.size w w') : AnsRI d a w (.returned (.agg #[.int .i64 2, .int .i64 0, .string ⟨#[]⟩, .string ⟨#[]⟩, .slice none 0 0, .slice none 0 0, .string ⟨#[]⟩, .int .i64 0])) w'
  | ok (m p : ByteArray) (Q H : List Hp) (b : ByteArray) (left : Nat) (h : readO d a = .ok m p Q H b left) (v1 v2 : Value) (N : Int) (hN : N = a + ((min (d.size - a.toNat) 400000 - left : Nat) : Int)) (w' : World) (hb : Below w.heap.size w w') (o1 : OwnHp w' w.heap.size v1 Q) (o2 : OwnHp w' w.heap.size v2 H) (dj : ∀ g, v1.ownBlock = some g → v2.ownBlock ≠ some g) : AnsRI d a w (.returned (.agg #[.int .i64 0, .int .i64 0, .string m, .string p, v1, v2, .string b, .int .i64 N])) w'
section
variable {w wx : World} {b B c base : Nat} {t : TypeId} {u0 u1 u2 u3 u4 u5 u6 u7 v : Value} {cs : Array Value} {L : List Hp}
theorem r8_set (h : RowAt wx b t #[u0, u1, u2, u3, u4, u5, u6, u7]) (v0 v1 v2 v3 v4 v5 v6 v7 : Value) : RowAt ((((((((wx.setCell ⟨b, 0, none⟩ v0).setCell ⟨b, 1, none⟩ v1).setCell ⟨b, 2, none⟩ v2).setCell ⟨b, 3, none⟩ v3).setCell ⟨b, 4, none⟩ v4).setCell ⟨b, 5, none⟩ v5).setCell ⟨b, 6, none⟩ v6).setCell ⟨b, 7, none⟩ v7) b t #[v0, v1, v2, v3, v4, v5, v6, v7] := by
  have h0 : RowAt (wx.setCell ⟨b, 0, none⟩ v0) b t #[v0, u1, u2, u3, u4, u5, u6, u7] := h.set 0 v0
  have h1 : RowAt ((wx.setCell ⟨b, 0, none⟩ v0).setCell ⟨b, 1, none⟩ v1) b t #[v0, v1, u2, u3, u4, u5, u6, u7] := h0.set 1 v1
  have h2 : RowAt (((wx.setCell ⟨b, 0, none⟩ v0).setCell ⟨b, 1, none⟩ v1).setCell ⟨b, 2, none⟩ v2) b t #[v0, v1, v2, u3, u4, u5, u6, u7] := h1.set 2 v2
  have h3 : RowAt ((((wx.setCell ⟨b, 0, none⟩ v0).setCell ⟨b, 1, none⟩ v1).setCell ⟨b, 2, none⟩ v2).setCell ⟨b, 3, none⟩ v3) b t #[v0, v1, v2, v3, u4, u5, u6, u7] := h2.set 3 v3
  have h4 : RowAt (((((wx.setCell ⟨b, 0, none⟩ v0).setCell ⟨b, 1, none⟩ v1).setCell ⟨b, 2, none⟩ v2).setCell ⟨b, 3, none⟩ v3).setCell ⟨b, 4, none⟩ v4) b t #[v0, v1, v2, v3, v4, u5, u6, u7] := h3.set 4 v4
  have h5 : RowAt ((((((wx.setCell ⟨b, 0, none⟩ v0).setCell ⟨b, 1, none⟩ v1).setCell ⟨b, 2, none⟩ v2).setCell ⟨b, 3, none⟩ v3).setCell ⟨b, 4, none⟩ v4).setCell ⟨b, 5, none⟩ v5) b t #[v0, v1, v2, v3, v4, v5, u6, u7] := h4.set 5 v5
  have h6 : RowAt (((((((wx.setCell ⟨b, 0, none⟩ v0).setCell ⟨b, 1, none⟩ v1).setCell ⟨b, 2, none⟩ v2).setCell ⟨b, 3, none⟩ v3).setCell ⟨b, 4, none⟩ v4).setCell ⟨b, 5, none⟩ v5).setCell ⟨b, 6, none⟩ v6) b t #[v0, v1, v2, v3, v4, v5, v6, u7] := h5.set 6 v6
  have h7 : RowAt ((((((((wx.setCell ⟨b, 0, none⟩ v0).setCell ⟨b, 1, none⟩ v1).setCell ⟨b, 2, none⟩ v2).setCell ⟨b, 3, none⟩ v3).setCell ⟨b, 4, none⟩ v4).setCell ⟨b, 5, none⟩ v5).setCell ⟨b, 6, none⟩ v6).setCell ⟨b, 7, none⟩ v7) b t #[v0, v1, v2, v3, v4, v5, v6, v7] := h6.set 7 v7
  exact h7
theorem r8_bel (h : Below B w wx) (hn : B ≤ b) (v0 v1 v2 v3 v4 v5 v6 v7 : Value) : Below B w ((((((((wx.setCell ⟨b, 0, none⟩ v0).setCell ⟨b, 1, none⟩ v1).setCell ⟨b, 2, none⟩ v2).setCell ⟨b, 3, none⟩ v3).setCell ⟨b, 4, none⟩ v4).setCell ⟨b, 5, none⟩ v5).setCell ⟨b, 6, none⟩ v6).setCell ⟨b, 7, none⟩ v7) :=
  (((((((h.setCell hn _).setCell hn _).setCell hn _).setCell hn _).setCell hn _).setCell hn _).setCell hn _).setCell hn _
theorem r8_own (h : OwnHp wx base v L) (hb : b < base) (v0 v1 v2 v3 v4 v5 v6 v7 : Value) : OwnHp ((((((((wx.setCell ⟨b, 0, none⟩ v0).setCell ⟨b, 1, none⟩ v1).setCell ⟨b, 2, none⟩ v2).setCell ⟨b, 3, none⟩ v3).setCell ⟨b, 4, none⟩ v4).setCell ⟨b, 5, none⟩ v5).setCell ⟨b, 6, none⟩ v6).setCell ⟨b, 7, none⟩ v7) base v L :=
  OwnHp.setCell (OwnHp.setCell (OwnHp.setCell (OwnHp.setCell (OwnHp.setCell (OwnHp.setCell (OwnHp.setCell (OwnHp.setCell h _ _ hb) _ _ hb) _ _ hb) _ _ hb) _ _ hb) _ _ hb) _ _ hb) _ _ hb
end
theorem rdE_left {m p : ByteArray} {Q H : List Hp} {line n : Nat} {R : List UInt8} {m' p' : ByteArray} {Q' H' : List Hp} {b : ByteArray} {left : Nat} (h : rdE m p Q H line n R = .ok m' p' Q' H' b left) : left ≤ R.length := by
  cases R with
  | nil => cases h
  | cons c B =>
    rw [rdE] at h
    by_cases hc : c = 10
    · rw [if_pos hc] at h
      by_cases hn : B.length < n
      · rw [if_pos hn] at h; cases h
      · rw [if_neg hn] at h
        cases h
        simp
        omega
    · rw [if_neg hc] at h; cases h
theorem rdH_left {m p : ByteArray} {Q : List Hp} {m' p' : ByteArray} {Q' H' : List Hp} {b : ByteArray} {left : Nat} : ∀ (f line : Nat) (H : List Hp) (R : List UInt8), rdH m p Q f line H R = .ok m' p' Q' H' b left → left ≤ R.length
  | 0, _, _, _, h => by cases h
  | f + 1, line, H, R, h => by
    cases q1 : cutP [10] R with
    | none => rw [rdH_none q1] at h; cases h
    | some x =>
      obtain ⟨t, R'⟩ := x
      have hl := congrArg List.length (cutP_parts q1)
      simp at hl
      by_cases h1 : lenS <+: t
      · by_cases h2 : lnP (t.drop 8)
        · rw [rdH_len q1 h1 h2] at h
          have := rdE_left h
          omega
        · rw [rdH_lenBad q1 h1 h2] at h; cases h
      · cases q2 : cutP [58, 32] t with
        | none => rw [rdH_bad q1 h1 q2] at h; cases h
        | some y =>
          obtain ⟨nm, vl⟩ := y
          by_cases h3 : rqP (mkRq m p Q (H ++ [(⟨ofL nm, ofL vl⟩ : Hp)]) ⟨#[]⟩)
          · rw [rdH_go q1 h1 q2 h3] at h
            have := rdH_left f (line + 1) _ R' h
            omega
          · rw [rdH_no q1 h1 q2 h3] at h; cases h
theorem rdO_left {R : List UInt8} {m' p' : ByteArray} {Q' H' : List Hp} {b : ByteArray} {left : Nat} (h : rdO R = .ok m' p' Q' H' b left) : left ≤ R.length := by
  cases q1 : cutP [10] R with
  | none => rw [rdO_none q1] at h; cases h
  | some x =>
    obtain ⟨t, R'⟩ := x
    have hl := congrArg List.length (cutP_parts q1)
    simp at hl
    cases q2 : fstO t with
    | none => rw [rdO_bad q1 q2] at h; cases h
    | some y =>
      obtain ⟨m, p, Q⟩ := y
      rw [rdO_go q1 q2] at h
      have := rdH_left _ _ _ _ h
      omega
set_option maxRecDepth 20000 in
set_option maxHeartbeats 1000000 in
theorem iNewR (d : ByteArray) (a : Nat) (ha : a ≤ d.size) (hd : d.size ≤ 1048576) (w : World) :
    Calls Tryz.prog 40 #[.string d, .int .i64 (a : Int)] w fun e w' => e = .returned (.pointer (some ⟨w.heap.size, 0, none⟩)) ∧ w' = w.alloc (.cells #[.string (d.extract 0 (min d.size (a + 400000))), .int .i64 (a : Int), .int .i64 0] 75) := by
  obtain ⟨E, hE⟩ : ∃ E, E = min d.size (a + 400000) := ⟨_, rfl⟩
  rw [← hE]
  have mn : min (d.size : Int) ((a : Int) + 400000) = (E : Int) := by rw [hE]; omega
  have hE2 : E ≤ d.size := by omega
  have i0 : (0 : Int) ≤ (E : Int) := by omega
  have i1 : (E : Int) ≤ (d.size : Int) := by omega
  have sl : ∀ wx, (Instr.slice 9 (.string d) none (some (.int .i64 (E : Int))) none).run Tryz.prog wx = .ok (.string (d.extract 0 E)) wx := fun wx => by
    rw [run_slice_string_to_if _ _ _ _ _ Tryz.underlying9, if_pos (by omega), show ((E : Int)).toNat = E by omega]
  have HE := hid hE
  clear hE
  go_enter Tryz.func40, Tryz.ntmps40
  go_wp2
  go_ret
  exact ⟨rfl, rfl⟩
theorem rd_ret {d : ByteArray} {a : Int} {w wf : World} {cs : Array Value} {tm : Array Value} (hz : cs.size = 8)
    (hR : RowAt wf w.heap.size 35 cs) (hA : AnsRI d a w (.returned (.agg cs)) wf) (h4 : tm.getD 4 undef = .pointer (some ⟨w.heap.size, 0, none⟩)) :
    bodyPost Tryz.prog Tryz.f12 (fun e w' => AnsRI d a w e w') Exit.ret { tmps := tm, defers := [] } wf := by
  have h4' : tm[4]?.getD undef = .pointer (some ⟨w.heap.size, 0, none⟩) := by simpa using h4
  refine ⟨rfl, .agg cs, ?_, hA⟩
  have hl := run_loadVar_row (P := Tryz.prog) _ w.heap.size 35 35 _ (0, 0) _ hR Tryz.underlying35 rfl (by rw [hz]; kernel_rfl)
  simp [results, Tryz.results12, h4', asAddr, hl]
set_option maxRecDepth 20000 in
set_option maxHeartbeats 2000000 in
theorem iRead (d : ByteArray) (a : Int) (wa : (Lit.int .i64 a).wf = true) (hd : d.size ≤ 1048576) (w : World) (hv : RdV w) :
    Calls Tryz.prog 12 #[.string d, .int .i64 a] w fun e w' => AnsRI d a w e w' := by
  obtain ⟨W0, hW0⟩ : ∃ W, W = w.alloc (.cells #[.int .i64 0, .int .i64 0, .string ⟨#[]⟩, .string ⟨#[]⟩, .slice none 0 0, .slice none 0 0, .string ⟨#[]⟩, .int .i64 0] 35) := ⟨_, rfl⟩
  have R0 : Hid (RowAt W0 w.heap.size 35 #[.int .i64 0, .int .i64 0, .string ⟨#[]⟩, .string ⟨#[]⟩, .slice none 0 0, .slice none 0 0, .string ⟨#[]⟩, .int .i64 0]) := by rw [hW0]; exact RowAt.new _ _ _
  have B0 : Hid (Below w.heap.size w W0) := by rw [hW0]; exact (Below.refl _ _).alloc (Nat.le_refl _) _
  by_cases ha : 0 ≤ a ∧ a ≤ (d.size : Int)
  case neg =>
    have FN : Hid (readO d a = .bad 1) := if_neg ha
    by_cases h0 : a < 0
    · have d0 : decide (a < 0) = true := by simp; omega
      clear ha hW0
      go_enter Tryz.func12, Tryz.ntmps12
      go_wp2
      exact rd_ret rfl (RowAt.new w _ _) (AnsRI.bad 1 FN.out _ ((Below.refl _ _).alloc (Nat.le_refl _) _)) rfl
    · have d0 : decide (a < 0) = false := by simp; omega
      have d1 : decide ((d.size : Int) < a) = true := by simp; omega
      clear ha hW0
      go_enter Tryz.func12, Tryz.ntmps12
      go_wp2
      exact rd_ret rfl (RowAt.new w _ _) (AnsRI.bad 1 FN.out _ ((Below.refl _ _).alloc (Nat.le_refl _) _)) rfl
  obtain ⟨n, rfl⟩ := Int.eq_ofNat_of_zero_le ha.1
  have hn : n ≤ d.size := by omega
  have d0 : decide ((n : Int) < 0) = false := by simp
  have d1 : decide ((d.size : Int) < (n : Int)) = false := by simp; omega
  obtain ⟨D, hD⟩ : ∃ D, D = d.extract 0 (min d.size (n + 400000)) := ⟨_, rfl⟩
  have Dz : D.size = min d.size (n + 400000) := by rw [hD, ByteArray.size_extract]; omega
  have DL : D.data.toList.drop n = (d.data.toList.drop n).take 400000 := by
    rw [hD, ext_mid, List.drop_zero, List.drop_take]
    by_cases h4 : d.size ≤ n + 400000
    · rw [Nat.min_eq_left h4, List.take_of_length_le (by rw [List.length_drop, baLen]; exact Nat.le_refl _), List.take_of_length_le (by rw [List.length_drop, baLen]; omega)]
    · rw [Nat.min_eq_right (by omega)]
      congr 1
      omega
  have FR : Hid (readO d (n : Int) = rdO (D.data.toList.drop n)) := by
    show _ = _
    unfold readO
    rw [if_pos ha, DL]
    congr 2
  have KN := fun wx => hid (iNewR d n hn hd wx)
  rw [← hD] at KN
  obtain ⟨W1, hW1⟩ : ∃ W, W = W0.alloc (.cells #[.string D, .int .i64 (n : Int), .int .i64 0] 75) := ⟨_, rfl⟩
  obtain ⟨q, hq⟩ : ∃ q, q = W0.heap.size := ⟨_, rfl⟩
  have b1 : Below W0.heap.size W0 W1 := by rw [hW1]; exact (Below.refl _ _).alloc (Nat.le_refl _) _
  have R1 := hid (R0.out.below b1 R0.out.lt)
  have D1 : Hid (RdAt W1 q D n 0) := by rw [hW1, hq]; exact RowAt.new _ _ _
  have B1 : Hid (Below w.heap.size w W1) := B0.out.trans (b1.mono B0.out.size)
  have Zq : Hid (w.heap.size < q) := by show _ < _; rw [hq]; exact R0.out.lt
  have GQ : Hid (GlB q) := by
    have h1 := hv.gl
    have h2 := Zq.out
    exact ⟨by have := h1.1; omega, by have := h1.2.1; omega, by have := h1.2.2.1; omega, by have := h1.2.2.2; omega⟩
  have KT := hid (iTReq q D n W1 D1.out (by omega) (by omega) (by omega) (hv.below B1.out) GQ.out)
  have DZ := hid Dz
  have HN := hid hn
  have HQ := hid hq
  have HW1 := hid hW1
  clear Dz DL hD hW1 b1 hq ha hv
  go_enter Tryz.func12, Tryz.ntmps12
  go_wp2_with fail
  rw [← hW0]
  clear hW0
  refine (KN _).out.mono ?_
  rintro e w1 ⟨rfl, hw⟩
  rw [← HW1.out] at hw
  obtain rfl := hw.symm
  rw [← HQ.out]
  clear HW1 KN
  go_wp2_with fail
  refine KT.out.mono ?_
  rintro e w2 ⟨⟨m, pt, v1, Q, v2, H, b, c, p', ln, rfl, hr2, hO1, hO2, hdj, hT⟩, hg2⟩
  obtain ⟨a1, cp1, hv1, _⟩ := hO1.hps
  obtain ⟨a2, cp2, hv2, _⟩ := hO2.hps
  subst hv1
  subst hv2
  obtain ⟨QL, hQL⟩ : ∃ n, n = Q.length := ⟨_, rfl⟩
  obtain ⟨HL, hHL⟩ : ∃ n, n = H.length := ⟨_, rfl⟩
  rw [← hQL] at hO1 hdj ⊢
  rw [← hHL] at hO2 hdj ⊢
  clear hQL hHL
  obtain ⟨W3, hW3⟩ : ∃ W, W = w2.alloc (.cells #[.string m, .string pt, .slice a1 QL cp1, .slice a2 HL cp2, .string b] 25) := ⟨_, rfl⟩
  have hb3 : Below w2.heap.size w2 W3 := by rw [hW3]; exact (Below.refl _ _).alloc (Nat.le_refl _) _
  have zq := Zq.out
  have R2 : RowAt w2 w.heap.size 35 #[.int .i64 0, .int .i64 0, .string ⟨#[]⟩, .string ⟨#[]⟩, .slice none 0 0, .slice none 0 0, .string ⟨#[]⟩, .int .i64 0] := far_row R1.out hg2 (by omega)
  have R3 := hid (R2.below hb3 R2.lt)
  have D3 : Hid (RdAt W3 q D p' ln) := RowAt.below hr2 hb3 (RowAt.lt hr2)
  have B2 : Below w.heap.size w w2 := B1.out.grown hg2 B1.out.size (fun j hj => by cases hj; omega)
  have B3 : Hid (Below w.heap.size w W3) := B2.trans (hb3.mono B2.size)
  have zW : w.heap.size < W1.heap.size := R1.out.lt
  have O1 : Hid (OwnHp W3 (w.heap.size + 1) (.slice a1 QL cp1) Q) := (OwnHp.next hb3 hO1).mono (by omega)
  have O2 : Hid (OwnHp W3 (w.heap.size + 1) (.slice a2 HL cp2) H) := (OwnHp.next hb3 hO2).mono (by omega)
  have Y3 : Hid (RowAt W3 w2.heap.size 25 #[.string m, .string pt, .slice a1 QL cp1, .slice a2 HL cp2, .string b]) := by rw [hW3]; exact RowAt.new _ _ _
  have DJ := hid hdj
  have HT := hid hT
  have HW3 := hid hW3
  clear hW3 hb3 R2 B2 hr2 hO1 hO2 hdj hT hg2 R0 R1 B0 B1 D1 KT GQ zW zq
  have q0 := R3.out.cell 0
  have f0 := R3.out.free 0
  have q1 := R3.out.cell 1
  have f1 := R3.out.free 1
  have q2 := R3.out.cell 2
  have f2 := R3.out.free 2
  have q3 := R3.out.cell 3
  have f3 := R3.out.free 3
  have q4 := R3.out.cell 4
  have f4 := R3.out.free 4
  have q5 := R3.out.cell 5
  have f5 := R3.out.free 5
  have q6 := R3.out.cell 6
  have f6 := R3.out.free 6
  have q7 := R3.out.cell 7
  have f7 := R3.out.free 7
  rw [HW3.out] at q0 q1 q2 q3 q4 q5 q6 q7 f0 f1 f2 f3 f4 f5 f6 f7
  rcases HT.out with ⟨rfl, h2⟩ | ⟨rfl, h2⟩ | ⟨rfl, hpz, h2⟩
  · have FN := hid (FR.out.trans h2)
    have R9 := hid (r8_set R3.out (.int .i64 2) (.int .i64 0) (.string ⟨#[]⟩) (.string ⟨#[]⟩) (.slice none 0 0) (.slice none 0 0) (.string ⟨#[]⟩) (.int .i64 0))
    have B9 := hid (r8_bel (b := w.heap.size) B3.out (Nat.le_refl _) (.int .i64 2) (.int .i64 0) (.string ⟨#[]⟩) (.string ⟨#[]⟩) (.slice none 0 0) (.slice none 0 0) (.string ⟨#[]⟩) (.int .i64 0))
    rw [HW3.out] at R9 B9
    clear h2 HW3 HT
    go_wp2
    exact rd_ret rfl R9.out (AnsRI.short FN.out _ B9.out) rfl
  · have FN := hid (FR.out.trans h2)
    have l2 : W3.cell? ⟨q, 2, none⟩ = some (.int .i64 (ln : Int)) := RowAt.cell D3.out 2
    have R9 := hid (r8_set R3.out (.int .i64 3) (.int .i64 (ln : Int)) (.string ⟨#[]⟩) (.string ⟨#[]⟩) (.slice none 0 0) (.slice none 0 0) (.string ⟨#[]⟩) (.int .i64 0))
    have B9 := hid (r8_bel (b := w.heap.size) B3.out (Nat.le_refl _) (.int .i64 3) (.int .i64 (ln : Int)) (.string ⟨#[]⟩) (.string ⟨#[]⟩) (.slice none 0 0) (.slice none 0 0) (.string ⟨#[]⟩) (.int .i64 0))
    rw [HW3.out] at R9 B9 l2
    clear h2 HW3 HT
    go_wp2
    exact rd_ret rfl R9.out (AnsRI.bad ln FN.out _ B9.out) rfl
  · have FN := hid (FR.out.trans h2)
    have HP : Hid ((p' : Int) = (n : Int) + ((min (d.size - ((n : Int)).toNat) 400000 - (D.size - p') : Nat) : Int)) := by
      show _ = _
      have h1 := DZ.out
      have h3 := HN.out
      have h4 : ((n : Int)).toNat = n := by omega
      have h5 := rdO_left h2
      rw [List.length_drop, baLen] at h5
      rw [h4]
      omega
    have l1 : W3.cell? ⟨q, 1, none⟩ = some (.int .i64 (p' : Int)) := RowAt.cell D3.out 1
    have y0 := Y3.out.cell 0
    have y1 := Y3.out.cell 1
    have y2 := Y3.out.cell 2
    have y3 := Y3.out.cell 3
    have y4 := Y3.out.cell 4
    have R9 := hid (r8_set R3.out (.int .i64 0) (.int .i64 0) (.string m) (.string pt) (.slice a1 QL cp1) (.slice a2 HL cp2) (.string b) (.int .i64 (p' : Int)))
    have B9 := hid (r8_bel (b := w.heap.size) B3.out (Nat.le_refl _) (.int .i64 0) (.int .i64 0) (.string m) (.string pt) (.slice a1 QL cp1) (.slice a2 HL cp2) (.string b) (.int .i64 (p' : Int)))
    have O91 := hid (r8_own (b := w.heap.size) O1.out (Nat.lt_succ_self _) (.int .i64 0) (.int .i64 0) (.string m) (.string pt) (.slice a1 QL cp1) (.slice a2 HL cp2) (.string b) (.int .i64 (p' : Int)))
    have O92 := hid (r8_own (b := w.heap.size) O2.out (Nat.lt_succ_self _) (.int .i64 0) (.int .i64 0) (.string m) (.string pt) (.slice a1 QL cp1) (.slice a2 HL cp2) (.string b) (.int .i64 (p' : Int)))
    rw [HW3.out] at R9 B9 l1 y0 y1 y2 y3 y4 O91 O92
    clear h2 HW3 HT
    go_wp2_with fail
    go_region
    all_goals go_wp2
    all_goals first
      | exact rd_ret rfl R9.out.drew (AnsRI.ok m pt Q H b (D.size - p') FN.out _ _ _ HP.out _ B9.out.drew (OwnHp.mono (World.ownsRow.drew O91.out) (Nat.le_succ _)) (OwnHp.mono (World.ownsRow.drew O92.out) (Nat.le_succ _)) DJ.out) rfl

end Go.Proofs.YtgoplcjjoiiagaaGreatDoor
