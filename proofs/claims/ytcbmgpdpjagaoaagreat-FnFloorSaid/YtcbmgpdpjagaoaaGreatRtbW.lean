import Derived.Test.YtcbmgpdpjagaoaaGreatRtbL
import Derived.BigQuiet
namespace Go.Proofs.YtcbmgpdpjagaoaaGreat
open Go.RowKit
set_option linter.unusedVariables false
theorem lockH {P : Prop} (h : Hid P) : P := h.out
theorem or_baseUp {w : World} {B B' k n : Nat} {t : TypeId} {v : Value} {cs : List Value} (h : w.ownsRow B t k v n cs) (hb : B' ≤ B) : w.ownsRow B' t k v n cs := by
 refine ⟨h.1, ?_⟩
 rcases h.2 with h0 | ⟨g, cap, cur, he, hb2, r⟩
 · exact .inl h0
 · exact .inr ⟨g, cap, cur, he, by omega, r⟩
structure RtV (W : World) (base : Nat) (t : Tt) (vF vR : Value) (Q : List (Value × List En)) (vO : Value) (O : List (Ot × Value)) : Prop where
 fr : OwnEn W base vF t.fr
 rs : W.ownsRow base 25 1 vR Q.length (Q.map Prod.fst)
 ru : ∀ p ∈ Q, OwnEn W base p.1 p.2
 ap : ∀ p ∈ Q, ∀ g, p.1.ownBlock = some g → vF.ownBlock ≠ some g
 eq : Q.map Prod.snd = t.rs
 ou : W.ownsRow base 41 3 vO O.length (ouL O)
 oe : ∀ p ∈ O, OwnEn W base p.2 p.1.en
def FulP (t : Tt) : Prop := t.all.length = 1000 ∨ t.sq = 4611686018427387904
def RtG (w : World) (t0 : Tt) (o : Nat → TOp) (n : Nat) (e : Ending) (w' : World) : Prop := (∃ t vF vR Q vO O, e = .returned (.agg #[.int .i64 t.sq, .int .i64 t.fl, vF, vR, vO]) ∧ Rns8 o t0 n t (O.map Prod.fst) ∧ RtV w' w.heap.size t vF vR Q vO O) ∧ Below w.heap.size w w'
def RtQ (w : World) (o : Nat → TOp) (n : Nat) (e : Ending) (w' : World) : Prop := (∃ t vF vR Q vO O, e = .returned (.agg #[.int .i64 t.sq, .int .i64 t.fl, vF, vR, vO]) ∧ Rns8 o ⟨0, 0, [], []⟩ n t (O.map Prod.fst) ∧ RtV w' w.heap.size t vF vR Q vO O) ∧ Below w.heap.size w w'
def rnL8 (R : Nat → Rn) (m : Nat) : List (List En) := (List.range m).map fun k => (List.range (R k).n).map (R k).o
theorem rnL8_succ (R : Nat → Rn) (m : Nat) : rnL8 R (m + 1) = rnL8 R m ++ [(List.range (R m).n).map (R m).o] := by unfold rnL8; rw [List.range_succ, List.map_append]; rfl
set_option maxRecDepth 40000 in
set_option maxHeartbeats 64000000 in
theorem sRunTbG (s f : Int) (a0 : Option Addr) (n0 c0 : Nat) (o0 : Nat → En) (ar : Option Addr) (m cap : Nat) (R : Nat → Rn) (ht : tabOk s f n0 o0 m R) (hz0 : a0 = none → c0 = 0) (hnil : ∀ k, k < m → (R k).ad = none → (R k).cap = 0) (ad : Option Addr) (n cp : Nat) (o : Nat → TOp) (hn : n ≤ 2000) (w : World) (h0 : Ens w a0 n0 c0 o0) (hR : Rns w ar m cap R) (h : Tops w ad n cp o) :
 Calls Tryz.prog 9 #[.agg #[.int .i64 s, .int .i64 f, .slice a0 n0 c0, .slice ar m cap], .slice ad n cp] w fun e w' => RtG w (ttOf s f n0 o0 m R) o n e w' := by
 obtain ⟨W1, hW1⟩ : ∃ W, W = (w.alloc (.cells #[.int .i64 s, .int .i64 f, .slice a0 n0 c0, .slice ar m cap] 28)).alloc (.cells #[.int .i64 0, .int .i64 0, .slice none 0 0, .slice none 0 0, .slice none 0 0] 35) := ⟨_, rfl⟩; have B1 : Hid (Below w.heap.size w W1) := by rw [hW1]; exact balEn (balEn (Below.refl _ _) _) _
 have T1 : Hid (RA W1 w.heap.size 28 #[.int .i64 s, .int .i64 f, .slice a0 n0 c0, .slice ar m cap]) := by rw [hW1]; exact (RA.new _ _ _).alloc _
 have R1 : Hid (RA W1 (w.heap.size + 1) 35 #[.int .i64 0, .int .i64 0, .slice none 0 0, .slice none 0 0, .slice none 0 0]) := by rw [hW1]; exact RA.next _ _ _ (by rw [size_al])
 have HO := hid h; have hm20 : m ≤ 20 := ht.1.2.2.2; have hcn : cntR R m + n0 ≤ 1000 := ht.2.2.2.1; have hTS := tab_sz ht; have K0 := hid (sTabF s f a0 n0 c0 o0 ar m cap R (by omega) (by omega) hTS.2 hTS.1 W1 (h0.below B1.out) (hR.below B1.out)); rw [tabV_ok ht] at K0; obtain ⟨t0, ht0⟩ : ∃ x, x = ttOf s f n0 o0 m R := ⟨_, rfl⟩; obtain ⟨FF, hFF⟩ : ∃ x, x = (List.range n0).map o0 := ⟨_, rfl⟩; have HT0 : Hid (t0 = ⟨s, f, FF, rnL8 R m⟩) := by show _ = _; rw [ht0, hFF]; rfl
 have HTB : Hid (TOk t0) := by show TOk t0; rw [ht0]; exact (tb_of_tab ht).tok
 rw [← ht0]; have E0 : Hid (∀ wx, Below w.heap.size w wx → Ens wx a0 n0 c0 (enA FF)) := fun wx hx => by rw [hFF]; exact (h0.below hx).cg fun k hk => (enA_range _ hk).symm
 have LF : Hid (FF.length = n0) := by show _ = _; rw [hFF]; simp
 have HR0 := hid hR; have HNIL := hid hnil
 have HCN : Hid (∀ k, k < m → (R k).n ≤ 1000) := fun k hk => by
  have z1 : cntR R (k + 1) = cntR R k + (R k).n := rfl; have z2 := cntR_mono R (show k + 1 ≤ m by omega)
  omega
 have r0 := T1.out.cell 0; have r1 := T1.out.cell 1; have r2 := T1.out.cell 2; have r3 := T1.out.cell 3; have dn : ¬ (2000 : Int) < (n : Int) := by omega
 have dn2 : decide ((2000 : Int) < (n : Int)) = false := by simp; omega
 have hn06 : n0 ≤ 1048576 := by omega
 clear h h0 hR hnil ht hTS ht0 hFF hcn
 go_enter Tryz.func9, Tryz.ntmps9
 go_upto_region 1 with fail
 rw [← hW1]; clear hW1
 go_wp2_with fail
 refine K0.out.mono ?_
 rintro e w2 ⟨rfl, hb2⟩
 have T2 := hid (T1.out.below hb2 T1.out.lt); have R2 := hid (R1.out.below hb2 R1.out.lt); have B2 := hid (B1.out.trans (hb2.mono B1.out.size)); clear hb2 K0 r0 r1 r2 r3 T1 R1 B1; have r0 := T2.out.cell 0; have r1 := T2.out.cell 1; obtain ⟨W3, hW3⟩ : ∃ W, W = w2.alloc (.cells #[.int .i64 s, .int .i64 f, .slice none 0 0, .slice none 0 0] 28) := ⟨_, rfl⟩; have b3 : Below w2.heap.size w2 W3 := by rw [hW3]; exact (Below.refl _ _).alloc (Nat.le_refl _) _
 have N3 : Hid (RA W3 w2.heap.size 28 #[.int .i64 s, .int .i64 f, .slice none 0 0, .slice none 0 0]) := by rw [hW3]; exact RA.new _ _ _
 have T3 := hid (T2.out.below b3 T2.out.lt); have R3 := hid (R2.out.below b3 R2.out.lt); have B3 := hid (B2.out.trans (b3.mono B2.out.size)); have Z3 := hid (R2.out.lt)
 go_upto_region 4 with ((refine wpList_store_row rfl 28 (.tmp 5) (.tmp 27) rfl w2.heap.size #[.int .i64 s, .int .i64 f, .slice none 0 0, .slice none 0 0] rfl rfl _ _ (RA.new w2 _ _) (by kernel_rfl) rfl (by simp [Value.oneCell']) ?_); rw [World.setRow_alloc_new])
 rw [← hW3]; clear hW3 b3 r0 r1 T2 R2 B2; obtain ⟨b, hb⟩ : ∃ b, b = w2.heap.size := ⟨_, rfl⟩; rw [← hb] at N3 Z3 ⊢; have HB3 := hid (N3.out.lt); clear hb; obtain ⟨W4, hW4⟩ : ∃ W, W = W3.alloc (.cells #[] 46) := ⟨_, rfl⟩; have b4 : Below W3.heap.size W3 W4 := by rw [hW4]; exact (Below.refl _ _).alloc (Nat.le_refl _) _
 have O4 : Hid (OwnEn W4 W3.heap.size (.slice (some ⟨W3.heap.size, 0, none⟩) 0 0) []) := by rw [hW4]; exact World.ownsRow_made W3 #[] 0 (Nat.le_refl _) (by decide) rfl
 obtain ⟨base, hbase⟩ : ∃ x, x = W3.heap.size := ⟨_, rfl⟩; have T4 := hid (T3.out.below b4 T3.out.lt); have R4 := hid (R3.out.below b4 R3.out.lt); have N4 := hid (N3.out.below b4 N3.out.lt); have B4 := hid (B3.out.trans (b4.mono B3.out.size)); have S4 : Hid (base ≤ W4.heap.size) := by show _ ≤ _; rw [hbase]; exact b4.size
 have E4 := hid (E0.out W4 B4.out); have NX : Hid (w.heap.size + 1 < b ∧ b < base ∧ w.heap.size ≤ base) := by have z1 := Z3.out; have z2 := HB3.out; have z3 := B3.out.size; show _ ∧ _ ∧ _; omega
 have r2 := T4.out.cell 2; rw [hW4] at r2 O4 E4; have HW4 := hid hW4; have HBASE := hid hbase; have S4' : Hid (W3.heap.size ≤ (W3.alloc (.cells #[] 46)).heap.size) := by show _ ≤ _; rw [← HW4.out]; exact b4.size
 clear hW4 b4 T3 R3 N3 B3 HB3 Z3 hbase
 go_wp2_with (at_builtin; refine lockH ?_)
 refine hid ?_; refine append_ens W3.heap.size _ rfl (.tmp 28) (.tmp 31) rfl (.slice (some ⟨W3.heap.size, 0, none⟩) 0 0) [] FF n0 LF.out rfl O4.out S4'.out a0 c0 rfl hz0 E4.out (by simp; omega) ?_; intro v5 w5 hO5 hg5; rw [← HW4.out, ← HBASE.out] at hg5; rw [← HBASE.out] at hO5; rw [List.nil_append] at hO5; obtain ⟨a5, c5, hv5⟩ := hO5.slice; rw [LF.out] at hv5; subst hv5; have ng : ∀ {g ty cs}, RA W4 g ty cs → g < base → RA w5 g ty cs := fun {g ty cs} r hlt => (hg5.block g r.lt (fun e => by have e' : base = g := Option.some.inj e.symm; omega)).trans r; have T5 := hid (ng T4.out (by have := NX.out; omega)); have R5 := hid (ng R4.out (by have := NX.out; omega)); have N5 := hid (ng N4.out (by have := NX.out; omega)); have B5 : Hid (Below w.heap.size w w5) := B4.out.grown hg5 B4.out.size (fun g e => by have e' : base = g := Option.some.inj e; have := NX.out; omega); have O5 := hid hO5; have S5 : Hid (base ≤ w5.heap.size) := Nat.le_trans S4.out hg5.size; clear hO5 hg5 ng T4 R4 N4 B4 O4 S4 S4' E4 r2 HW4 HBASE; have c2 := N5.out.cell 2; have f2 := N5.out.free 2; obtain ⟨W6, hW6⟩ : ∃ W, W = w5.setCell ⟨b, 2, none⟩ (.slice a5 n0 c5) := ⟨_, rfl⟩; have ok6 : ∀ {g ty cs}, RA w5 g ty cs → g ≠ b → RA W6 g ty cs := fun {g ty cs} r hne => by rw [hW6]; exact r.other _ _ hne
 have F6 : Hid (RtF w W6 (w.heap.size + 1) b base s f #[.int .i64 s, .int .i64 f, .slice a0 n0 c0, .slice ar m cap] FF (.slice a5 n0 c5) (.slice none 0 0) [] (rnL8 R 0)) := by
  have z := NX.out; refine ⟨ok6 T5.out (by omega), ok6 R5.out (by omega), by rw [hW6]; exact N5.out.set 2 _, O5.out.keep fun g cs e r => ok6 r (row_ne r N5.out (by decide)), ⟨rfl, .inl ⟨rfl, rfl⟩⟩, (fun p hp => by cases hp), (fun p hp => by cases hp), rfl, by rw [hW6]; exact B5.out.setCell (by show w.heap.size ≤ b; omega) _, by rw [hW6]; exact Nat.le_trans S5.out grown_set.size, by omega⟩
 have HW6 := hid hW6; clear hW6 ok6
 go_upto_region 5 with fail
 rw [← HW6.out]; clear HW6 c2 f2 T5 R5 N5 B5 O5 S5; obtain ⟨vF, hvF⟩ : ∃ v, v = Value.slice a5 n0 c5 := ⟨_, rfl⟩; obtain ⟨X, hX⟩ : ∃ x, x = w.heap.size + 1 := ⟨_, rfl⟩; obtain ⟨tc, htc⟩ : ∃ x, x = (#[.int .i64 s, .int .i64 f, .slice a0 n0 c0, .slice ar m cap] : Array Value) := ⟨_, rfl⟩; rw [← hvF, ← hX] at F6; have HTC : Hid (tc = #[.int .i64 s, .int .i64 f, .slice a0 n0 c0, .slice ar m cap]) := htc; rw [← htc] at F6; rw [← hX]; have HXX := hid hX; clear hX hvF htc
 go_wp2_with fail
 go_loopw [6] (fun q wr => ∃ (i : Nat) (vR : Value) (Q : List (Value × List En)), i ≤ m ∧ q = .int .i64 (i : Int) ∧ RtF w wr X b base s f tc FF vF vR Q (rnL8 R i)) (fun q _ => m - (intOf q).toNat)
 case atStart => exact ⟨0, _, _, Nat.zero_le _, rfl, F6.out⟩
 case round =>
  obtain ⟨i, vR, Q, hi, rfl, hF⟩ := hrel; have F5 := hid hF; have QL : Hid (Q.length = i) := by show _ = _; have := congrArg List.length hF.eq; simpa [rnL8] using this
  obtain ⟨aR, cR, hvR⟩ := or_slice hF.rs; obtain ⟨nR, hnR⟩ : ∃ x, x = Q.length := ⟨_, rfl⟩; rw [← hnR] at hvR; clear hF hnR F6; subst hvR; have r3 : wr.cell? ⟨w.heap.size, 3, none⟩ = some (.slice ar m cap) := by have z := F5.out.src; rw [HTC.out] at z; exact z.cell 3
  by_cases hlt : i < m
  · have d0 : (i : Int) < (m : Int) := by omega
    have i0 : (0 : Int) ≤ (i : Int) := by omega
    rcases (HR0.out.below F5.out.bl).2.1 with h00 | ⟨bo, off, hbo, hbl, hcc⟩
    · omega
    have hbw : bo < w.heap.size := by
     rcases HR0.out.2.1 with z | ⟨b', off', hb', hlt', _⟩
     · omega
     · rw [hbo] at hb'
       injection hb' with e
       injection e with e1
       omega
    subst hbo; have hEI := (HR0.out.below F5.out.bl).2.2 i hlt; have H5 := hid (hcc i hlt); have NI0 := HNIL.out i hlt; have LE0 := HCN.out i hlt; have HS : Hid (rnL8 R (i + 1) = rnL8 R i ++ [(List.range (R i).n).map (R i).o]) := rnL8_succ R i; obtain ⟨M, hM⟩ : ∃ x, x = (List.range (R i).n).map (R i).o := ⟨_, rfl⟩; have EI0 : Ens wr (R i).ad (R i).n (R i).cap (enA M) := by rw [hM]; exact hEI.cg fun k hk => (enA_range _ hk).symm
    have LM0 : M.length = (R i).n := by rw [hM]; simp
    rw [← hM] at HS
    generalize (R i).ad = A at H5 NI0 EI0
    generalize (R i).n = N at H5 LE0 EI0 LM0
    generalize (R i).cap = C at H5 NI0 EI0
    have NI := hid NI0; have LE := hid LE0; have EI := hid EI0; have LM := hid LM0; have HBW := hid hbw; have HBO : Hid (bo < wr.heap.size) := hbl; have SC : Hid (∀ wx : World, RA wx w.heap.size 28 tc → wx.cell? ⟨w.heap.size, 3, none⟩ = some (.slice (some ⟨bo, off, none⟩) m cap)) := fun wx r => by rw [HTC.out] at r; exact r.cell 3
    clear hcc hEI NI0 LE0 EI0 LM0 hbw hbl hM; have bA : Hid (Below wr.heap.size wr (wr.alloc (.cells #[] 46))) := (Below.refl wr.heap.size wr).alloc (Nat.le_refl _) (.cells #[] 46); have F6 := hid (F5.out.below bA.out); have O6 : Hid (OwnEn (wr.alloc (.cells #[] 46)) wr.heap.size (.slice (some ⟨wr.heap.size, 0, none⟩) 0 0) []) := World.ownsRow_made wr #[] 0 (Nat.le_refl _) (by decide) rfl; have E6 := hid (EI.out.below bA.out); have c3 := F5.out.tb.cell 3; have c3a := F6.out.tb.cell 3; have s3 := SC.out _ F5.out.src; have s3a := SC.out _ F6.out.src; have h5 := H5.out; have h5a := (bA.out.cell (p := ⟨bo, off + i, none⟩) HBO.out).trans H5.out; clear r3
    go_upto_block 1 with fail
    go_cut [] from 42 to 55 (fun wx => ∃ vR' Q', RtF w wx X b base s f tc FF vF vR' Q' (rnL8 R i ++ [M]))
    case first =>
     as_aux_lemma =>
      go_upto_region 8 with fail
      go_region_law (first
       | (refine step_append_ens wr.heap.size _ (by rfl) _ _ (by rfl) (.slice (some ⟨wr.heap.size, 0, none⟩) 0 0) [] M N LM.out (by rfl) (by first | exact O6.out | exact World.ownsRow.drew O6.out) (by exact bA.out.size) A C (by rfl) NI.out (by exact E6.out) (by have := LE.out; simp; omega) ?_; intro v7 w7 hO7 hg; obtain ⟨a7, c7, hv7⟩ := hO7.slice; rw [List.nil_append] at hO7 hv7; rw [LM.out] at hv7; subst hv7; have hg7 : (wr.alloc (.cells #[] 46)).grownBy w7 (some wr.heap.size) := ⟨hg.os, hg.tape, hg.output, hg.size, hg.block⟩; have O7 := hid hO7; have bG : Hid (Below wr.heap.size wr w7) := bA.out.grown hg7 bA.out.size (fun g e => by have e1 : wr.heap.size = g := Option.some.inj e; omega); have F7 := hid (F5.out.below bG.out); have H7 := hid ((bG.out.cell (p := ⟨bo, off + i, none⟩) HBO.out).trans H5.out); clear hO7 hg hg7; have y3 := F7.out.tb.cell 3; have z3 := SC.out _ F7.out.src; have k5 := H7.out; have bB : Hid (Below w7.heap.size w7 (w7.alloc (.cells #[.slice a7 N c7] 25))) := (Below.refl _ _).alloc (Nat.le_refl _) _; have F8 := hid (F7.out.below bB.out); have O8 := hid (O7.out.below bB.out); have X8 : Hid (RA (w7.alloc (.cells #[.slice a7 N c7] 25)) w7.heap.size 25 #[.slice a7 N c7]) := RA.new _ _ _; have y3a := F8.out.tb.cell 3; have z3a := SC.out _ F8.out.src; dsimp only)
       | (refine stepR_append base _ (by rfl) _ _ (by rfl) (.slice aR nR cR) Q (.slice a7 N c7, M) (by rfl) (by first | exact F8.out.rs | exact World.ownsRow.drew F8.out.rs) (by exact F8.out.sz) w7.heap.size (by exact X8.out) (by rfl) (by rfl) (by have := QL.out; omega) ?_; intro v9 w9 hO9 hg; obtain ⟨a9, c9, hv9⟩ := or_slice hO9; obtain ⟨n9, hn9⟩ : ∃ x, x = (Q ++ [((.slice a7 N c7, M) : Value × List En)]).length := ⟨_, rfl⟩; rw [← hn9] at hv9; clear hn9; subst hv9; have hg9 : (w7.alloc (.cells #[.slice a7 N c7] 25)).grownBy w9 (Value.slice aR nR cR).ownBlock := ⟨hg.os, hg.tape, hg.output, hg.size, hg.block⟩; have P9 := F8.out.push hg9 (p := (.slice a7 N c7, M)) (O8.out.baseUp F5.out.sz) (fun g e e2 => by have z1 := (O8.out.row e).1; have z2 := (F5.out.fr.row e2).2.1; omega) hO9; have N9 := hid P9.1; have T9 := hid P9.2; clear hO9 hg hg9 P9; have x3 : w9.cell? ⟨b, 3, none⟩ = some (.slice aR nR cR) := T9.out.cell 3; have g3 := T9.out.free 3; dsimp only))
      all_goals go_wp2_with fail
      all_goals go_meet
      all_goals exact ⟨_, _, N9.out⟩
    case rest =>
     obtain ⟨vR', Q', hNA⟩ := hcut; have NA := hid hNA; clear hNA
     go_wp2_with fail
     go_roundw
     case rel => exact ⟨i + 1, _, _, by omega, by go_num, by have z := NA.out; rw [← HS.out] at z; exact z⟩
     case measure => simp [intOf]; omega
  · have d0 : ¬ (i : Int) < (m : Int) := by omega
    have him : i = m := by omega
    have I6 := F5.out; rw [him] at I6; obtain ⟨W7, hW7⟩ : ∃ W, W = wr.alloc (.cells #[.int .i64 0, .int .i64 0, .slice none 0 0, .slice none 0 0, .slice none 0 0] 35) := ⟨_, rfl⟩; have b7 : Below wr.heap.size wr W7 := by rw [hW7]; exact (Below.refl _ _).alloc (Nat.le_refl _) _
    have R7 : RA W7 wr.heap.size 35 #[.int .i64 0, .int .i64 0, .slice none 0 0, .slice none 0 0, .slice none 0 0] := by rw [hW7]; exact RA.new _ _ _
    obtain ⟨rb, hrb⟩ : ∃ x, x = wr.heap.size := ⟨_, rfl⟩
    have I7 : Hid (RtI w W7 X b rb base t0 vF (.slice aR nR cR) Q (.slice none 0 0) []) := by
     have J := I6.below b7; rw [HT0.out]; refine ⟨J.res, J.tb, by rw [hrb]; exact R7, J.fr, J.rs, J.ru, J.ap, J.eq, ⟨rfl, .inl ⟨rfl, rfl⟩⟩, (fun p hp => by cases hp), (fun p hp => by cases hp), J.bl, J.sz, ?_⟩; have z1 := I6.nx; have z2 := I6.sz
     omega
    clear hi him
    go_upto_region 10 with ((refine wpList_store_row rfl 35 (.tmp 7) (.tmp 56) rfl wr.heap.size #[.int .i64 0, .int .i64 0, .slice none 0 0, .slice none 0 0, .slice none 0 0] rfl rfl _ _ (RA.new wr _ _) (by kernel_rfl) rfl (by simp [Value.oneCell']) ?_); rw [World.setRow_alloc_new])
    rw [← hW7, ← hrb]; clear hW7 b7 R7 hrb r3 F5 I6 QL HR0 HNIL HCN E0 LF NX HTC HT0; obtain ⟨VR, hVR⟩ : ∃ v, v = Value.slice aR nR cR := ⟨_, rfl⟩; rw [← hVR] at I7; clear hVR
    go_wp2_with fail
    go_loopw [8] (fun q wr => ∃ (i : Nat) (t : Tt) (vF vR : Value) (Q : List (Value × List En)) (vO : Value) (O : List (Ot × Value)), i ≤ n ∧ q = .int .i64 (i : Int) ∧ Rns8 o t0 i t (O.map Prod.fst) ∧ RtI w wr X b rb base t vF vR Q vO O) (fun q _ => n - (intOf q).toNat)
    case atStart => exact ⟨0, _, _, _, _, _, _, Nat.zero_le _, rfl, .zero, I7.out⟩
    case round =>
     obtain ⟨i, t, vF, vR, Q, vO, O, hi, rfl, hRun, hI⟩ := hrel; have RUN := hid hRun; have RI0 := hid hI; clear hRun hI I7
     by_cases hlt : i < n
     · have d0 : (i : Int) < (n : Int) := by omega
       have i0 : (0 : Int) ≤ (i : Int) := by omega
       have OL : Hid (O.length ≤ 2000) := by show _ ≤ _; have := RUN.out.len; rw [List.length_map] at this; omega
       have TK := hid (RUN.out.ok HTB.out)
       rcases (HO.out.below RI0.out.bl).2 with h00 | ⟨bo, off, rfl, hbl, hcc⟩
       · omega
       obtain ⟨x0, x1, x2, x3, x4, x5⟩ := hcc i hlt; clear hcc; obtain ⟨OP, hOP⟩ : ∃ OP, OP = o i := ⟨_, rfl⟩; rw [← hOP] at x0 x1 x2 x3 x4 x5; have HOP := hid hOP; clear hOP; obtain ⟨kd, ky, tx, oq, til, lm⟩ := OP; dsimp only at x0 x1 x2 x3 x4 x5; obtain ⟨a0, c0, a, cap, R, hvF, hvR, hE, hN, hz0, hnil, hall, hallE, hcnt⟩ := RI0.out.rd; obtain ⟨NF, hNF⟩ : ∃ x, x = t.fr.length := ⟨_, rfl⟩; obtain ⟨NR, hNR⟩ : ∃ x, x = t.rs.length := ⟨_, rfl⟩; obtain ⟨SQ, hSQ⟩ : ∃ x, x = t.sq := ⟨_, rfl⟩; obtain ⟨FL, hFL⟩ : ∃ x, x = t.fl := ⟨_, rfl⟩; rw [← hNF] at hvF hE hall; rw [← hNR] at hvR hN hnil hall hallE hcnt; subst hvF hvR; have RI := hid RI0.out; have HE := hid hE; have HNN := hid hN; have HZ0 := hid hz0; have HNIL := hid hnil; have HALL := hid hall; have HALE := hid hallE; have HCNT := hid hcnt; have HNF := hid hNF; have HNR := hid hNR; have HSQ := hid hSQ; have HFL := hid hFL; have AL : Hid (t.all.length = NF + t.rs.flatten.length) := by show _ = _; unfold Tt.all; rw [List.length_append, hNF]
       have NFB : Hid (NF ≤ 1000) := by show _ ≤ _; have := TK.out.cnt; have := AL.out; omega
       have QL : Hid (Q.length ≤ 20) := by show _ ≤ _; have := TK.out.m; rw [← RI0.out.eq, List.length_map] at this; exact this
       have NRB : Hid (NR ≤ 20) := by show _ ≤ _; have := TK.out.m; omega
       have q0 : 0 ≤ SQ := by rw [hSQ]; exact TK.out.q0
       have q1 : SQ ≤ 4611686018427387904 := by rw [hSQ]; exact TK.out.q1
       clear hE hN hz0 hnil hall hallE hcnt hNF hNR RI0; obtain ⟨WA, hWA⟩ : ∃ W, W = wr.alloc (.cells #[.int .i64 kd, .string ky, .string tx, .int .i64 oq, .string til, .int .i64 lm] 39) := ⟨_, rfl⟩; have OA : RA WA wr.heap.size 39 #[.int .i64 kd, .string ky, .string tx, .int .i64 oq, .string til, .int .i64 lm] := by rw [hWA]; exact RA.new _ _ _
       have bWA : Below wr.heap.size wr WA := by rw [hWA]; exact (Below.refl _ _).alloc (Nat.le_refl _) _
       go_upto_region 14 with ((refine wpList_store_row rfl 39 (.tmp 9) (.tmp 66) rfl wr.heap.size #[.int .i64 kd, .string ky, .string tx, .int .i64 oq, .string til, .int .i64 lm] rfl rfl _ _ (RA.new wr _ _) (by kernel_rfl) rfl (by simp [Value.oneCell']) ?_); rw [World.setRow_alloc_new])
       rw [← hWA]; clear hWA x0 x1 x2 x3 x4 x5; obtain ⟨WB, hWB⟩ : ∃ W, W = WA.alloc (.cells #[.int .i64 0, .string ⟨#[]⟩, .slice none 0 0] 41) := ⟨_, rfl⟩; have bWB : Below WA.heap.size WA WB := by rw [hWB]; exact (Below.refl _ _).alloc (Nat.le_refl _) _
       have OB := hid (OA.below bWB OA.lt); have BWB := hid (bWA.trans (bWB.mono bWA.size)); obtain ⟨ub, hub⟩ : ∃ x, x = WA.heap.size := ⟨_, rfl⟩; have UB : Hid (RA WB ub 41 #[.int .i64 0, .string ⟨#[]⟩, .slice none 0 0]) := by rw [hWB, hub]; exact RA.new _ _ _
       have UBG : Hid (wr.heap.size < ub) := by rw [hub]; exact OA.lt
       have RWB := hid (RI.out.below BWB.out)
       go_upto_region 15 with ((refine wpList_store_row rfl 41 (.tmp 10) (.tmp 67) rfl WA.heap.size #[.int .i64 0, .string ⟨#[]⟩, .slice none 0 0] rfl rfl _ _ (RA.new WA _ _) (by kernel_rfl) rfl (by simp [Value.oneCell']) ?_); rw [World.setRow_alloc_new])
       rw [← hWB, ← hub]; clear hWB hub bWA bWB OA; have p0 := OB.out.cell 0; have p1 := OB.out.cell 1; have p2 := OB.out.cell 2; have p3 := OB.out.cell 3; have p4 := OB.out.cell 4; have p5 := OB.out.cell 5; have b0 := RWB.out.tb.cell 0; have b1 := RWB.out.tb.cell 1; have b2 := RWB.out.tb.cell 2; have b3 := RWB.out.tb.cell 3; rw [← hSQ] at b0; rw [← hFL] at b1; clear hSQ hFL
       by_cases hk1 : kd = 1
       · obtain rfl : kd = 1 := hk1
         by_cases hs1 : ky.size < 1
         · have e1 : (ky.size : Int) < 1 := by omega
           have e2 : decide ((ky.size : Int) < 1) = true := by simp; omega
           have KB : Hid (¬ (1 ≤ ky.size ∧ ky.size ≤ 200)) := fun q => by omega
           as_aux_lemma =>
            have ST0 : Hid (Stp t ⟨1, ky, tx, oq, til, lm⟩ t ⟨1, ⟨#[]⟩, []⟩) := .key (.inl rfl) KB.out; obtain ⟨WZ, hWZ⟩ : ∃ W, W = WB.setCell ⟨ub, 0, none⟩ (.int .i64 1) := ⟨_, rfl⟩; have bZ : Below wr.heap.size wr WZ := by rw [hWZ]; exact BWB.out.setCell (by show wr.heap.size ≤ ub; have := UBG.out; omega) _
            have UZ : Hid (RA WZ ub 41 #[.int .i64 1, .string ⟨#[]⟩, .slice none 0 0]) := by rw [hWZ]; exact UB.out.set 0 _
            have RT := hid (RI.out.below bZ); have VE : Hid (OwnEn WZ base (.slice none 0 0) []) := OwnEn.nil _ _; have AP : Hid (∀ g, (Value.slice none 0 0).ownBlock = some g → (Value.slice a0 NF c0).ownBlock ≠ some g) := fun g e => by cases e
            have OC : Hid ((Value.slice none 0 0).oneCell' = true) := rfl; have u0 := UB.out.cell 0; have uf := UB.out.free 0; clear bZ RI
            go_upto_region 56 with fail
            rw [← hWZ]; clear hWZ u0 uf p0 p1 p2 p3 p4 p5 UB OB b0 b1 b2 b3; have q4 := RT.out.rr.cell 4; have z0 := UZ.out.cell 0; have z1 := UZ.out.cell 1; have z2 := UZ.out.cell 2
            go_wp2_with (at_builtin; refine lockH ?_)
            refine hid ?_; refine append_out base _ rfl (.tmp 236) (.tmp 238) rfl vO O (⟨1, ⟨#[]⟩, []⟩, .slice none 0 0) rfl RT.out.ou RT.out.sz rfl OC.out (by have := OL.out; omega) ?_; intro v9 w9 hO9 hg9; obtain ⟨a9, k9, hv9⟩ := or_slice hO9; obtain ⟨N9, hN9⟩ : ∃ N, N = (O ++ [((⟨1, ⟨#[]⟩, []⟩ : Ot), (.slice none 0 0 : Value))]).length := ⟨_, rfl⟩; rw [← hN9] at hv9; subst hv9; clear hN9; have RN := hid (RT.out.out hg9 VE.out AP.out hO9); have r9 := RT.out.rr1 hg9; have c9 := r9.cell 4; have f9 := r9.free 4; have ST := hid (ST0.out); clear hO9 hg9 r9 RT UZ VE AP q4 z0 z1 z2
            go_wp2
            go_roundw
            case rel => exact ⟨i + 1, t, (Value.slice a0 NF c0), (Value.slice a NR cap), Q, .slice a9 N9 k9, O ++ [(⟨1, ⟨#[]⟩, []⟩, .slice none 0 0)], by omega, by go_num, by rw [List.map_append]; exact RUN.out.next (by rw [← HOP.out]; exact ST.out), RN.out⟩
            case measure => simp [intOf]; omega
         · have e1 : ¬ (ky.size : Int) < 1 := by omega
           have e2 : decide ((ky.size : Int) < 1) = false := by simp; omega
           by_cases hs2 : 200 < ky.size
           · have e3 : (200 : Int) < (ky.size : Int) := by omega
             have e4 : decide ((200 : Int) < (ky.size : Int)) = true := by simp; omega
             have KB : Hid (¬ (1 ≤ ky.size ∧ ky.size ≤ 200)) := fun q => by omega
             as_aux_lemma =>
              have ST0 : Hid (Stp t ⟨1, ky, tx, oq, til, lm⟩ t ⟨1, ⟨#[]⟩, []⟩) := .key (.inl rfl) KB.out; obtain ⟨WZ, hWZ⟩ : ∃ W, W = WB.setCell ⟨ub, 0, none⟩ (.int .i64 1) := ⟨_, rfl⟩; have bZ : Below wr.heap.size wr WZ := by rw [hWZ]; exact BWB.out.setCell (by show wr.heap.size ≤ ub; have := UBG.out; omega) _
              have UZ : Hid (RA WZ ub 41 #[.int .i64 1, .string ⟨#[]⟩, .slice none 0 0]) := by rw [hWZ]; exact UB.out.set 0 _
              have RT := hid (RI.out.below bZ); have VE : Hid (OwnEn WZ base (.slice none 0 0) []) := OwnEn.nil _ _; have AP : Hid (∀ g, (Value.slice none 0 0).ownBlock = some g → (Value.slice a0 NF c0).ownBlock ≠ some g) := fun g e => by cases e
              have OC : Hid ((Value.slice none 0 0).oneCell' = true) := rfl; have u0 := UB.out.cell 0; have uf := UB.out.free 0; clear bZ RI
              go_upto_region 56 with fail
              rw [← hWZ]; clear hWZ u0 uf p0 p1 p2 p3 p4 p5 UB OB b0 b1 b2 b3; have q4 := RT.out.rr.cell 4; have z0 := UZ.out.cell 0; have z1 := UZ.out.cell 1; have z2 := UZ.out.cell 2
              go_wp2_with (at_builtin; refine lockH ?_)
              refine hid ?_; refine append_out base _ rfl (.tmp 236) (.tmp 238) rfl vO O (⟨1, ⟨#[]⟩, []⟩, .slice none 0 0) rfl RT.out.ou RT.out.sz rfl OC.out (by have := OL.out; omega) ?_; intro v9 w9 hO9 hg9; obtain ⟨a9, k9, hv9⟩ := or_slice hO9; obtain ⟨N9, hN9⟩ : ∃ N, N = (O ++ [((⟨1, ⟨#[]⟩, []⟩ : Ot), (.slice none 0 0 : Value))]).length := ⟨_, rfl⟩; rw [← hN9] at hv9; subst hv9; clear hN9; have RN := hid (RT.out.out hg9 VE.out AP.out hO9); have r9 := RT.out.rr1 hg9; have c9 := r9.cell 4; have f9 := r9.free 4; have ST := hid (ST0.out); clear hO9 hg9 r9 RT UZ VE AP q4 z0 z1 z2
              go_wp2
              go_roundw
              case rel => exact ⟨i + 1, t, (Value.slice a0 NF c0), (Value.slice a NR cap), Q, .slice a9 N9 k9, O ++ [(⟨1, ⟨#[]⟩, []⟩, .slice none 0 0)], by omega, by go_num, by rw [List.map_append]; exact RUN.out.next (by rw [← HOP.out]; exact ST.out), RN.out⟩
              case measure => simp [intOf]; omega
           · have e3 : ¬ (200 : Int) < (ky.size : Int) := by omega
             have e4 : decide ((200 : Int) < (ky.size : Int)) = false := by simp; omega
             by_cases hbig : 100000 < tx.size
             · have g1 : (100000 : Int) < (tx.size : Int) := by omega
               have g2 : decide ((100000 : Int) < (tx.size : Int)) = true := by simp; omega
               have KOK : Hid (1 ≤ ky.size ∧ ky.size ≤ 200) := ⟨by omega, by omega⟩; have HBG := hid hbig
               as_aux_lemma =>
                have ST0 : Hid (Stp t ⟨1, ky, tx, oq, til, lm⟩ t ⟨2, ⟨#[]⟩, []⟩) := .big rfl KOK.out HBG.out; obtain ⟨WZ, hWZ⟩ : ∃ W, W = WB.setCell ⟨ub, 0, none⟩ (.int .i64 2) := ⟨_, rfl⟩; have bZ : Below wr.heap.size wr WZ := by rw [hWZ]; exact BWB.out.setCell (by show wr.heap.size ≤ ub; have := UBG.out; omega) _
                have UZ : Hid (RA WZ ub 41 #[.int .i64 2, .string ⟨#[]⟩, .slice none 0 0]) := by rw [hWZ]; exact UB.out.set 0 _
                have RT := hid (RI.out.below bZ); have VE : Hid (OwnEn WZ base (.slice none 0 0) []) := OwnEn.nil _ _; have AP : Hid (∀ g, (Value.slice none 0 0).ownBlock = some g → (Value.slice a0 NF c0).ownBlock ≠ some g) := fun g e => by cases e
                have OC : Hid ((Value.slice none 0 0).oneCell' = true) := rfl; have u0 := UB.out.cell 0; have uf := UB.out.free 0; clear bZ RI
                go_upto_region 56 with fail
                rw [← hWZ]; clear hWZ u0 uf p0 p1 p2 p3 p4 p5 UB OB b0 b1 b2 b3; have q4 := RT.out.rr.cell 4; have z0 := UZ.out.cell 0; have z1 := UZ.out.cell 1; have z2 := UZ.out.cell 2
                go_wp2_with (at_builtin; refine lockH ?_)
                refine hid ?_; refine append_out base _ rfl (.tmp 236) (.tmp 238) rfl vO O (⟨2, ⟨#[]⟩, []⟩, .slice none 0 0) rfl RT.out.ou RT.out.sz rfl OC.out (by have := OL.out; omega) ?_; intro v9 w9 hO9 hg9; obtain ⟨a9, k9, hv9⟩ := or_slice hO9; obtain ⟨N9, hN9⟩ : ∃ N, N = (O ++ [((⟨2, ⟨#[]⟩, []⟩ : Ot), (.slice none 0 0 : Value))]).length := ⟨_, rfl⟩; rw [← hN9] at hv9; subst hv9; clear hN9; have RN := hid (RT.out.out hg9 VE.out AP.out hO9); have r9 := RT.out.rr1 hg9; have c9 := r9.cell 4; have f9 := r9.free 4; have ST := hid (ST0.out); clear hO9 hg9 r9 RT UZ VE AP q4 z0 z1 z2
                go_wp2
                go_roundw
                case rel => exact ⟨i + 1, t, (Value.slice a0 NF c0), (Value.slice a NR cap), Q, .slice a9 N9 k9, O ++ [(⟨2, ⟨#[]⟩, []⟩, .slice none 0 0)], by omega, by go_num, by rw [List.map_append]; exact RUN.out.next (by rw [← HOP.out]; exact ST.out), RN.out⟩
                case measure => simp [intOf]; omega
             · have g1 : ¬ (100000 : Int) < (tx.size : Int) := by omega
               have g2 : decide ((100000 : Int) < (tx.size : Int)) = false := by simp; omega
               have KOK : Hid (1 ≤ ky.size ∧ ky.size ≤ 200) := ⟨by omega, by omega⟩; have BIG : Hid (¬ ((1 : Int) = 1 ∧ 100000 < tx.size)) := fun q => hbig q.2; obtain ⟨NA, hNA⟩ : ∃ x, x = t.all.length := ⟨_, rfl⟩; have HNA := hid hNA; have KA := hid (sAll SQ FL a0 NF c0 (enA t.fr) a NR cap R (by have := NRB.out; omega) (by have := TK.out.cnt; have := AL.out; have := HCNT.out; omega) HZ0.out HNIL.out WB (HE.out.below BWB.out) (HNN.out.below BWB.out)); rw [HALL.out] at KA; have STF : Hid (FulP t → Stp t ⟨1, ky, tx, oq, til, lm⟩ t ⟨7, ⟨#[]⟩, []⟩) := fun q => .full (by first | exact .inl rfl | exact .inr rfl) KOK.out BIG.out q; have STU : Hid (¬ FulP t → ∀ B, SrtOf (t.fr ++ [newE t ⟨1, ky, tx, oq, til, lm⟩]) B → Stp t ⟨1, ky, tx, oq, til, lm⟩ ⟨t.sq + 1, t.fl, B, t.rs⟩ ⟨0, ⟨#[]⟩, []⟩) := fun q B hB => .put B (by first | exact .inl rfl | exact .inr rfl) KOK.out BIG.out q hB; have NAB : NA ≤ 1000 := by have := TK.out.cnt; omega
               clear hNA
               go_wp2_with fail
               refine KA.out.mono ?_
               rintro e wq ⟨⟨vq, rfl, hOq⟩, hbq⟩
               obtain ⟨aq, cq, hvq⟩ := hOq.slice; rw [← HNA.out] at hvq; subst hvq; have BQ := hid (BWB.out.trans (hbq.mono BWB.out.size)); have OBq := hid (OB.out.below hbq OB.out.lt); have UBq := hid (UB.out.below hbq UB.out.lt); have RQ := hid (RWB.out.below hbq); clear hOq hbq KA p0 p1 p2 p3 p4 p5 b0 b1 b2 b3 OB UB RWB BWB; have OB := hid OBq.out; have UB := hid UBq.out; have RWB := hid RQ.out; have BWB := hid BQ.out; clear OBq UBq RQ BQ; obtain ⟨WB, hWBq⟩ : ∃ W, W = wq := ⟨_, rfl⟩; rw [← hWBq] at OB UB RWB BWB ⊢; clear hWBq; have p0 := OB.out.cell 0; have p1 := OB.out.cell 1; have p2 := OB.out.cell 2; have p3 := OB.out.cell 3; have p4 := OB.out.cell 4; have p5 := OB.out.cell 5; have b0 := RWB.out.tb.cell 0; have b1 := RWB.out.tb.cell 1; have b2 := RWB.out.tb.cell 2; have b3 := RWB.out.tb.cell 3; rw [← HSQ.out] at b0; rw [← HFL.out] at b1
               by_cases hfu : NA = 1000
               · have m1 : ((NA : Int) == 1000) = true := by simp; omega
                 have FU : Hid (FulP t) := .inl (by rw [← HNA.out]; exact hfu)
                 as_aux_lemma =>
                  have ST0 := hid (STF.out FU.out); obtain ⟨WZ, hWZ⟩ : ∃ W, W = WB.setCell ⟨ub, 0, none⟩ (.int .i64 7) := ⟨_, rfl⟩; have bZ : Below wr.heap.size wr WZ := by rw [hWZ]; exact BWB.out.setCell (by show wr.heap.size ≤ ub; have := UBG.out; omega) _
                  have UZ : Hid (RA WZ ub 41 #[.int .i64 7, .string ⟨#[]⟩, .slice none 0 0]) := by rw [hWZ]; exact UB.out.set 0 _
                  have RT := hid (RI.out.below bZ); have VE : Hid (OwnEn WZ base (.slice none 0 0) []) := OwnEn.nil _ _; have AP : Hid (∀ g, (Value.slice none 0 0).ownBlock = some g → (Value.slice a0 NF c0).ownBlock ≠ some g) := fun g e => by cases e
                  have OC : Hid ((Value.slice none 0 0).oneCell' = true) := rfl; have u0 := UB.out.cell 0; have uf := UB.out.free 0; clear bZ RI
                  go_upto_region 56 with fail
                  rw [← hWZ]; clear hWZ u0 uf p0 p1 p2 p3 p4 p5 UB OB b0 b1 b2 b3; have q4 := RT.out.rr.cell 4; have z0 := UZ.out.cell 0; have z1 := UZ.out.cell 1; have z2 := UZ.out.cell 2
                  go_wp2_with (at_builtin; refine lockH ?_)
                  refine hid ?_; refine append_out base _ rfl (.tmp 236) (.tmp 238) rfl vO O (⟨7, ⟨#[]⟩, []⟩, .slice none 0 0) rfl RT.out.ou RT.out.sz rfl OC.out (by have := OL.out; omega) ?_; intro v9 w9 hO9 hg9; obtain ⟨a9, k9, hv9⟩ := or_slice hO9; obtain ⟨N9, hN9⟩ : ∃ N, N = (O ++ [((⟨7, ⟨#[]⟩, []⟩ : Ot), (.slice none 0 0 : Value))]).length := ⟨_, rfl⟩; rw [← hN9] at hv9; subst hv9; clear hN9; have RN := hid (RT.out.out hg9 VE.out AP.out hO9); have r9 := RT.out.rr1 hg9; have c9 := r9.cell 4; have f9 := r9.free 4; have ST := hid (ST0.out); clear hO9 hg9 r9 RT UZ VE AP q4 z0 z1 z2
                  go_wp2
                  go_roundw
                  case rel => exact ⟨i + 1, t, (Value.slice a0 NF c0), (Value.slice a NR cap), Q, .slice a9 N9 k9, O ++ [(⟨7, ⟨#[]⟩, []⟩, .slice none 0 0)], by omega, by go_num, by rw [List.map_append]; exact RUN.out.next (by rw [← HOP.out]; exact ST.out), RN.out⟩
                  case measure => simp [intOf]; omega
               · have m1 : ((NA : Int) == 1000) = false := by simp; omega
                 by_cases hsq : SQ = 4611686018427387904
                 · have m2 : (SQ == 4611686018427387904) = true := by simp; omega
                   have FU : Hid (FulP t) := .inr (by rw [← HSQ.out]; exact hsq); clear hsq
                   as_aux_lemma =>
                    have ST0 := hid (STF.out FU.out); obtain ⟨WZ, hWZ⟩ : ∃ W, W = WB.setCell ⟨ub, 0, none⟩ (.int .i64 7) := ⟨_, rfl⟩; have bZ : Below wr.heap.size wr WZ := by rw [hWZ]; exact BWB.out.setCell (by show wr.heap.size ≤ ub; have := UBG.out; omega) _
                    have UZ : Hid (RA WZ ub 41 #[.int .i64 7, .string ⟨#[]⟩, .slice none 0 0]) := by rw [hWZ]; exact UB.out.set 0 _
                    have RT := hid (RI.out.below bZ); have VE : Hid (OwnEn WZ base (.slice none 0 0) []) := OwnEn.nil _ _; have AP : Hid (∀ g, (Value.slice none 0 0).ownBlock = some g → (Value.slice a0 NF c0).ownBlock ≠ some g) := fun g e => by cases e
                    have OC : Hid ((Value.slice none 0 0).oneCell' = true) := rfl; have u0 := UB.out.cell 0; have uf := UB.out.free 0; clear bZ RI
                    go_upto_region 56 with fail
                    rw [← hWZ]; clear hWZ u0 uf p0 p1 p2 p3 p4 p5 UB OB b0 b1 b2 b3; have q4 := RT.out.rr.cell 4; have z0 := UZ.out.cell 0; have z1 := UZ.out.cell 1; have z2 := UZ.out.cell 2
                    go_wp2_with (at_builtin; refine lockH ?_)
                    refine hid ?_; refine append_out base _ rfl (.tmp 236) (.tmp 238) rfl vO O (⟨7, ⟨#[]⟩, []⟩, .slice none 0 0) rfl RT.out.ou RT.out.sz rfl OC.out (by have := OL.out; omega) ?_; intro v9 w9 hO9 hg9; obtain ⟨a9, k9, hv9⟩ := or_slice hO9; obtain ⟨N9, hN9⟩ : ∃ N, N = (O ++ [((⟨7, ⟨#[]⟩, []⟩ : Ot), (.slice none 0 0 : Value))]).length := ⟨_, rfl⟩; rw [← hN9] at hv9; subst hv9; clear hN9; have RN := hid (RT.out.out hg9 VE.out AP.out hO9); have r9 := RT.out.rr1 hg9; have c9 := r9.cell 4; have f9 := r9.free 4; have ST := hid (ST0.out); clear hO9 hg9 r9 RT UZ VE AP q4 z0 z1 z2
                    go_wp2
                    go_roundw
                    case rel => exact ⟨i + 1, t, (Value.slice a0 NF c0), (Value.slice a NR cap), Q, .slice a9 N9 k9, O ++ [(⟨7, ⟨#[]⟩, []⟩, .slice none 0 0)], by omega, by go_num, by rw [List.map_append]; exact RUN.out.next (by rw [← HOP.out]; exact ST.out), RN.out⟩
                    case measure => simp [intOf]; omega
                 · have m2 : (SQ == 4611686018427387904) = false := by simp; omega
                   have q2 : SQ < 4611686018427387904 := by omega
                   have FULL : Hid (¬ FulP t) := fun q => q.elim (fun z => hfu (by rw [HNA.out]; exact z)) (fun z => hsq (by rw [HSQ.out]; exact z))
                   as_aux_lemma =>
                    obtain ⟨B, hB⟩ := srt_ex (t.fr ++ [(⟨ky, SQ + 1, false, tx⟩ : En)]); obtain ⟨S, hS, hBS⟩ := hB; have HBS : Hid (SrtOf (t.fr ++ [newE t ⟨1, ky, tx, oq, til, lm⟩]) B) := ⟨S, by rw [show newE t ⟨1, ky, tx, oq, til, lm⟩ = ⟨ky, SQ + 1, false, tx⟩ by unfold newE; rw [← HSQ.out]; rfl]; exact hS, hBS⟩; have ST0 : Hid (Stp t ⟨1, ky, tx, oq, til, lm⟩ ⟨SQ + 1, t.fl, B, t.rs⟩ ⟨0, ⟨#[]⟩, []⟩) := by have q := STU.out FULL.out B HBS.out; rw [← HSQ.out] at q; exact q
                    obtain ⟨WC, hWC⟩ : ∃ W, W = WB.setCell ⟨b, 0, none⟩ (.int .i64 (SQ + 1)) := ⟨_, rfl⟩; have bf := RWB.out.tb.free 0; have RC : Hid (RtI w WC X b rb base ⟨SQ + 1, t.fl, t.fr, t.rs⟩ (Value.slice a0 NF c0) (Value.slice a NR cap) Q vO O) := by rw [hWC]; exact RWB.out.num ⟨SQ + 1, t.fl, t.fr, t.rs⟩ rfl rfl 0 _ rfl
                    have OBC : Hid (RA WC wr.heap.size 39 #[.int .i64 1, .string ky, .string tx, .int .i64 oq, .string til, .int .i64 lm]) := by rw [hWC]; exact OB.out.other _ _ (row_ne OB.out RWB.out.tb (by decide))
                    have UBC : Hid (RA WC ub 41 #[.int .i64 0, .string ⟨#[]⟩, .slice none 0 0]) := by rw [hWC]; exact UB.out.other _ _ (row_ne UB.out RWB.out.tb (by decide))
                    have HWC := hid hWC; clear hWC
                    go_upto_region 20 with fail
                    rw [← HWC.out]; clear HWC bf b0 b1 b2 b3 p0 p1 p2 p3 p4 p5; have p0 := OBC.out.cell 0; have p1 := OBC.out.cell 1; have p2 := OBC.out.cell 2; have b0 := RC.out.tb.cell 0; have b2 := RC.out.tb.cell 2; obtain ⟨WD, hWD⟩ : ∃ W, W = WC.alloc (.cells #[.string ky, .int .i64 (SQ + 1), .bool false, .string tx] 46) := ⟨_, rfl⟩; have bD : Below WC.heap.size WC WD := by rw [hWD]; exact (Below.refl _ _).alloc (Nat.le_refl _) _
                    have ED : Hid (RA WD WC.heap.size 46 #[.string ky, .int .i64 (SQ + 1), .bool false, .string tx]) := by rw [hWD]; exact RA.new _ _ _
                    have HWD := hid hWD; clear hWD
                    go_upto_region 21 with ((refine wpList_store_row rfl 46 (.tmp 11) (.tmp 87) rfl WC.heap.size #[.string ky, .int .i64 (SQ + 1), .bool false, .string tx] rfl rfl _ _ (RA.new WC _ _) (by kernel_rfl) rfl (oneEn4 _ _ _ _) ?_); rw [World.setRow_alloc_new])
                    rw [← HWD.out]; clear HWD p0 p1 p2 b0 b2; have g2 := ED.out.cell 2; obtain ⟨WE, hWE⟩ : ∃ W, W = WD := ⟨_, rfl⟩; have bE : Below WC.heap.size WC WE := by rw [hWE]; exact bD
                    have EE : Hid (RA WE WC.heap.size 46 #[.string ky, .int .i64 (SQ + 1), .bool false, .string tx]) := by rw [hWE]; exact ED.out
                    go_upto_region 23 with fail
                    rw [← hWE]; clear hWE g2; have RE8 := hid (RC.out.below bE); have UBE := hid (UBC.out.below bE UBC.out.lt); have g0 := EE.out.cell 0; have g1 := EE.out.cell 1; have g2 := EE.out.cell 2; have g3 := EE.out.cell 3; have b2 := RE8.out.tb.cell 2; clear bD bE ED OBC
                    go_wp2_with (at_builtin; refine lockH ?_)
                    refine hid ?_; refine append_enS base _ rfl (.tmp 93) (.tmp 95) rfl _ t.fr ⟨ky, SQ + 1, false, tx⟩ NF HNF.out.symm rfl RE8.out.fr RE8.out.sz rfl (by have := NFB.out; omega) ?_; intro g c w7 hO7 hgq hg7; have eL : (t.fr ++ [(⟨ky, SQ + 1, false, tx⟩ : En)]).length = NF + 1 := by rw [List.length_append, ← HNF.out]; rfl
                    have KS := hid (sSort (some ⟨g, 0, none⟩) (NF + 1) c (enA (t.fr ++ [(⟨ky, SQ + 1, false, tx⟩ : En)])) (by have := NFB.out; omega) S (by rw [← eL]; exact hS) w7 hO7.ens.2); have UB7 := hid (RE8.out.fb1 hg7 UBE.out (by decide)); have TB7 := hid (RE8.out.fb1 hg7 RE8.out.tb (by decide)); have HG7 := hid hg7; clear hO7 hgq hg7 g0 g1 g2 g3 b2 UBE EE
                    go_wp2_with fail
                    refine KS.out.mono ?_
                    rintro e w8 ⟨⟨v8, rfl, hO8⟩, hb8⟩
                    rw [← hBS] at hO8; obtain ⟨a8, c8, hv8⟩ := hO8.slice; obtain ⟨N8, hN8⟩ : ∃ N, N = B.length := ⟨_, rfl⟩; rw [← hN8] at hv8; subst hv8; obtain ⟨WZ, hWZ⟩ : ∃ W, W = w8.setCell ⟨b, 2, none⟩ (.slice a8 N8 c8) := ⟨_, rfl⟩; have RT : Hid (RtI w WZ X b rb base ⟨SQ + 1, t.fl, B, t.rs⟩ (.slice a8 N8 c8) (Value.slice a NR cap) Q vO O) := by rw [hWZ]; exact RE8.out.fresh HG7.out hb8 hO8
                    have tb8 := TB7.out.below hb8 TB7.out.lt; have UZ : Hid (RA WZ ub 41 #[.int .i64 0, .string ⟨#[]⟩, .slice none 0 0]) := by rw [hWZ]; exact (UB7.out.below hb8 UB7.out.lt).other _ _ (row_ne (UB7.out.below hb8 UB7.out.lt) tb8 (by decide))
                    have c2 := tb8.cell 2; have f2 := tb8.free 2; have VE : Hid (OwnEn WZ base (.slice none 0 0) []) := OwnEn.nil _ _; have HWZ := hid hWZ; clear hWZ; have AP : Hid (∀ g, (Value.slice none 0 0).ownBlock = some g → (Value.slice a8 N8 c8).ownBlock ≠ some g) := fun g e => by cases e
                    have OC : Hid ((Value.slice none 0 0).oneCell' = true) := rfl; clear hO8 hb8 KS tb8 TB7 UB7 HG7 RE8 RC UBC hS hBS hN8 RI RWB UB OB
                    go_upto_region 56 with fail
                    rw [← HWZ.out]; clear HWZ; clear c2 f2; have q4 := RT.out.rr.cell 4; have z0 := UZ.out.cell 0; have z1 := UZ.out.cell 1; have z2 := UZ.out.cell 2
                    go_wp2_with (at_builtin; refine lockH ?_)
                    refine hid ?_; refine append_out base _ rfl (.tmp 236) (.tmp 238) rfl vO O (⟨0, ⟨#[]⟩, []⟩, .slice none 0 0) rfl RT.out.ou RT.out.sz rfl OC.out (by have := OL.out; omega) ?_; intro v9 w9 hO9 hg9; obtain ⟨a9, k9, hv9⟩ := or_slice hO9; obtain ⟨N9, hN9⟩ : ∃ N, N = (O ++ [((⟨0, ⟨#[]⟩, []⟩ : Ot), (.slice none 0 0 : Value))]).length := ⟨_, rfl⟩; rw [← hN9] at hv9; subst hv9; clear hN9; have RN := hid (RT.out.out hg9 VE.out AP.out hO9); have r9 := RT.out.rr1 hg9; have c9 := r9.cell 4; have f9 := r9.free 4; have ST := hid (ST0.out); clear hO9 hg9 r9 RT UZ VE AP q4 z0 z1 z2
                    go_wp2
                    go_roundw
                    case rel => exact ⟨i + 1, ⟨SQ + 1, t.fl, B, t.rs⟩, (.slice a8 N8 c8), (Value.slice a NR cap), Q, .slice a9 N9 k9, O ++ [(⟨0, ⟨#[]⟩, []⟩, .slice none 0 0)], by omega, by go_num, by rw [List.map_append]; exact RUN.out.next (by rw [← HOP.out]; exact ST.out), RN.out⟩
                    case measure => simp [intOf]; omega
       by_cases hk2 : kd = 2
       · obtain rfl : kd = 2 := hk2
         by_cases hs1 : ky.size < 1
         · have e1 : (ky.size : Int) < 1 := by omega
           have e2 : decide ((ky.size : Int) < 1) = true := by simp; omega
           have KB : Hid (¬ (1 ≤ ky.size ∧ ky.size ≤ 200)) := fun q => by omega
           as_aux_lemma =>
            have ST0 : Hid (Stp t ⟨2, ky, tx, oq, til, lm⟩ t ⟨1, ⟨#[]⟩, []⟩) := .key (.inr rfl) KB.out; obtain ⟨WZ, hWZ⟩ : ∃ W, W = WB.setCell ⟨ub, 0, none⟩ (.int .i64 1) := ⟨_, rfl⟩; have bZ : Below wr.heap.size wr WZ := by rw [hWZ]; exact BWB.out.setCell (by show wr.heap.size ≤ ub; have := UBG.out; omega) _
            have UZ : Hid (RA WZ ub 41 #[.int .i64 1, .string ⟨#[]⟩, .slice none 0 0]) := by rw [hWZ]; exact UB.out.set 0 _
            have RT := hid (RI.out.below bZ); have VE : Hid (OwnEn WZ base (.slice none 0 0) []) := OwnEn.nil _ _; have AP : Hid (∀ g, (Value.slice none 0 0).ownBlock = some g → (Value.slice a0 NF c0).ownBlock ≠ some g) := fun g e => by cases e
            have OC : Hid ((Value.slice none 0 0).oneCell' = true) := rfl; have u0 := UB.out.cell 0; have uf := UB.out.free 0; clear bZ RI
            go_upto_region 56 with fail
            rw [← hWZ]; clear hWZ u0 uf p0 p1 p2 p3 p4 p5 UB OB b0 b1 b2 b3; have q4 := RT.out.rr.cell 4; have z0 := UZ.out.cell 0; have z1 := UZ.out.cell 1; have z2 := UZ.out.cell 2
            go_wp2_with (at_builtin; refine lockH ?_)
            refine hid ?_; refine append_out base _ rfl (.tmp 236) (.tmp 238) rfl vO O (⟨1, ⟨#[]⟩, []⟩, .slice none 0 0) rfl RT.out.ou RT.out.sz rfl OC.out (by have := OL.out; omega) ?_; intro v9 w9 hO9 hg9; obtain ⟨a9, k9, hv9⟩ := or_slice hO9; obtain ⟨N9, hN9⟩ : ∃ N, N = (O ++ [((⟨1, ⟨#[]⟩, []⟩ : Ot), (.slice none 0 0 : Value))]).length := ⟨_, rfl⟩; rw [← hN9] at hv9; subst hv9; clear hN9; have RN := hid (RT.out.out hg9 VE.out AP.out hO9); have r9 := RT.out.rr1 hg9; have c9 := r9.cell 4; have f9 := r9.free 4; have ST := hid (ST0.out); clear hO9 hg9 r9 RT UZ VE AP q4 z0 z1 z2
            go_wp2
            go_roundw
            case rel => exact ⟨i + 1, t, (Value.slice a0 NF c0), (Value.slice a NR cap), Q, .slice a9 N9 k9, O ++ [(⟨1, ⟨#[]⟩, []⟩, .slice none 0 0)], by omega, by go_num, by rw [List.map_append]; exact RUN.out.next (by rw [← HOP.out]; exact ST.out), RN.out⟩
            case measure => simp [intOf]; omega
         · have e1 : ¬ (ky.size : Int) < 1 := by omega
           have e2 : decide ((ky.size : Int) < 1) = false := by simp; omega
           by_cases hs2 : 200 < ky.size
           · have e3 : (200 : Int) < (ky.size : Int) := by omega
             have e4 : decide ((200 : Int) < (ky.size : Int)) = true := by simp; omega
             have KB : Hid (¬ (1 ≤ ky.size ∧ ky.size ≤ 200)) := fun q => by omega
             as_aux_lemma =>
              have ST0 : Hid (Stp t ⟨2, ky, tx, oq, til, lm⟩ t ⟨1, ⟨#[]⟩, []⟩) := .key (.inr rfl) KB.out; obtain ⟨WZ, hWZ⟩ : ∃ W, W = WB.setCell ⟨ub, 0, none⟩ (.int .i64 1) := ⟨_, rfl⟩; have bZ : Below wr.heap.size wr WZ := by rw [hWZ]; exact BWB.out.setCell (by show wr.heap.size ≤ ub; have := UBG.out; omega) _
              have UZ : Hid (RA WZ ub 41 #[.int .i64 1, .string ⟨#[]⟩, .slice none 0 0]) := by rw [hWZ]; exact UB.out.set 0 _
              have RT := hid (RI.out.below bZ); have VE : Hid (OwnEn WZ base (.slice none 0 0) []) := OwnEn.nil _ _; have AP : Hid (∀ g, (Value.slice none 0 0).ownBlock = some g → (Value.slice a0 NF c0).ownBlock ≠ some g) := fun g e => by cases e
              have OC : Hid ((Value.slice none 0 0).oneCell' = true) := rfl; have u0 := UB.out.cell 0; have uf := UB.out.free 0; clear bZ RI
              go_upto_region 56 with fail
              rw [← hWZ]; clear hWZ u0 uf p0 p1 p2 p3 p4 p5 UB OB b0 b1 b2 b3; have q4 := RT.out.rr.cell 4; have z0 := UZ.out.cell 0; have z1 := UZ.out.cell 1; have z2 := UZ.out.cell 2
              go_wp2_with (at_builtin; refine lockH ?_)
              refine hid ?_; refine append_out base _ rfl (.tmp 236) (.tmp 238) rfl vO O (⟨1, ⟨#[]⟩, []⟩, .slice none 0 0) rfl RT.out.ou RT.out.sz rfl OC.out (by have := OL.out; omega) ?_; intro v9 w9 hO9 hg9; obtain ⟨a9, k9, hv9⟩ := or_slice hO9; obtain ⟨N9, hN9⟩ : ∃ N, N = (O ++ [((⟨1, ⟨#[]⟩, []⟩ : Ot), (.slice none 0 0 : Value))]).length := ⟨_, rfl⟩; rw [← hN9] at hv9; subst hv9; clear hN9; have RN := hid (RT.out.out hg9 VE.out AP.out hO9); have r9 := RT.out.rr1 hg9; have c9 := r9.cell 4; have f9 := r9.free 4; have ST := hid (ST0.out); clear hO9 hg9 r9 RT UZ VE AP q4 z0 z1 z2
              go_wp2
              go_roundw
              case rel => exact ⟨i + 1, t, (Value.slice a0 NF c0), (Value.slice a NR cap), Q, .slice a9 N9 k9, O ++ [(⟨1, ⟨#[]⟩, []⟩, .slice none 0 0)], by omega, by go_num, by rw [List.map_append]; exact RUN.out.next (by rw [← HOP.out]; exact ST.out), RN.out⟩
              case measure => simp [intOf]; omega
           · have e3 : ¬ (200 : Int) < (ky.size : Int) := by omega
             have e4 : decide ((200 : Int) < (ky.size : Int)) = false := by simp; omega
             have g1 : True := trivial; have g2 : True := trivial; have KOK : Hid (1 ≤ ky.size ∧ ky.size ≤ 200) := ⟨by omega, by omega⟩; have BIG : Hid (¬ ((2 : Int) = 1 ∧ 100000 < tx.size)) := fun q => absurd q.1 (by decide); obtain ⟨NA, hNA⟩ : ∃ x, x = t.all.length := ⟨_, rfl⟩; have HNA := hid hNA; have KA := hid (sAll SQ FL a0 NF c0 (enA t.fr) a NR cap R (by have := NRB.out; omega) (by have := TK.out.cnt; have := AL.out; have := HCNT.out; omega) HZ0.out HNIL.out WB (HE.out.below BWB.out) (HNN.out.below BWB.out)); rw [HALL.out] at KA; have STF : Hid (FulP t → Stp t ⟨2, ky, tx, oq, til, lm⟩ t ⟨7, ⟨#[]⟩, []⟩) := fun q => .full (by first | exact .inl rfl | exact .inr rfl) KOK.out BIG.out q; have STU : Hid (¬ FulP t → ∀ B, SrtOf (t.fr ++ [newE t ⟨2, ky, tx, oq, til, lm⟩]) B → Stp t ⟨2, ky, tx, oq, til, lm⟩ ⟨t.sq + 1, t.fl, B, t.rs⟩ ⟨0, ⟨#[]⟩, []⟩) := fun q B hB => .put B (by first | exact .inl rfl | exact .inr rfl) KOK.out BIG.out q hB; have NAB : NA ≤ 1000 := by have := TK.out.cnt; omega
             clear hNA
             go_wp2_with fail
             refine KA.out.mono ?_
             rintro e wq ⟨⟨vq, rfl, hOq⟩, hbq⟩
             obtain ⟨aq, cq, hvq⟩ := hOq.slice; rw [← HNA.out] at hvq; subst hvq; have BQ := hid (BWB.out.trans (hbq.mono BWB.out.size)); have OBq := hid (OB.out.below hbq OB.out.lt); have UBq := hid (UB.out.below hbq UB.out.lt); have RQ := hid (RWB.out.below hbq); clear hOq hbq KA p0 p1 p2 p3 p4 p5 b0 b1 b2 b3 OB UB RWB BWB; have OB := hid OBq.out; have UB := hid UBq.out; have RWB := hid RQ.out; have BWB := hid BQ.out; clear OBq UBq RQ BQ; obtain ⟨WB, hWBq⟩ : ∃ W, W = wq := ⟨_, rfl⟩; rw [← hWBq] at OB UB RWB BWB ⊢; clear hWBq; have p0 := OB.out.cell 0; have p1 := OB.out.cell 1; have p2 := OB.out.cell 2; have p3 := OB.out.cell 3; have p4 := OB.out.cell 4; have p5 := OB.out.cell 5; have b0 := RWB.out.tb.cell 0; have b1 := RWB.out.tb.cell 1; have b2 := RWB.out.tb.cell 2; have b3 := RWB.out.tb.cell 3; rw [← HSQ.out] at b0; rw [← HFL.out] at b1
             by_cases hfu : NA = 1000
             · have m1 : ((NA : Int) == 1000) = true := by simp; omega
               have FU : Hid (FulP t) := .inl (by rw [← HNA.out]; exact hfu)
               as_aux_lemma =>
                have ST0 := hid (STF.out FU.out); obtain ⟨WZ, hWZ⟩ : ∃ W, W = WB.setCell ⟨ub, 0, none⟩ (.int .i64 7) := ⟨_, rfl⟩; have bZ : Below wr.heap.size wr WZ := by rw [hWZ]; exact BWB.out.setCell (by show wr.heap.size ≤ ub; have := UBG.out; omega) _
                have UZ : Hid (RA WZ ub 41 #[.int .i64 7, .string ⟨#[]⟩, .slice none 0 0]) := by rw [hWZ]; exact UB.out.set 0 _
                have RT := hid (RI.out.below bZ); have VE : Hid (OwnEn WZ base (.slice none 0 0) []) := OwnEn.nil _ _; have AP : Hid (∀ g, (Value.slice none 0 0).ownBlock = some g → (Value.slice a0 NF c0).ownBlock ≠ some g) := fun g e => by cases e
                have OC : Hid ((Value.slice none 0 0).oneCell' = true) := rfl; have u0 := UB.out.cell 0; have uf := UB.out.free 0; clear bZ RI
                go_upto_region 56 with fail
                rw [← hWZ]; clear hWZ u0 uf p0 p1 p2 p3 p4 p5 UB OB b0 b1 b2 b3; have q4 := RT.out.rr.cell 4; have z0 := UZ.out.cell 0; have z1 := UZ.out.cell 1; have z2 := UZ.out.cell 2
                go_wp2_with (at_builtin; refine lockH ?_)
                refine hid ?_; refine append_out base _ rfl (.tmp 236) (.tmp 238) rfl vO O (⟨7, ⟨#[]⟩, []⟩, .slice none 0 0) rfl RT.out.ou RT.out.sz rfl OC.out (by have := OL.out; omega) ?_; intro v9 w9 hO9 hg9; obtain ⟨a9, k9, hv9⟩ := or_slice hO9; obtain ⟨N9, hN9⟩ : ∃ N, N = (O ++ [((⟨7, ⟨#[]⟩, []⟩ : Ot), (.slice none 0 0 : Value))]).length := ⟨_, rfl⟩; rw [← hN9] at hv9; subst hv9; clear hN9; have RN := hid (RT.out.out hg9 VE.out AP.out hO9); have r9 := RT.out.rr1 hg9; have c9 := r9.cell 4; have f9 := r9.free 4; have ST := hid (ST0.out); clear hO9 hg9 r9 RT UZ VE AP q4 z0 z1 z2
                go_wp2
                go_roundw
                case rel => exact ⟨i + 1, t, (Value.slice a0 NF c0), (Value.slice a NR cap), Q, .slice a9 N9 k9, O ++ [(⟨7, ⟨#[]⟩, []⟩, .slice none 0 0)], by omega, by go_num, by rw [List.map_append]; exact RUN.out.next (by rw [← HOP.out]; exact ST.out), RN.out⟩
                case measure => simp [intOf]; omega
             · have m1 : ((NA : Int) == 1000) = false := by simp; omega
               by_cases hsq : SQ = 4611686018427387904
               · have m2 : (SQ == 4611686018427387904) = true := by simp; omega
                 have FU : Hid (FulP t) := .inr (by rw [← HSQ.out]; exact hsq); clear hsq
                 as_aux_lemma =>
                  have ST0 := hid (STF.out FU.out); obtain ⟨WZ, hWZ⟩ : ∃ W, W = WB.setCell ⟨ub, 0, none⟩ (.int .i64 7) := ⟨_, rfl⟩; have bZ : Below wr.heap.size wr WZ := by rw [hWZ]; exact BWB.out.setCell (by show wr.heap.size ≤ ub; have := UBG.out; omega) _
                  have UZ : Hid (RA WZ ub 41 #[.int .i64 7, .string ⟨#[]⟩, .slice none 0 0]) := by rw [hWZ]; exact UB.out.set 0 _
                  have RT := hid (RI.out.below bZ); have VE : Hid (OwnEn WZ base (.slice none 0 0) []) := OwnEn.nil _ _; have AP : Hid (∀ g, (Value.slice none 0 0).ownBlock = some g → (Value.slice a0 NF c0).ownBlock ≠ some g) := fun g e => by cases e
                  have OC : Hid ((Value.slice none 0 0).oneCell' = true) := rfl; have u0 := UB.out.cell 0; have uf := UB.out.free 0; clear bZ RI
                  go_upto_region 56 with fail
                  rw [← hWZ]; clear hWZ u0 uf p0 p1 p2 p3 p4 p5 UB OB b0 b1 b2 b3; have q4 := RT.out.rr.cell 4; have z0 := UZ.out.cell 0; have z1 := UZ.out.cell 1; have z2 := UZ.out.cell 2
                  go_wp2_with (at_builtin; refine lockH ?_)
                  refine hid ?_; refine append_out base _ rfl (.tmp 236) (.tmp 238) rfl vO O (⟨7, ⟨#[]⟩, []⟩, .slice none 0 0) rfl RT.out.ou RT.out.sz rfl OC.out (by have := OL.out; omega) ?_; intro v9 w9 hO9 hg9; obtain ⟨a9, k9, hv9⟩ := or_slice hO9; obtain ⟨N9, hN9⟩ : ∃ N, N = (O ++ [((⟨7, ⟨#[]⟩, []⟩ : Ot), (.slice none 0 0 : Value))]).length := ⟨_, rfl⟩; rw [← hN9] at hv9; subst hv9; clear hN9; have RN := hid (RT.out.out hg9 VE.out AP.out hO9); have r9 := RT.out.rr1 hg9; have c9 := r9.cell 4; have f9 := r9.free 4; have ST := hid (ST0.out); clear hO9 hg9 r9 RT UZ VE AP q4 z0 z1 z2
                  go_wp2
                  go_roundw
                  case rel => exact ⟨i + 1, t, (Value.slice a0 NF c0), (Value.slice a NR cap), Q, .slice a9 N9 k9, O ++ [(⟨7, ⟨#[]⟩, []⟩, .slice none 0 0)], by omega, by go_num, by rw [List.map_append]; exact RUN.out.next (by rw [← HOP.out]; exact ST.out), RN.out⟩
                  case measure => simp [intOf]; omega
               · have m2 : (SQ == 4611686018427387904) = false := by simp; omega
                 have q2 : SQ < 4611686018427387904 := by omega
                 have FULL : Hid (¬ FulP t) := fun q => q.elim (fun z => hfu (by rw [HNA.out]; exact z)) (fun z => hsq (by rw [HSQ.out]; exact z))
                 as_aux_lemma =>
                  obtain ⟨B, hB⟩ := srt_ex (t.fr ++ [(⟨ky, SQ + 1, true, ⟨#[]⟩⟩ : En)]); obtain ⟨S, hS, hBS⟩ := hB; have HBS : Hid (SrtOf (t.fr ++ [newE t ⟨2, ky, tx, oq, til, lm⟩]) B) := ⟨S, by rw [show newE t ⟨2, ky, tx, oq, til, lm⟩ = ⟨ky, SQ + 1, true, ⟨#[]⟩⟩ by unfold newE; rw [← HSQ.out]; rfl]; exact hS, hBS⟩; have ST0 : Hid (Stp t ⟨2, ky, tx, oq, til, lm⟩ ⟨SQ + 1, t.fl, B, t.rs⟩ ⟨0, ⟨#[]⟩, []⟩) := by have q := STU.out FULL.out B HBS.out; rw [← HSQ.out] at q; exact q
                  obtain ⟨WC, hWC⟩ : ∃ W, W = WB.setCell ⟨b, 0, none⟩ (.int .i64 (SQ + 1)) := ⟨_, rfl⟩; have bf := RWB.out.tb.free 0; have RC : Hid (RtI w WC X b rb base ⟨SQ + 1, t.fl, t.fr, t.rs⟩ (Value.slice a0 NF c0) (Value.slice a NR cap) Q vO O) := by rw [hWC]; exact RWB.out.num ⟨SQ + 1, t.fl, t.fr, t.rs⟩ rfl rfl 0 _ rfl
                  have OBC : Hid (RA WC wr.heap.size 39 #[.int .i64 2, .string ky, .string tx, .int .i64 oq, .string til, .int .i64 lm]) := by rw [hWC]; exact OB.out.other _ _ (row_ne OB.out RWB.out.tb (by decide))
                  have UBC : Hid (RA WC ub 41 #[.int .i64 0, .string ⟨#[]⟩, .slice none 0 0]) := by rw [hWC]; exact UB.out.other _ _ (row_ne UB.out RWB.out.tb (by decide))
                  have HWC := hid hWC; clear hWC
                  go_upto_region 20 with fail
                  rw [← HWC.out]; clear HWC bf b0 b1 b2 b3 p0 p1 p2 p3 p4 p5; have p0 := OBC.out.cell 0; have p1 := OBC.out.cell 1; have p2 := OBC.out.cell 2; have b0 := RC.out.tb.cell 0; have b2 := RC.out.tb.cell 2; obtain ⟨WD, hWD⟩ : ∃ W, W = WC.alloc (.cells #[.string ky, .int .i64 (SQ + 1), .bool true, .string tx] 46) := ⟨_, rfl⟩; have bD : Below WC.heap.size WC WD := by rw [hWD]; exact (Below.refl _ _).alloc (Nat.le_refl _) _
                  have ED : Hid (RA WD WC.heap.size 46 #[.string ky, .int .i64 (SQ + 1), .bool true, .string tx]) := by rw [hWD]; exact RA.new _ _ _
                  have HWD := hid hWD; clear hWD
                  go_upto_region 21 with ((refine wpList_store_row rfl 46 (.tmp 11) (.tmp 87) rfl WC.heap.size #[.string ky, .int .i64 (SQ + 1), .bool true, .string tx] rfl rfl _ _ (RA.new WC _ _) (by kernel_rfl) rfl (oneEn4 _ _ _ _) ?_); rw [World.setRow_alloc_new])
                  rw [← HWD.out]; clear HWD p0 p1 p2 b0 b2; have g2 := ED.out.cell 2; have g3 := ED.out.cell 3; have gf := ED.out.free 3; obtain ⟨WE, hWE⟩ : ∃ W, W = WD.setCell ⟨WC.heap.size, 3, none⟩ (.string ⟨#[]⟩) := ⟨_, rfl⟩; have bE : Below WC.heap.size WC WE := by rw [hWE]; exact bD.setCell (Nat.le_refl _) _
                  have EE : Hid (RA WE WC.heap.size 46 #[.string ky, .int .i64 (SQ + 1), .bool true, .string ⟨#[]⟩]) := by rw [hWE]; exact ED.out.set 3 _
                  go_upto_region 23 with fail
                  rw [← hWE]; clear hWE g2 g3 gf; have RE8 := hid (RC.out.below bE); have UBE := hid (UBC.out.below bE UBC.out.lt); have g0 := EE.out.cell 0; have g1 := EE.out.cell 1; have g2 := EE.out.cell 2; have g3 := EE.out.cell 3; have b2 := RE8.out.tb.cell 2; clear bD bE ED OBC
                  go_wp2_with (at_builtin; refine lockH ?_)
                  refine hid ?_; refine append_enS base _ rfl (.tmp 93) (.tmp 95) rfl _ t.fr ⟨ky, SQ + 1, true, ⟨#[]⟩⟩ NF HNF.out.symm rfl RE8.out.fr RE8.out.sz rfl (by have := NFB.out; omega) ?_; intro g c w7 hO7 hgq hg7; have eL : (t.fr ++ [(⟨ky, SQ + 1, true, ⟨#[]⟩⟩ : En)]).length = NF + 1 := by rw [List.length_append, ← HNF.out]; rfl
                  have KS := hid (sSort (some ⟨g, 0, none⟩) (NF + 1) c (enA (t.fr ++ [(⟨ky, SQ + 1, true, ⟨#[]⟩⟩ : En)])) (by have := NFB.out; omega) S (by rw [← eL]; exact hS) w7 hO7.ens.2); have UB7 := hid (RE8.out.fb1 hg7 UBE.out (by decide)); have TB7 := hid (RE8.out.fb1 hg7 RE8.out.tb (by decide)); have HG7 := hid hg7; clear hO7 hgq hg7 g0 g1 g2 g3 b2 UBE EE
                  go_wp2_with fail
                  refine KS.out.mono ?_
                  rintro e w8 ⟨⟨v8, rfl, hO8⟩, hb8⟩
                  rw [← hBS] at hO8; obtain ⟨a8, c8, hv8⟩ := hO8.slice; obtain ⟨N8, hN8⟩ : ∃ N, N = B.length := ⟨_, rfl⟩; rw [← hN8] at hv8; subst hv8; obtain ⟨WZ, hWZ⟩ : ∃ W, W = w8.setCell ⟨b, 2, none⟩ (.slice a8 N8 c8) := ⟨_, rfl⟩; have RT : Hid (RtI w WZ X b rb base ⟨SQ + 1, t.fl, B, t.rs⟩ (.slice a8 N8 c8) (Value.slice a NR cap) Q vO O) := by rw [hWZ]; exact RE8.out.fresh HG7.out hb8 hO8
                  have tb8 := TB7.out.below hb8 TB7.out.lt; have UZ : Hid (RA WZ ub 41 #[.int .i64 0, .string ⟨#[]⟩, .slice none 0 0]) := by rw [hWZ]; exact (UB7.out.below hb8 UB7.out.lt).other _ _ (row_ne (UB7.out.below hb8 UB7.out.lt) tb8 (by decide))
                  have c2 := tb8.cell 2; have f2 := tb8.free 2; have VE : Hid (OwnEn WZ base (.slice none 0 0) []) := OwnEn.nil _ _; have HWZ := hid hWZ; clear hWZ; have AP : Hid (∀ g, (Value.slice none 0 0).ownBlock = some g → (Value.slice a8 N8 c8).ownBlock ≠ some g) := fun g e => by cases e
                  have OC : Hid ((Value.slice none 0 0).oneCell' = true) := rfl; clear hO8 hb8 KS tb8 TB7 UB7 HG7 RE8 RC UBC hS hBS hN8 RI RWB UB OB
                  go_upto_region 56 with fail
                  rw [← HWZ.out]; clear HWZ; clear c2 f2; have q4 := RT.out.rr.cell 4; have z0 := UZ.out.cell 0; have z1 := UZ.out.cell 1; have z2 := UZ.out.cell 2
                  go_wp2_with (at_builtin; refine lockH ?_)
                  refine hid ?_; refine append_out base _ rfl (.tmp 236) (.tmp 238) rfl vO O (⟨0, ⟨#[]⟩, []⟩, .slice none 0 0) rfl RT.out.ou RT.out.sz rfl OC.out (by have := OL.out; omega) ?_; intro v9 w9 hO9 hg9; obtain ⟨a9, k9, hv9⟩ := or_slice hO9; obtain ⟨N9, hN9⟩ : ∃ N, N = (O ++ [((⟨0, ⟨#[]⟩, []⟩ : Ot), (.slice none 0 0 : Value))]).length := ⟨_, rfl⟩; rw [← hN9] at hv9; subst hv9; clear hN9; have RN := hid (RT.out.out hg9 VE.out AP.out hO9); have r9 := RT.out.rr1 hg9; have c9 := r9.cell 4; have f9 := r9.free 4; have ST := hid (ST0.out); clear hO9 hg9 r9 RT UZ VE AP q4 z0 z1 z2
                  go_wp2
                  go_roundw
                  case rel => exact ⟨i + 1, ⟨SQ + 1, t.fl, B, t.rs⟩, (.slice a8 N8 c8), (Value.slice a NR cap), Q, .slice a9 N9 k9, O ++ [(⟨0, ⟨#[]⟩, []⟩, .slice none 0 0)], by omega, by go_num, by rw [List.map_append]; exact RUN.out.next (by rw [← HOP.out]; exact ST.out), RN.out⟩
                  case measure => simp [intOf]; omega
       by_cases hk3 : kd = 3
       · obtain rfl : kd = 3 := hk3
         by_cases hf0 : NF = 0
         · have e1 : ¬ (0 : Int) < (NF : Int) := by omega
           have e2 : decide ((0 : Int) < (NF : Int)) = false := by simp; omega
           have FN : Hid (t.fr = []) := List.eq_nil_of_length_eq_zero (by rw [← HNF.out]; exact hf0)
           as_aux_lemma =>
            have ST0 : Hid (Stp t ⟨3, ky, tx, oq, til, lm⟩ t ⟨0, ⟨#[]⟩, []⟩) := .flush0 rfl FN.out; obtain ⟨WZ, hWZ⟩ : ∃ W, W = WB := ⟨_, rfl⟩; have bZ : Below wr.heap.size wr WZ := by rw [hWZ]; exact BWB.out
            have UZ : Hid (RA WZ ub 41 #[.int .i64 0, .string ⟨#[]⟩, .slice none 0 0]) := by rw [hWZ]; exact UB.out
            have RT := hid (RI.out.below bZ); have VE : Hid (OwnEn WZ base (.slice none 0 0) []) := OwnEn.nil _ _; have AP : Hid (∀ g, (Value.slice none 0 0).ownBlock = some g → (Value.slice a0 NF c0).ownBlock ≠ some g) := fun g e => by cases e
            have OC : Hid ((Value.slice none 0 0).oneCell' = true) := rfl; have u0 := UB.out.cell 0; have uf := UB.out.free 0; clear bZ RI
            go_upto_region 56 with fail
            rw [← hWZ]; clear hWZ u0 uf p0 p1 p2 p3 p4 p5 UB OB b0 b1 b2 b3; have q4 := RT.out.rr.cell 4; have z0 := UZ.out.cell 0; have z1 := UZ.out.cell 1; have z2 := UZ.out.cell 2
            go_wp2_with (at_builtin; refine lockH ?_)
            refine hid ?_; refine append_out base _ rfl (.tmp 236) (.tmp 238) rfl vO O (⟨0, ⟨#[]⟩, []⟩, .slice none 0 0) rfl RT.out.ou RT.out.sz rfl OC.out (by have := OL.out; omega) ?_; intro v9 w9 hO9 hg9; obtain ⟨a9, k9, hv9⟩ := or_slice hO9; obtain ⟨N9, hN9⟩ : ∃ N, N = (O ++ [((⟨0, ⟨#[]⟩, []⟩ : Ot), (.slice none 0 0 : Value))]).length := ⟨_, rfl⟩; rw [← hN9] at hv9; subst hv9; clear hN9; have RN := hid (RT.out.out hg9 VE.out AP.out hO9); have r9 := RT.out.rr1 hg9; have c9 := r9.cell 4; have f9 := r9.free 4; have ST := hid (ST0.out); clear hO9 hg9 r9 RT UZ VE AP q4 z0 z1 z2
            go_wp2
            go_roundw
            case rel => exact ⟨i + 1, t, (Value.slice a0 NF c0), (Value.slice a NR cap), Q, .slice a9 N9 k9, O ++ [(⟨0, ⟨#[]⟩, []⟩, .slice none 0 0)], by omega, by go_num, by rw [List.map_append]; exact RUN.out.next (by rw [← HOP.out]; exact ST.out), RN.out⟩
            case measure => simp [intOf]; omega
         · have e1 : (0 : Int) < (NF : Int) := by omega
           have e2 : decide ((0 : Int) < (NF : Int)) = true := by simp; omega
           have FN : Hid (t.fr ≠ []) := fun q => hf0 (by rw [HNF.out, q]; rfl)
           by_cases h20 : NR = 20
           · have e3 : ((NR : Int) == 20) = true := by simp; omega
             have RL : Hid (t.rs.length = 20) := by rw [← HNR.out]; exact h20
             as_aux_lemma =>
              have ST0 : Hid (Stp t ⟨3, ky, tx, oq, til, lm⟩ t ⟨7, ⟨#[]⟩, []⟩) := .flushF rfl FN.out RL.out; obtain ⟨WZ, hWZ⟩ : ∃ W, W = WB.setCell ⟨ub, 0, none⟩ (.int .i64 7) := ⟨_, rfl⟩; have bZ : Below wr.heap.size wr WZ := by rw [hWZ]; exact BWB.out.setCell (by show wr.heap.size ≤ ub; have := UBG.out; omega) _
              have UZ : Hid (RA WZ ub 41 #[.int .i64 7, .string ⟨#[]⟩, .slice none 0 0]) := by rw [hWZ]; exact UB.out.set 0 _
              have RT := hid (RI.out.below bZ); have VE : Hid (OwnEn WZ base (.slice none 0 0) []) := OwnEn.nil _ _; have AP : Hid (∀ g, (Value.slice none 0 0).ownBlock = some g → (Value.slice a0 NF c0).ownBlock ≠ some g) := fun g e => by cases e
              have OC : Hid ((Value.slice none 0 0).oneCell' = true) := rfl; have u0 := UB.out.cell 0; have uf := UB.out.free 0; clear bZ RI
              go_upto_region 56 with fail
              rw [← hWZ]; clear hWZ u0 uf p0 p1 p2 p3 p4 p5 UB OB b0 b1 b2 b3; have q4 := RT.out.rr.cell 4; have z0 := UZ.out.cell 0; have z1 := UZ.out.cell 1; have z2 := UZ.out.cell 2
              go_wp2_with (at_builtin; refine lockH ?_)
              refine hid ?_; refine append_out base _ rfl (.tmp 236) (.tmp 238) rfl vO O (⟨7, ⟨#[]⟩, []⟩, .slice none 0 0) rfl RT.out.ou RT.out.sz rfl OC.out (by have := OL.out; omega) ?_; intro v9 w9 hO9 hg9; obtain ⟨a9, k9, hv9⟩ := or_slice hO9; obtain ⟨N9, hN9⟩ : ∃ N, N = (O ++ [((⟨7, ⟨#[]⟩, []⟩ : Ot), (.slice none 0 0 : Value))]).length := ⟨_, rfl⟩; rw [← hN9] at hv9; subst hv9; clear hN9; have RN := hid (RT.out.out hg9 VE.out AP.out hO9); have r9 := RT.out.rr1 hg9; have c9 := r9.cell 4; have f9 := r9.free 4; have ST := hid (ST0.out); clear hO9 hg9 r9 RT UZ VE AP q4 z0 z1 z2
              go_wp2
              go_roundw
              case rel => exact ⟨i + 1, t, (Value.slice a0 NF c0), (Value.slice a NR cap), Q, .slice a9 N9 k9, O ++ [(⟨7, ⟨#[]⟩, []⟩, .slice none 0 0)], by omega, by go_num, by rw [List.map_append]; exact RUN.out.next (by rw [← HOP.out]; exact ST.out), RN.out⟩
              case measure => simp [intOf]; omega
           · have e3 : ((NR : Int) == 20) = false := by simp; omega
             have RL : Hid (t.rs.length ≠ 20) := by rw [← HNR.out]; exact h20
             as_aux_lemma =>
              have ST0 : Hid (Stp t ⟨3, ky, tx, oq, til, lm⟩ ⟨t.sq, t.fl, [], t.rs ++ [t.fr]⟩ ⟨0, ⟨#[]⟩, []⟩) := .flush rfl FN.out RL.out
              go_wp2_with (at_builtin; refine lockH ?_)
              refine hid ?_; refine append_run base WB rfl (.tmp 147) (.tmp 150) rfl (Value.slice a NR cap) Q ((Value.slice a0 NF c0), t.fr) rfl RWB.out.rs RWB.out.sz rfl rfl (by have := QL.out; omega) ?_; intro v7 w7 hR7 hg7; obtain ⟨a7, k7, hv7⟩ := or_slice hR7; obtain ⟨N7, hN7⟩ : ∃ N, N = (Q ++ [((Value.slice a0 NF c0), t.fr)]).length := ⟨_, rfl⟩; rw [← hN7] at hv7; subst hv7; clear hN7; have tb7 := RWB.out.tb1 hg7 RWB.out.tb (by decide); have ub7 := RWB.out.tb1 hg7 UB.out (by decide); have c3 := tb7.cell 3; have f3 := tb7.free 3; obtain ⟨W8, hW8⟩ : ∃ W, W = w7.setCell ⟨b, 3, none⟩ (.slice a7 N7 k7) := ⟨_, rfl⟩; have tb8 : RA W8 b 28 #[.int .i64 t.sq, .int .i64 t.fl, (Value.slice a0 NF c0), .slice a7 N7 k7] := by rw [hW8]; exact tb7.set 3 _
              have ub8 : RA W8 ub 41 #[.int .i64 0, .string ⟨#[]⟩, .slice none 0 0] := by rw [hW8]; exact ub7.other _ _ (row_ne ub7 tb7 (by decide))
              obtain ⟨WZ, hWZ⟩ : ∃ W, W = W8.setCell ⟨b, 2, none⟩ (.slice none 0 0) := ⟨_, rfl⟩
              have BG : Below w.heap.size w WZ := by
               have q1 : Below w.heap.size w w7 := RWB.out.bl.grown hg7 RWB.out.bl.size (fun g e => by have := (or_row RWB.out.rs e).1; have := RWB.out.nx.2.2.2.1; omega); rw [hWZ, hW8]; exact (q1.setCell (by show w.heap.size ≤ b; exact RWB.out.nx.2.1) _).setCell (by show w.heap.size ≤ b; exact RWB.out.nx.2.1) _
              have RT : Hid (RtI w WZ X b rb base ⟨t.sq, t.fl, [], t.rs ++ [t.fr]⟩ (.slice none 0 0) (.slice a7 N7 k7) (Q ++ [((Value.slice a0 NF c0), t.fr)]) vO O) :=
               RWB.out.run hg7 (p := ((Value.slice a0 NF c0), t.fr)) RWB.out.fr hR7 (OwnEn.nil _ _) (fun q hq g e e2 => by cases e2) (fun q hq g e e2 => by cases e2) (fun g ty cs r hn => by rw [hWZ]; rw [← hW8] at r; exact r.other _ _ (row_ne r tb8 hn)) (by rw [hWZ]; exact tb8.set 2 _) BG (by rw [hWZ, hW8]; exact Nat.le_trans RWB.out.sz (Nat.le_trans hg7.size (Nat.le_trans grown_set.size grown_set.size)))
              have UZ : Hid (RA WZ ub 41 #[.int .i64 0, .string ⟨#[]⟩, .slice none 0 0]) := by rw [hWZ]; exact ub8.other _ _ (row_ne ub8 tb8 (by decide))
              have TH : Hid (W8.there b 2 1) := (FRow.of (n := 4) (f := fun p => (#[.int .i64 t.sq, .int .i64 t.fl, (Value.slice a0 NF c0), .slice a7 N7 k7] : Array Value).getD p undef) tb8 rfl (fun p hp => by
               match p, hp with
               | 0, _ => rfl
               | 1, _ => rfl
               | 2, _ => rfl
               | 3, _ => rfl)).there 2 1 (by omega)
              have VE : Hid (OwnEn WZ base (.slice none 0 0) []) := OwnEn.nil _ _; have AP : Hid (∀ g, (Value.slice none 0 0).ownBlock = some g → (Value.slice none 0 0).ownBlock ≠ some g) := fun g e => by cases e
              have OC : Hid ((Value.slice none 0 0).oneCell' = true) := rfl; have HW8 := hid hW8; have HWZ := hid hWZ; clear hW8 hWZ tb7 ub7 tb8 ub8 hR7 hg7 BG p0 p1 p2 p3 p4 p5 b0 b1 b2 b3 RWB RI UB OB
              go_upto_region 35 with fail
              rw [← HW8.out]; clear c3 f3
              go_upto_region 56 with (refine wpList_store_mid rfl 25 (.tmp 154) (.tmp 153) rfl b 2 #[.slice none 0 0] rfl rfl TH.out (by kernel_rfl) (by simp [Value.oneCell']) ?_)
              rw [show W8.setCells b 2 (#[Value.slice none 0 0] : Array Value).toList = WZ from HWZ.out.symm]; clear TH HW8 HWZ; have q4 := RT.out.rr.cell 4; have z0 := UZ.out.cell 0; have z1 := UZ.out.cell 1; have z2 := UZ.out.cell 2
              go_wp2_with (at_builtin; refine lockH ?_)
              refine hid ?_; refine append_out base _ rfl (.tmp 236) (.tmp 238) rfl vO O (⟨0, ⟨#[]⟩, []⟩, .slice none 0 0) rfl RT.out.ou RT.out.sz rfl OC.out (by have := OL.out; omega) ?_; intro v9 w9 hO9 hg9; obtain ⟨a9, k9, hv9⟩ := or_slice hO9; obtain ⟨N9, hN9⟩ : ∃ N, N = (O ++ [((⟨0, ⟨#[]⟩, []⟩ : Ot), (.slice none 0 0 : Value))]).length := ⟨_, rfl⟩; rw [← hN9] at hv9; subst hv9; clear hN9; have RN := hid (RT.out.out hg9 VE.out AP.out hO9); have r9 := RT.out.rr1 hg9; have c9 := r9.cell 4; have f9 := r9.free 4; have ST := hid (ST0.out); clear hO9 hg9 r9 RT UZ VE AP q4 z0 z1 z2
              go_wp2
              go_roundw
              case rel => exact ⟨i + 1, ⟨t.sq, t.fl, [], t.rs ++ [t.fr]⟩, (Value.slice none 0 0), (Value.slice a7 N7 k7), (Q ++ [((Value.slice a0 NF c0), t.fr)]), .slice a9 N9 k9, O ++ [(⟨0, ⟨#[]⟩, []⟩, .slice none 0 0)], by omega, by go_num, by rw [List.map_append]; exact RUN.out.next (by rw [← HOP.out]; exact ST.out), RN.out⟩
              case measure => simp [intOf]; omega
       by_cases hk4 : kd = 4
       · obtain rfl : kd = 4 := hk4
         by_cases hl1 : oq < FL
         · have e1 : decide (oq < FL) = true := by simpa using hl1
           have CF : Hid (oq < t.fl ∨ t.sq < oq) := .inl (by rw [← HFL.out]; exact hl1)
           as_aux_lemma =>
            have ST0 : Hid (Stp t ⟨4, ky, tx, oq, til, lm⟩ t ⟨1, ⟨#[]⟩, []⟩) := .compF rfl CF.out; obtain ⟨WZ, hWZ⟩ : ∃ W, W = WB.setCell ⟨ub, 0, none⟩ (.int .i64 1) := ⟨_, rfl⟩; have bZ : Below wr.heap.size wr WZ := by rw [hWZ]; exact BWB.out.setCell (by show wr.heap.size ≤ ub; have := UBG.out; omega) _
            have UZ : Hid (RA WZ ub 41 #[.int .i64 1, .string ⟨#[]⟩, .slice none 0 0]) := by rw [hWZ]; exact UB.out.set 0 _
            have RT := hid (RI.out.below bZ); have VE : Hid (OwnEn WZ base (.slice none 0 0) []) := OwnEn.nil _ _; have AP : Hid (∀ g, (Value.slice none 0 0).ownBlock = some g → (Value.slice a0 NF c0).ownBlock ≠ some g) := fun g e => by cases e
            have OC : Hid ((Value.slice none 0 0).oneCell' = true) := rfl; have u0 := UB.out.cell 0; have uf := UB.out.free 0; clear bZ RI
            go_upto_region 56 with fail
            rw [← hWZ]; clear hWZ u0 uf p0 p1 p2 p3 p4 p5 UB OB b0 b1 b2 b3; have q4 := RT.out.rr.cell 4; have z0 := UZ.out.cell 0; have z1 := UZ.out.cell 1; have z2 := UZ.out.cell 2
            go_wp2_with (at_builtin; refine lockH ?_)
            refine hid ?_; refine append_out base _ rfl (.tmp 236) (.tmp 238) rfl vO O (⟨1, ⟨#[]⟩, []⟩, .slice none 0 0) rfl RT.out.ou RT.out.sz rfl OC.out (by have := OL.out; omega) ?_; intro v9 w9 hO9 hg9; obtain ⟨a9, k9, hv9⟩ := or_slice hO9; obtain ⟨N9, hN9⟩ : ∃ N, N = (O ++ [((⟨1, ⟨#[]⟩, []⟩ : Ot), (.slice none 0 0 : Value))]).length := ⟨_, rfl⟩; rw [← hN9] at hv9; subst hv9; clear hN9; have RN := hid (RT.out.out hg9 VE.out AP.out hO9); have r9 := RT.out.rr1 hg9; have c9 := r9.cell 4; have f9 := r9.free 4; have ST := hid (ST0.out); clear hO9 hg9 r9 RT UZ VE AP q4 z0 z1 z2
            go_wp2
            go_roundw
            case rel => exact ⟨i + 1, t, (Value.slice a0 NF c0), (Value.slice a NR cap), Q, .slice a9 N9 k9, O ++ [(⟨1, ⟨#[]⟩, []⟩, .slice none 0 0)], by omega, by go_num, by rw [List.map_append]; exact RUN.out.next (by rw [← HOP.out]; exact ST.out), RN.out⟩
            case measure => simp [intOf]; omega
         · have e1 : decide (oq < FL) = false := by simpa using hl1
           by_cases hl2 : SQ < oq
           · have e2 : decide (SQ < oq) = true := by simpa using hl2
             have CF : Hid (oq < t.fl ∨ t.sq < oq) := .inr (by rw [← HSQ.out]; exact hl2)
             as_aux_lemma =>
              have ST0 : Hid (Stp t ⟨4, ky, tx, oq, til, lm⟩ t ⟨1, ⟨#[]⟩, []⟩) := .compF rfl CF.out; obtain ⟨WZ, hWZ⟩ : ∃ W, W = WB.setCell ⟨ub, 0, none⟩ (.int .i64 1) := ⟨_, rfl⟩; have bZ : Below wr.heap.size wr WZ := by rw [hWZ]; exact BWB.out.setCell (by show wr.heap.size ≤ ub; have := UBG.out; omega) _
              have UZ : Hid (RA WZ ub 41 #[.int .i64 1, .string ⟨#[]⟩, .slice none 0 0]) := by rw [hWZ]; exact UB.out.set 0 _
              have RT := hid (RI.out.below bZ); have VE : Hid (OwnEn WZ base (.slice none 0 0) []) := OwnEn.nil _ _; have AP : Hid (∀ g, (Value.slice none 0 0).ownBlock = some g → (Value.slice a0 NF c0).ownBlock ≠ some g) := fun g e => by cases e
              have OC : Hid ((Value.slice none 0 0).oneCell' = true) := rfl; have u0 := UB.out.cell 0; have uf := UB.out.free 0; clear bZ RI
              go_upto_region 56 with fail
              rw [← hWZ]; clear hWZ u0 uf p0 p1 p2 p3 p4 p5 UB OB b0 b1 b2 b3; have q4 := RT.out.rr.cell 4; have z0 := UZ.out.cell 0; have z1 := UZ.out.cell 1; have z2 := UZ.out.cell 2
              go_wp2_with (at_builtin; refine lockH ?_)
              refine hid ?_; refine append_out base _ rfl (.tmp 236) (.tmp 238) rfl vO O (⟨1, ⟨#[]⟩, []⟩, .slice none 0 0) rfl RT.out.ou RT.out.sz rfl OC.out (by have := OL.out; omega) ?_; intro v9 w9 hO9 hg9; obtain ⟨a9, k9, hv9⟩ := or_slice hO9; obtain ⟨N9, hN9⟩ : ∃ N, N = (O ++ [((⟨1, ⟨#[]⟩, []⟩ : Ot), (.slice none 0 0 : Value))]).length := ⟨_, rfl⟩; rw [← hN9] at hv9; subst hv9; clear hN9; have RN := hid (RT.out.out hg9 VE.out AP.out hO9); have r9 := RT.out.rr1 hg9; have c9 := r9.cell 4; have f9 := r9.free 4; have ST := hid (ST0.out); clear hO9 hg9 r9 RT UZ VE AP q4 z0 z1 z2
              go_wp2
              go_roundw
              case rel => exact ⟨i + 1, t, (Value.slice a0 NF c0), (Value.slice a NR cap), Q, .slice a9 N9 k9, O ++ [(⟨1, ⟨#[]⟩, []⟩, .slice none 0 0)], by omega, by go_num, by rw [List.map_append]; exact RUN.out.next (by rw [← HOP.out]; exact ST.out), RN.out⟩
              case measure => simp [intOf]; omega
           · have e2 : decide (SQ < oq) = false := by simpa using hl2
             have CF : Hid (¬ (oq < t.fl ∨ t.sq < oq)) := by rw [← HSQ.out, ← HFL.out]; exact fun q => q.elim hl1 hl2
             as_aux_lemma =>
              obtain ⟨B, S, hS, hBS⟩ := srt_ex t.rs.flatten; have HBS : Hid (SrtOf t.rs.flatten B) := ⟨S, hS, hBS⟩; have ST1 : Hid (mgS oq none B = [] → Stp t ⟨4, ky, tx, oq, til, lm⟩ ⟨t.sq, oq, t.fr, []⟩ ⟨0, ⟨#[]⟩, []⟩) := fun q => .comp0 B rfl CF.out HBS.out q; have ST2 : Hid (mgS oq none B ≠ [] → Stp t ⟨4, ky, tx, oq, til, lm⟩ ⟨t.sq, oq, t.fr, [mgS oq none B]⟩ ⟨0, ⟨#[]⟩, []⟩) := fun q => .comp B rfl CF.out HBS.out q; obtain ⟨WC, hWC⟩ : ∃ W, W = WB.setCell ⟨b, 1, none⟩ (.int .i64 oq) := ⟨_, rfl⟩; have bf := RWB.out.tb.free 1; have RC : Hid (RtI w WC X b rb base ⟨t.sq, oq, t.fr, t.rs⟩ (Value.slice a0 NF c0) (Value.slice a NR cap) Q vO O) := by rw [hWC]; exact RWB.out.num ⟨t.sq, oq, t.fr, t.rs⟩ rfl rfl 1 _ rfl
              have UBC : Hid (RA WC ub 41 #[.int .i64 0, .string ⟨#[]⟩, .slice none 0 0]) := by rw [hWC]; exact UB.out.other _ _ (row_ne UB.out RWB.out.tb (by decide))
              have HWC := hid hWC; clear hWC
              go_upto_region 40 with fail
              rw [← HWC.out]; clear HWC bf b0 b1 b2 b3 p0 p1 p2 p3 p4 p5; have b1 := RC.out.tb.cell 1; have b3 := RC.out.tb.cell 3; obtain ⟨a0', c0', a', cap', R', ev1, ev2, hE', hN', hz', hnil', hall', hallE', hcnt'⟩ := RC.out.rd; have el : (⟨t.sq, oq, t.fr, t.rs⟩ : Tt).rs.length = NR := HNR.out.symm; rw [el] at ev2 hN' hnil' hallE' hcnt'
              injection ev2 with ea _ ec
              subst ea ec; have hallE2 : allE R' NR = t.rs.flatten := hallE'; have hcnt2 : cntR R' NR = t.rs.flatten.length := hcnt'; have KM := hid (sMerge a NR cap R' oq (by have := NRB.out; omega) (by rw [hcnt2]; have := TK.out.cnt; have := AL.out; omega) hnil' S (by rw [hallE2, hcnt2]; exact hS) WC hN'); rw [← hBS] at KM; clear hS hBS ev1 hE' hN' hz' hnil' hall' hallE' hcnt' hallE2 hcnt2 el
              go_wp2_with fail
              refine KM.out.mono ?_
              rintro e w5 ⟨⟨v5, rfl, hO5⟩, hb5⟩
              obtain ⟨a6, c6, hv5⟩ := hO5.slice; obtain ⟨N5, hN5⟩ : ∃ N, N = (mgS oq none B).length := ⟨_, rfl⟩; rw [← hN5] at hv5; subst hv5; have HN5 := hid hN5; obtain ⟨WD, hWD⟩ : ∃ W, W = w5.alloc (.cells #[.slice a6 N5 c6] 25) := ⟨_, rfl⟩; have bD : Below w5.heap.size w5 WD := by rw [hWD]; exact (Below.refl _ _).alloc (Nat.le_refl _) _
              have bCD := hb5.trans (bD.mono hb5.size); have MBD : RA WD w5.heap.size 25 #[.slice a6 N5 c6] := by rw [hWD]; exact RA.new _ _ _
              have RD := hid (RC.out.below bCD); have UBD := UBC.out.below bCD UBC.out.lt; have O5D := hO5.below bD
              have APM : Hid (∀ g, (Value.slice a6 N5 c6).ownBlock = some g → (Value.slice a0 NF c0).ownBlock ≠ some g) := fun g e e2 => by
               have q1 := (hO5.row e).1; have q2 := (RC.out.fr.row e2).2.1
               omega
              have HWD := hid hWD; clear hWD hN5
              go_upto_region 41 with ((refine wpList_store_row rfl 25 (.tmp 12) (.tmp 177) rfl w5.heap.size #[.slice a6 N5 c6] rfl rfl _ _ (RA.new w5 _ _) (by kernel_rfl) rfl (by simp [Value.oneCell']) ?_); rw [World.setRow_alloc_new])
              rw [← HWD.out]; clear HWD b1 b3 KM; obtain ⟨mb, hmb⟩ : ∃ x, x = w5.heap.size := ⟨_, rfl⟩; rw [← hmb] at MBD ⊢; have bDa : Below WD.heap.size WD (WD.alloc (.cells #[] 25)) := (Below.refl _ _).alloc (Nat.le_refl _) _; have tba := RD.out.tb.below bDa RD.out.tb.lt; have c3 := tba.cell 3; have f3 := tba.free 3; obtain ⟨WE, hWE⟩ : ∃ W, W = (WD.alloc (.cells #[] 25)).setCell ⟨b, 3, none⟩ (.slice (some ⟨WD.heap.size, 0, none⟩) 0 0) := ⟨_, rfl⟩; have REM : Hid (RtI w WE X b rb base ⟨t.sq, oq, t.fr, []⟩ (Value.slice a0 NF c0) (.slice (some ⟨WD.heap.size, 0, none⟩) 0 0) [] vO O) := by rw [hWE]; exact RD.out.empt
              have UBE : Hid (RA WE ub 41 #[.int .i64 0, .string ⟨#[]⟩, .slice none 0 0]) := by rw [hWE]; exact (UBD.below bDa UBD.lt).other _ _ (row_ne (UBD.below bDa UBD.lt) tba (by decide))
              have MBE : Hid (RA WE mb 25 #[.slice a6 N5 c6]) := by rw [hWE]; exact (MBD.below bDa MBD.lt).other _ _ (row_ne (MBD.below bDa MBD.lt) tba (by decide))
              have O5E : Hid (OwnEn WE base (.slice a6 N5 c6) (mgS oq none B)) := by rw [hWE]; exact OwnEn.baseUp ((O5D.below bDa).keep fun g cs e r => r.other _ _ (row_ne r tba (by decide))) RC.out.sz
              have HWE := hid hWE; clear hWE hmb bD bCD MBD UBD O5D bDa tba hO5 hb5 RD RC UBC RWB RI UB OB
              go_upto_region 42 with fail
              rw [← HWE.out]; clear HWE c3 f3
              by_cases hz5 : N5 = 0
              · have M0 : Hid (mgS oq none B = []) := List.eq_nil_of_length_eq_zero (by rw [← HN5.out]; exact hz5)
                have e5 : ¬ (0 : Int) < (N5 : Int) := by omega
                have e6 : decide ((0 : Int) < (N5 : Int)) = false := by simp; omega
                have RT := hid (REM.out); have UZ := hid UBE.out; have VE : Hid (OwnEn WE base (.slice none 0 0) []) := OwnEn.nil _ _; have AP : Hid (∀ g, (Value.slice none 0 0).ownBlock = some g → (Value.slice a0 NF c0).ownBlock ≠ some g) := fun g e => by cases e
                have OC : Hid ((Value.slice none 0 0).oneCell' = true) := rfl; have m0 := MBE.out.cell 0; clear REM UBE
                go_upto_region 56 with fail
                clear m0 MBE; have q4 := RT.out.rr.cell 4; have z0 := UZ.out.cell 0; have z1 := UZ.out.cell 1; have z2 := UZ.out.cell 2
                go_wp2_with (at_builtin; refine lockH ?_)
                refine hid ?_; refine append_out base _ rfl (.tmp 236) (.tmp 238) rfl vO O (⟨0, ⟨#[]⟩, []⟩, .slice none 0 0) rfl RT.out.ou RT.out.sz rfl OC.out (by have := OL.out; omega) ?_; intro v9 w9 hO9 hg9; obtain ⟨a9, k9, hv9⟩ := or_slice hO9; obtain ⟨N9, hN9⟩ : ∃ N, N = (O ++ [((⟨0, ⟨#[]⟩, []⟩ : Ot), (.slice none 0 0 : Value))]).length := ⟨_, rfl⟩; rw [← hN9] at hv9; subst hv9; clear hN9; have RN := hid (RT.out.out hg9 VE.out AP.out hO9); have r9 := RT.out.rr1 hg9; have c9 := r9.cell 4; have f9 := r9.free 4; have ST := hid (ST1.out M0.out); clear hO9 hg9 r9 RT UZ VE AP q4 z0 z1 z2
                go_wp2
                go_roundw
                case rel => exact ⟨i + 1, ⟨t.sq, oq, t.fr, []⟩, (Value.slice a0 NF c0), (.slice (some ⟨WD.heap.size, 0, none⟩) 0 0), [], .slice a9 N9 k9, O ++ [(⟨0, ⟨#[]⟩, []⟩, .slice none 0 0)], by omega, by go_num, by rw [List.map_append]; exact RUN.out.next (by rw [← HOP.out]; exact ST.out), RN.out⟩
                case measure => simp [intOf]; omega
              · have M0 : Hid (mgS oq none B ≠ []) := fun q => hz5 (by rw [HN5.out, q]; rfl)
                have e5 : (0 : Int) < (N5 : Int) := by omega
                have e6 : decide ((0 : Int) < (N5 : Int)) = true := by simp; omega
                have m0 := MBE.out.cell 0; have b3 := REM.out.tb.cell 3
                go_wp2_with (at_builtin; refine lockH ?_)
                refine hid ?_; refine append_run base WE rfl (.tmp 185) (.tmp 187) rfl _ [] ((Value.slice a6 N5 c6), mgS oq none B) rfl REM.out.rs REM.out.sz rfl rfl (by simp) ?_; intro v7 w7 hR7 hg7; obtain ⟨a7, k7, hv7⟩ := or_slice hR7; have hv7' : v7 = .slice a7 1 k7 := hv7; subst hv7'; have tb7 := REM.out.tb1 hg7 REM.out.tb (by decide); have ub7 := REM.out.tb1 hg7 UBE.out (by decide); have c3 := tb7.cell 3; have f3 := tb7.free 3; obtain ⟨WZ, hWZ⟩ : ∃ W, W = w7.setCell ⟨b, 3, none⟩ (.slice a7 1 k7) := ⟨_, rfl⟩
                have BG : Below w.heap.size w WZ := by
                 have q1 : Below w.heap.size w w7 := REM.out.bl.grown hg7 REM.out.bl.size (fun g e => by have := (or_row REM.out.rs e).1; have := REM.out.nx.2.2.2.1; omega); rw [hWZ]; exact q1.setCell (by show w.heap.size ≤ b; exact REM.out.nx.2.1) _
                have RT : Hid (RtI w WZ X b rb base ⟨t.sq, oq, t.fr, [mgS oq none B]⟩ (Value.slice a0 NF c0) (.slice a7 1 k7) [((Value.slice a6 N5 c6), mgS oq none B)] vO O) :=
                 REM.out.run hg7 (p := ((Value.slice a6 N5 c6), mgS oq none B)) O5E.out hR7 REM.out.fr (fun q hq g e => by
                  have hq' : q = ((Value.slice a6 N5 c6), mgS oq none B) := by simpa using hq
                  subst hq'
                  exact APM.out g e) REM.out.oa (fun g ty cs r hn => by rw [hWZ]; exact r) (by rw [hWZ]; exact tb7.set 3 _) BG (by rw [hWZ]; exact Nat.le_trans REM.out.sz (Nat.le_trans hg7.size grown_set.size))
                have UZ : Hid (RA WZ ub 41 #[.int .i64 0, .string ⟨#[]⟩, .slice none 0 0]) := by rw [hWZ]; exact ub7.other _ _ (row_ne ub7 tb7 (by decide))
                have VE : Hid (OwnEn WZ base (.slice none 0 0) []) := OwnEn.nil _ _; have AP : Hid (∀ g, (Value.slice none 0 0).ownBlock = some g → (Value.slice a0 NF c0).ownBlock ≠ some g) := fun g e => by cases e
                have OC : Hid ((Value.slice none 0 0).oneCell' = true) := rfl; have HWZ := hid hWZ; clear hWZ tb7 ub7 hR7 hg7 BG m0 b3 REM UBE MBE hv7
                go_upto_region 56 with fail
                rw [← HWZ.out]; clear c3 f3 HWZ; have q4 := RT.out.rr.cell 4; have z0 := UZ.out.cell 0; have z1 := UZ.out.cell 1; have z2 := UZ.out.cell 2
                go_wp2_with (at_builtin; refine lockH ?_)
                refine hid ?_; refine append_out base _ rfl (.tmp 236) (.tmp 238) rfl vO O (⟨0, ⟨#[]⟩, []⟩, .slice none 0 0) rfl RT.out.ou RT.out.sz rfl OC.out (by have := OL.out; omega) ?_; intro v9 w9 hO9 hg9; obtain ⟨a9, k9, hv9⟩ := or_slice hO9; obtain ⟨N9, hN9⟩ : ∃ N, N = (O ++ [((⟨0, ⟨#[]⟩, []⟩ : Ot), (.slice none 0 0 : Value))]).length := ⟨_, rfl⟩; rw [← hN9] at hv9; subst hv9; clear hN9; have RN := hid (RT.out.out hg9 VE.out AP.out hO9); have r9 := RT.out.rr1 hg9; have c9 := r9.cell 4; have f9 := r9.free 4; have ST := hid (ST2.out M0.out); clear hO9 hg9 r9 RT UZ VE AP q4 z0 z1 z2
                go_wp2
                go_roundw
                case rel => exact ⟨i + 1, ⟨t.sq, oq, t.fr, [mgS oq none B]⟩, (Value.slice a0 NF c0), (.slice a7 1 k7), [((Value.slice a6 N5 c6), mgS oq none B)], .slice a9 N9 k9, O ++ [(⟨0, ⟨#[]⟩, []⟩, .slice none 0 0)], by omega, by go_num, by rw [List.map_append]; exact RUN.out.next (by rw [← HOP.out]; exact ST.out), RN.out⟩
                case measure => simp [intOf]; omega
       by_cases hk56 : kd = 5 ∨ kd = 6
       · have KK : Hid (kd = 5 ∨ kd = 6) := hk56
         by_cases hl1 : oq < FL
         · have e1 : decide (oq < FL) = true := by simpa using hl1
           have LT : Hid (oq < t.fl) := by rw [← HFL.out]; exact hl1
           rcases hk56 with rfl | rfl
           · as_aux_lemma =>
              have ST0 : Hid (Stp t ⟨5, ky, tx, oq, til, lm⟩ t ⟨13, ⟨#[]⟩, []⟩) := .late (.inl rfl) LT.out; obtain ⟨WZ, hWZ⟩ : ∃ W, W = WB.setCell ⟨ub, 0, none⟩ (.int .i64 13) := ⟨_, rfl⟩; have bZ : Below wr.heap.size wr WZ := by rw [hWZ]; exact BWB.out.setCell (by show wr.heap.size ≤ ub; have := UBG.out; omega) _
              have UZ : Hid (RA WZ ub 41 #[.int .i64 13, .string ⟨#[]⟩, .slice none 0 0]) := by rw [hWZ]; exact UB.out.set 0 _
              have RT := hid (RI.out.below bZ); have VE : Hid (OwnEn WZ base (.slice none 0 0) []) := OwnEn.nil _ _; have AP : Hid (∀ g, (Value.slice none 0 0).ownBlock = some g → (Value.slice a0 NF c0).ownBlock ≠ some g) := fun g e => by cases e
              have OC : Hid ((Value.slice none 0 0).oneCell' = true) := rfl; have u0 := UB.out.cell 0; have uf := UB.out.free 0; clear bZ RI
              go_upto_region 56 with fail
              rw [← hWZ]; clear hWZ u0 uf p0 p1 p2 p3 p4 p5 UB OB b0 b1 b2 b3; have q4 := RT.out.rr.cell 4; have z0 := UZ.out.cell 0; have z1 := UZ.out.cell 1; have z2 := UZ.out.cell 2
              go_wp2_with (at_builtin; refine lockH ?_)
              refine hid ?_; refine append_out base _ rfl (.tmp 236) (.tmp 238) rfl vO O (⟨13, ⟨#[]⟩, []⟩, .slice none 0 0) rfl RT.out.ou RT.out.sz rfl OC.out (by have := OL.out; omega) ?_; intro v9 w9 hO9 hg9; obtain ⟨a9, k9, hv9⟩ := or_slice hO9; obtain ⟨N9, hN9⟩ : ∃ N, N = (O ++ [((⟨13, ⟨#[]⟩, []⟩ : Ot), (.slice none 0 0 : Value))]).length := ⟨_, rfl⟩; rw [← hN9] at hv9; subst hv9; clear hN9; have RN := hid (RT.out.out hg9 VE.out AP.out hO9); have r9 := RT.out.rr1 hg9; have c9 := r9.cell 4; have f9 := r9.free 4; have ST := hid (ST0.out); clear hO9 hg9 r9 RT UZ VE AP q4 z0 z1 z2
              go_wp2
              go_roundw
              case rel => exact ⟨i + 1, t, (Value.slice a0 NF c0), (Value.slice a NR cap), Q, .slice a9 N9 k9, O ++ [(⟨13, ⟨#[]⟩, []⟩, .slice none 0 0)], by omega, by go_num, by rw [List.map_append]; exact RUN.out.next (by rw [← HOP.out]; exact ST.out), RN.out⟩
              case measure => simp [intOf]; omega
           · as_aux_lemma =>
              have ST0 : Hid (Stp t ⟨6, ky, tx, oq, til, lm⟩ t ⟨13, ⟨#[]⟩, []⟩) := .late (.inr rfl) LT.out; obtain ⟨WZ, hWZ⟩ : ∃ W, W = WB.setCell ⟨ub, 0, none⟩ (.int .i64 13) := ⟨_, rfl⟩; have bZ : Below wr.heap.size wr WZ := by rw [hWZ]; exact BWB.out.setCell (by show wr.heap.size ≤ ub; have := UBG.out; omega) _
              have UZ : Hid (RA WZ ub 41 #[.int .i64 13, .string ⟨#[]⟩, .slice none 0 0]) := by rw [hWZ]; exact UB.out.set 0 _
              have RT := hid (RI.out.below bZ); have VE : Hid (OwnEn WZ base (.slice none 0 0) []) := OwnEn.nil _ _; have AP : Hid (∀ g, (Value.slice none 0 0).ownBlock = some g → (Value.slice a0 NF c0).ownBlock ≠ some g) := fun g e => by cases e
              have OC : Hid ((Value.slice none 0 0).oneCell' = true) := rfl; have u0 := UB.out.cell 0; have uf := UB.out.free 0; clear bZ RI
              go_upto_region 56 with fail
              rw [← hWZ]; clear hWZ u0 uf p0 p1 p2 p3 p4 p5 UB OB b0 b1 b2 b3; have q4 := RT.out.rr.cell 4; have z0 := UZ.out.cell 0; have z1 := UZ.out.cell 1; have z2 := UZ.out.cell 2
              go_wp2_with (at_builtin; refine lockH ?_)
              refine hid ?_; refine append_out base _ rfl (.tmp 236) (.tmp 238) rfl vO O (⟨13, ⟨#[]⟩, []⟩, .slice none 0 0) rfl RT.out.ou RT.out.sz rfl OC.out (by have := OL.out; omega) ?_; intro v9 w9 hO9 hg9; obtain ⟨a9, k9, hv9⟩ := or_slice hO9; obtain ⟨N9, hN9⟩ : ∃ N, N = (O ++ [((⟨13, ⟨#[]⟩, []⟩ : Ot), (.slice none 0 0 : Value))]).length := ⟨_, rfl⟩; rw [← hN9] at hv9; subst hv9; clear hN9; have RN := hid (RT.out.out hg9 VE.out AP.out hO9); have r9 := RT.out.rr1 hg9; have c9 := r9.cell 4; have f9 := r9.free 4; have ST := hid (ST0.out); clear hO9 hg9 r9 RT UZ VE AP q4 z0 z1 z2
              go_wp2
              go_roundw
              case rel => exact ⟨i + 1, t, (Value.slice a0 NF c0), (Value.slice a NR cap), Q, .slice a9 N9 k9, O ++ [(⟨13, ⟨#[]⟩, []⟩, .slice none 0 0)], by omega, by go_num, by rw [List.map_append]; exact RUN.out.next (by rw [← HOP.out]; exact ST.out), RN.out⟩
              case measure => simp [intOf]; omega
         · have e1 : decide (oq < FL) = false := by simpa using hl1
           have LT : Hid (¬ oq < t.fl) := by rw [← HFL.out]; exact hl1
           by_cases hl2 : SQ < oq
           · have e2 : decide (SQ < oq) = true := by simpa using hl2
             have AH : Hid (t.sq < oq) := by rw [← HSQ.out]; exact hl2
             rcases hk56 with rfl | rfl
             · as_aux_lemma =>
                have ST0 : Hid (Stp t ⟨5, ky, tx, oq, til, lm⟩ t ⟨1, ⟨#[]⟩, []⟩) := .ahead (.inl rfl) LT.out AH.out; obtain ⟨WZ, hWZ⟩ : ∃ W, W = WB.setCell ⟨ub, 0, none⟩ (.int .i64 1) := ⟨_, rfl⟩; have bZ : Below wr.heap.size wr WZ := by rw [hWZ]; exact BWB.out.setCell (by show wr.heap.size ≤ ub; have := UBG.out; omega) _
                have UZ : Hid (RA WZ ub 41 #[.int .i64 1, .string ⟨#[]⟩, .slice none 0 0]) := by rw [hWZ]; exact UB.out.set 0 _
                have RT := hid (RI.out.below bZ); have VE : Hid (OwnEn WZ base (.slice none 0 0) []) := OwnEn.nil _ _; have AP : Hid (∀ g, (Value.slice none 0 0).ownBlock = some g → (Value.slice a0 NF c0).ownBlock ≠ some g) := fun g e => by cases e
                have OC : Hid ((Value.slice none 0 0).oneCell' = true) := rfl; have u0 := UB.out.cell 0; have uf := UB.out.free 0; clear bZ RI
                go_upto_region 56 with fail
                rw [← hWZ]; clear hWZ u0 uf p0 p1 p2 p3 p4 p5 UB OB b0 b1 b2 b3; have q4 := RT.out.rr.cell 4; have z0 := UZ.out.cell 0; have z1 := UZ.out.cell 1; have z2 := UZ.out.cell 2
                go_wp2_with (at_builtin; refine lockH ?_)
                refine hid ?_; refine append_out base _ rfl (.tmp 236) (.tmp 238) rfl vO O (⟨1, ⟨#[]⟩, []⟩, .slice none 0 0) rfl RT.out.ou RT.out.sz rfl OC.out (by have := OL.out; omega) ?_; intro v9 w9 hO9 hg9; obtain ⟨a9, k9, hv9⟩ := or_slice hO9; obtain ⟨N9, hN9⟩ : ∃ N, N = (O ++ [((⟨1, ⟨#[]⟩, []⟩ : Ot), (.slice none 0 0 : Value))]).length := ⟨_, rfl⟩; rw [← hN9] at hv9; subst hv9; clear hN9; have RN := hid (RT.out.out hg9 VE.out AP.out hO9); have r9 := RT.out.rr1 hg9; have c9 := r9.cell 4; have f9 := r9.free 4; have ST := hid (ST0.out); clear hO9 hg9 r9 RT UZ VE AP q4 z0 z1 z2
                go_wp2
                go_roundw
                case rel => exact ⟨i + 1, t, (Value.slice a0 NF c0), (Value.slice a NR cap), Q, .slice a9 N9 k9, O ++ [(⟨1, ⟨#[]⟩, []⟩, .slice none 0 0)], by omega, by go_num, by rw [List.map_append]; exact RUN.out.next (by rw [← HOP.out]; exact ST.out), RN.out⟩
                case measure => simp [intOf]; omega
             · as_aux_lemma =>
                have ST0 : Hid (Stp t ⟨6, ky, tx, oq, til, lm⟩ t ⟨1, ⟨#[]⟩, []⟩) := .ahead (.inr rfl) LT.out AH.out; obtain ⟨WZ, hWZ⟩ : ∃ W, W = WB.setCell ⟨ub, 0, none⟩ (.int .i64 1) := ⟨_, rfl⟩; have bZ : Below wr.heap.size wr WZ := by rw [hWZ]; exact BWB.out.setCell (by show wr.heap.size ≤ ub; have := UBG.out; omega) _
                have UZ : Hid (RA WZ ub 41 #[.int .i64 1, .string ⟨#[]⟩, .slice none 0 0]) := by rw [hWZ]; exact UB.out.set 0 _
                have RT := hid (RI.out.below bZ); have VE : Hid (OwnEn WZ base (.slice none 0 0) []) := OwnEn.nil _ _; have AP : Hid (∀ g, (Value.slice none 0 0).ownBlock = some g → (Value.slice a0 NF c0).ownBlock ≠ some g) := fun g e => by cases e
                have OC : Hid ((Value.slice none 0 0).oneCell' = true) := rfl; have u0 := UB.out.cell 0; have uf := UB.out.free 0; clear bZ RI
                go_upto_region 56 with fail
                rw [← hWZ]; clear hWZ u0 uf p0 p1 p2 p3 p4 p5 UB OB b0 b1 b2 b3; have q4 := RT.out.rr.cell 4; have z0 := UZ.out.cell 0; have z1 := UZ.out.cell 1; have z2 := UZ.out.cell 2
                go_wp2_with (at_builtin; refine lockH ?_)
                refine hid ?_; refine append_out base _ rfl (.tmp 236) (.tmp 238) rfl vO O (⟨1, ⟨#[]⟩, []⟩, .slice none 0 0) rfl RT.out.ou RT.out.sz rfl OC.out (by have := OL.out; omega) ?_; intro v9 w9 hO9 hg9; obtain ⟨a9, k9, hv9⟩ := or_slice hO9; obtain ⟨N9, hN9⟩ : ∃ N, N = (O ++ [((⟨1, ⟨#[]⟩, []⟩ : Ot), (.slice none 0 0 : Value))]).length := ⟨_, rfl⟩; rw [← hN9] at hv9; subst hv9; clear hN9; have RN := hid (RT.out.out hg9 VE.out AP.out hO9); have r9 := RT.out.rr1 hg9; have c9 := r9.cell 4; have f9 := r9.free 4; have ST := hid (ST0.out); clear hO9 hg9 r9 RT UZ VE AP q4 z0 z1 z2
                go_wp2
                go_roundw
                case rel => exact ⟨i + 1, t, (Value.slice a0 NF c0), (Value.slice a NR cap), Q, .slice a9 N9 k9, O ++ [(⟨1, ⟨#[]⟩, []⟩, .slice none 0 0)], by omega, by go_num, by rw [List.map_append]; exact RUN.out.next (by rw [← HOP.out]; exact ST.out), RN.out⟩
                case measure => simp [intOf]; omega
           · have e2 : decide (SQ < oq) = false := by simpa using hl2
             have AH : Hid (¬ t.sq < oq) := by rw [← HSQ.out]; exact hl2
             rcases hk56 with rfl | rfl
             · as_aux_lemma =>
                have KF := hid (sFindL SQ FL a0 NF c0 (enA t.fr) a NR cap R (by have := NRB.out; omega) (by have := TK.out.cnt; have := AL.out; have := HCNT.out; omega) HZ0.out HNIL.out (by rw [HALL.out]; exact fun e he => (TK.out.fit e he).2.2.1) ky oq WB (HE.out.below BWB.out) (HNN.out.below BWB.out)); rw [HALL.out] at KF; have STG : Hid (∀ x, FndOf t.all ky oq x → Stp t ⟨5, ky, tx, oq, til, lm⟩ t ⟨if x.sq = 0 then 5 else 0, x.tx, []⟩) := fun x hx => Stp.get x rfl LT.out AH.out hx
                go_wp2_with fail
                refine KF.out.mono ?_
                rintro e w5 ⟨⟨x, rfl, hx⟩, hb5⟩
                have SX := hid (STG.out x hx); obtain ⟨X0, X1, X2, X3⟩ := x; dsimp only; obtain ⟨WD, hWD⟩ : ∃ W, W = w5.alloc (.cells #[.string X0, .int .i64 X1, .bool X2, .string X3] 46) := ⟨_, rfl⟩; have bD : Below w5.heap.size w5 WD := by rw [hWD]; exact (Below.refl _ _).alloc (Nat.le_refl _) _
                have bBD := hb5.trans (bD.mono hb5.size); have XD : Hid (RA WD w5.heap.size 46 #[.string X0, .int .i64 X1, .bool X2, .string X3]) := by rw [hWD]; exact RA.new _ _ _
                have UBD := hid (UB.out.below bBD UB.out.lt); have BD := hid (BWB.out.trans (bBD.mono BWB.out.size)); have HWD := hid hWD; clear hWD hx hb5 KF bD bBD
                go_upto_region 47 with ((refine wpList_store_row rfl 46 (.tmp 13) (.tmp 198) rfl w5.heap.size #[.string X0, .int .i64 X1, .bool X2, .string X3] rfl rfl _ _ (RA.new w5 _ _) (by kernel_rfl) rfl (oneEn4 _ _ _ _) ?_); rw [World.setRow_alloc_new])
                rw [← HWD.out]; obtain ⟨xb, hxb⟩ : ∃ x, x = w5.heap.size := ⟨_, rfl⟩; rw [← hxb] at XD ⊢; clear HWD hxb p0 p1 p2 p3 p4 p5 b0 b1 b2 b3 UB OB RWB
                by_cases hx0 : X1 = 0
                · have e5 : (X1 == 0) = true := by simpa using hx0
                  have ST0 : Hid (Stp t ⟨5, ky, tx, oq, til, lm⟩ t ⟨5, X3, []⟩) := by have q := SX.out; dsimp only at q; rw [if_pos hx0] at q; exact q
                  obtain ⟨WE, hWE⟩ : ∃ W, W = WD.setCell ⟨ub, 0, none⟩ (.int .i64 5) := ⟨_, rfl⟩; have UBE : RA WE ub 41 #[.int .i64 5, .string ⟨#[]⟩, .slice none 0 0] := by rw [hWE]; exact UBD.out.set 0 _
                  have bE : Below wr.heap.size wr WE := by rw [hWE]; exact BD.out.setCell (by show wr.heap.size ≤ ub; have := UBG.out; omega) _
                  have xe3 : WE.cell? ⟨xb, 3, none⟩ = some (.string X3) := by rw [hWE]; exact (XD.out.other _ _ (row_ne XD.out UBD.out (by decide))).cell 3
                  have x1 := XD.out.cell 1; have u0 := UBD.out.cell 0; have uf := UBD.out.free 0; have HWE := hid hWE; clear hWE
                  go_upto_region 49 with fail
                  rw [← HWE.out]; clear HWE u0 uf x1; have u1 := UBE.cell 1; have uf1 := UBE.free 1; obtain ⟨WZ, hWZ⟩ : ∃ W, W = WE.setCell ⟨ub, 1, none⟩ (.string X3) := ⟨_, rfl⟩; have UZ : Hid (RA WZ ub 41 #[.int .i64 5, .string X3, .slice none 0 0]) := by rw [hWZ]; exact UBE.set 1 _
                  have bZ : Below wr.heap.size wr WZ := by rw [hWZ]; exact bE.setCell (by show wr.heap.size ≤ ub; have := UBG.out; omega) _
                  have RT := hid (RI.out.below bZ); have VE : Hid (OwnEn WZ base (.slice none 0 0) []) := OwnEn.nil _ _; have AP : Hid (∀ g, (Value.slice none 0 0).ownBlock = some g → (Value.slice a0 NF c0).ownBlock ≠ some g) := fun g e => by cases e
                  have OC : Hid ((Value.slice none 0 0).oneCell' = true) := rfl; have HWZ := hid hWZ; clear hWZ bZ bE UBE RI XD UBD BD
                  go_upto_region 56 with fail
                  rw [← HWZ.out]; clear HWZ u1 uf1 xe3; have q4 := RT.out.rr.cell 4; have z0 := UZ.out.cell 0; have z1 := UZ.out.cell 1; have z2 := UZ.out.cell 2
                  go_wp2_with (at_builtin; refine lockH ?_)
                  refine hid ?_; refine append_out base _ rfl (.tmp 236) (.tmp 238) rfl vO O (⟨5, X3, []⟩, .slice none 0 0) rfl RT.out.ou RT.out.sz rfl OC.out (by have := OL.out; omega) ?_; intro v9 w9 hO9 hg9; obtain ⟨a9, k9, hv9⟩ := or_slice hO9; obtain ⟨N9, hN9⟩ : ∃ N, N = (O ++ [((⟨5, X3, []⟩ : Ot), (.slice none 0 0 : Value))]).length := ⟨_, rfl⟩; rw [← hN9] at hv9; subst hv9; clear hN9; have RN := hid (RT.out.out hg9 VE.out AP.out hO9); have r9 := RT.out.rr1 hg9; have c9 := r9.cell 4; have f9 := r9.free 4; have ST := hid (ST0.out); clear hO9 hg9 r9 RT UZ VE AP q4 z0 z1 z2
                  go_wp2
                  go_roundw
                  case rel => exact ⟨i + 1, t, (Value.slice a0 NF c0), (Value.slice a NR cap), Q, .slice a9 N9 k9, O ++ [(⟨5, X3, []⟩, .slice none 0 0)], by omega, by go_num, by rw [List.map_append]; exact RUN.out.next (by rw [← HOP.out]; exact ST.out), RN.out⟩
                  case measure => simp [intOf]; omega
                · have e5 : (X1 == 0) = false := by simpa using hx0
                  have ST0 : Hid (Stp t ⟨5, ky, tx, oq, til, lm⟩ t ⟨0, X3, []⟩) := by have q := SX.out; dsimp only at q; rw [if_neg hx0] at q; exact q
                  obtain ⟨WE, hWE⟩ : ∃ W, W = WD := ⟨_, rfl⟩; have UBE : RA WE ub 41 #[.int .i64 0, .string ⟨#[]⟩, .slice none 0 0] := by rw [hWE]; exact UBD.out
                  have bE : Below wr.heap.size wr WE := by rw [hWE]; exact BD.out
                  have xe3 : WE.cell? ⟨xb, 3, none⟩ = some (.string X3) := by rw [hWE]; exact XD.out.cell 3
                  have x1 := XD.out.cell 1; have HWE := hid hWE; clear hWE
                  go_upto_region 49 with fail
                  rw [← HWE.out]; clear HWE x1; have u1 := UBE.cell 1; have uf1 := UBE.free 1; obtain ⟨WZ, hWZ⟩ : ∃ W, W = WE.setCell ⟨ub, 1, none⟩ (.string X3) := ⟨_, rfl⟩; have UZ : Hid (RA WZ ub 41 #[.int .i64 0, .string X3, .slice none 0 0]) := by rw [hWZ]; exact UBE.set 1 _
                  have bZ : Below wr.heap.size wr WZ := by rw [hWZ]; exact bE.setCell (by show wr.heap.size ≤ ub; have := UBG.out; omega) _
                  have RT := hid (RI.out.below bZ); have VE : Hid (OwnEn WZ base (.slice none 0 0) []) := OwnEn.nil _ _; have AP : Hid (∀ g, (Value.slice none 0 0).ownBlock = some g → (Value.slice a0 NF c0).ownBlock ≠ some g) := fun g e => by cases e
                  have OC : Hid ((Value.slice none 0 0).oneCell' = true) := rfl; have HWZ := hid hWZ; clear hWZ bZ bE UBE RI XD UBD BD
                  go_upto_region 56 with fail
                  rw [← HWZ.out]; clear HWZ u1 uf1 xe3; have q4 := RT.out.rr.cell 4; have z0 := UZ.out.cell 0; have z1 := UZ.out.cell 1; have z2 := UZ.out.cell 2
                  go_wp2_with (at_builtin; refine lockH ?_)
                  refine hid ?_; refine append_out base _ rfl (.tmp 236) (.tmp 238) rfl vO O (⟨0, X3, []⟩, .slice none 0 0) rfl RT.out.ou RT.out.sz rfl OC.out (by have := OL.out; omega) ?_; intro v9 w9 hO9 hg9; obtain ⟨a9, k9, hv9⟩ := or_slice hO9; obtain ⟨N9, hN9⟩ : ∃ N, N = (O ++ [((⟨0, X3, []⟩ : Ot), (.slice none 0 0 : Value))]).length := ⟨_, rfl⟩; rw [← hN9] at hv9; subst hv9; clear hN9; have RN := hid (RT.out.out hg9 VE.out AP.out hO9); have r9 := RT.out.rr1 hg9; have c9 := r9.cell 4; have f9 := r9.free 4; have ST := hid (ST0.out); clear hO9 hg9 r9 RT UZ VE AP q4 z0 z1 z2
                  go_wp2
                  go_roundw
                  case rel => exact ⟨i + 1, t, (Value.slice a0 NF c0), (Value.slice a NR cap), Q, .slice a9 N9 k9, O ++ [(⟨0, X3, []⟩, .slice none 0 0)], by omega, by go_num, by rw [List.map_append]; exact RUN.out.next (by rw [← HOP.out]; exact ST.out), RN.out⟩
                  case measure => simp [intOf]; omega
             · as_aux_lemma =>
                obtain ⟨L, S, hS, hLS⟩ := srt_ex t.all; obtain ⟨fe, hfe1, hfe2⟩ := fe_ex TK.out oq; have HLS : Hid (SrtOf t.all L) := ⟨S, hS, hLS⟩; have HFE := hid hfe1; have ST0 : Hid (Stp t ⟨6, ky, tx, oq, til, lm⟩ t ⟨0, ⟨#[]⟩, (scN lm fe L ky til L.length)⟩) := .scan L fe rfl LT.out AH.out HLS.out hfe1; have hlen : NF + cntR R NR = t.all.length := by have := AL.out; have := HCNT.out; omega
                have KS := hid (sScn SQ FL a0 NF c0 (enA t.fr) a NR cap R (by have := NRB.out; omega) (by have := TK.out.cnt; omega) HZ0.out HNIL.out (by rw [HALL.out]; exact fun e he => (TK.out.fit e he).2.2.1) ky til oq lm fe (by rw [HALL.out]; exact hfe2) S (by rw [HALL.out, hlen]; exact hS) WB (HE.out.below BWB.out) (HNN.out.below BWB.out)); rw [← hLS, hlen, ← HLS.out.len] at KS; clear hS hLS hfe1 hfe2 hlen
                go_wp2_with fail
                refine KS.out.mono ?_
                rintro e w5 ⟨⟨v5, rfl, hO5⟩, hb5⟩
                obtain ⟨a6, c6, hv5⟩ := hO5.slice; obtain ⟨N5, hN5⟩ : ∃ N, N = (scN lm fe L ky til L.length).length := ⟨_, rfl⟩; rw [← hN5] at hv5; subst hv5; have UB5 := UB.out.below hb5 UB.out.lt; have B5 := BWB.out.trans (hb5.mono BWB.out.size); have u2 := UB5.cell 2; have uf2 := UB5.free 2; obtain ⟨WZ, hWZ⟩ : ∃ W, W = w5.setCell ⟨ub, 2, none⟩ (.slice a6 N5 c6) := ⟨_, rfl⟩; have UZ : Hid (RA WZ ub 41 #[.int .i64 0, .string ⟨#[]⟩, .slice a6 N5 c6]) := by rw [hWZ]; exact UB5.set 2 _
                have bZ : Below wr.heap.size wr WZ := by rw [hWZ]; exact B5.setCell (by show wr.heap.size ≤ ub; have := UBG.out; omega) _
                have RT := hid (RI.out.below bZ); have VE : Hid (OwnEn WZ base (.slice a6 N5 c6) (scN lm fe L ky til L.length)) := by rw [hWZ]; exact OwnEn.baseUp (hO5.keep fun g cs e r => r.other _ _ (row_ne r UB5 (by decide))) RWB.out.sz
                have AP : Hid (∀ g, (Value.slice a6 N5 c6).ownBlock = some g → (Value.slice a0 NF c0).ownBlock ≠ some g) := fun g e => own_lt RWB.out.fr hO5 e; have OC : Hid ((Value.slice a6 N5 c6).oneCell' = true) := rfl; have HWZ := hid hWZ; clear hWZ bZ B5 UB5 hO5 hb5 KS hN5 RI p0 p1 p2 p3 p4 p5 b0 b1 b2 b3 UB OB RWB
                go_upto_region 56 with fail
                rw [← HWZ.out]; clear HWZ u2 uf2; have q4 := RT.out.rr.cell 4; have z0 := UZ.out.cell 0; have z1 := UZ.out.cell 1; have z2 := UZ.out.cell 2
                go_wp2_with (at_builtin; refine lockH ?_)
                refine hid ?_; refine append_out base _ rfl (.tmp 236) (.tmp 238) rfl vO O (⟨0, ⟨#[]⟩, (scN lm fe L ky til L.length)⟩, .slice a6 N5 c6) rfl RT.out.ou RT.out.sz rfl OC.out (by have := OL.out; omega) ?_; intro v9 w9 hO9 hg9; obtain ⟨a9, k9, hv9⟩ := or_slice hO9; obtain ⟨N9, hN9⟩ : ∃ N, N = (O ++ [((⟨0, ⟨#[]⟩, (scN lm fe L ky til L.length)⟩ : Ot), (.slice a6 N5 c6 : Value))]).length := ⟨_, rfl⟩; rw [← hN9] at hv9; subst hv9; clear hN9; have RN := hid (RT.out.out hg9 VE.out AP.out hO9); have r9 := RT.out.rr1 hg9; have c9 := r9.cell 4; have f9 := r9.free 4; have ST := hid (ST0.out); clear hO9 hg9 r9 RT UZ VE AP q4 z0 z1 z2
                go_wp2
                go_roundw
                case rel => exact ⟨i + 1, t, (Value.slice a0 NF c0), (Value.slice a NR cap), Q, .slice a9 N9 k9, O ++ [(⟨0, ⟨#[]⟩, (scN lm fe L ky til L.length)⟩, .slice a6 N5 c6)], by omega, by go_num, by rw [List.map_append]; exact RUN.out.next (by rw [← HOP.out]; exact ST.out), RN.out⟩
                case measure => simp [intOf]; omega
       have k1 : (kd == 1) = false := by simpa using hk1
       have k2 : (kd == 2) = false := by simpa using hk2
       have k3 : (kd == 3) = false := by simpa using hk3
       have k4 : (kd == 4) = false := by simpa using hk4
       have k5 : (kd == 5) = false := by simpa using fun q => hk56 (.inl q)
       have k6 : (kd == 6) = false := by simpa using fun q => hk56 (.inr q)
       have OT : Hid (kd ≠ 1 ∧ kd ≠ 2 ∧ kd ≠ 3 ∧ kd ≠ 4 ∧ kd ≠ 5 ∧ kd ≠ 6) := ⟨hk1, hk2, hk3, hk4, fun q => hk56 (.inl q), fun q => hk56 (.inr q)⟩; clear hk1 hk2 hk3 hk4 hk56
       as_aux_lemma =>
        have ST0 : Hid (Stp t ⟨kd, ky, tx, oq, til, lm⟩ t ⟨1, ⟨#[]⟩, []⟩) := .other OT.out.1 OT.out.2.1 OT.out.2.2.1 OT.out.2.2.2.1 OT.out.2.2.2.2.1 OT.out.2.2.2.2.2; obtain ⟨WZ, hWZ⟩ : ∃ W, W = WB.setCell ⟨ub, 0, none⟩ (.int .i64 1) := ⟨_, rfl⟩; have bZ : Below wr.heap.size wr WZ := by rw [hWZ]; exact BWB.out.setCell (by show wr.heap.size ≤ ub; have := UBG.out; omega) _
        have UZ : Hid (RA WZ ub 41 #[.int .i64 1, .string ⟨#[]⟩, .slice none 0 0]) := by rw [hWZ]; exact UB.out.set 0 _
        have RT := hid (RI.out.below bZ); have VE : Hid (OwnEn WZ base (.slice none 0 0) []) := OwnEn.nil _ _; have AP : Hid (∀ g, (Value.slice none 0 0).ownBlock = some g → (Value.slice a0 NF c0).ownBlock ≠ some g) := fun g e => by cases e
        have OC : Hid ((Value.slice none 0 0).oneCell' = true) := rfl; have u0 := UB.out.cell 0; have uf := UB.out.free 0; clear bZ RI
        go_upto_region 56 with fail
        rw [← hWZ]; clear hWZ u0 uf p0 p1 p2 p3 p4 p5 UB OB b0 b1 b2 b3; have q4 := RT.out.rr.cell 4; have z0 := UZ.out.cell 0; have z1 := UZ.out.cell 1; have z2 := UZ.out.cell 2
        go_wp2_with (at_builtin; refine lockH ?_)
        refine hid ?_; refine append_out base _ rfl (.tmp 236) (.tmp 238) rfl vO O (⟨1, ⟨#[]⟩, []⟩, .slice none 0 0) rfl RT.out.ou RT.out.sz rfl OC.out (by have := OL.out; omega) ?_; intro v9 w9 hO9 hg9; obtain ⟨a9, k9, hv9⟩ := or_slice hO9; obtain ⟨N9, hN9⟩ : ∃ N, N = (O ++ [((⟨1, ⟨#[]⟩, []⟩ : Ot), (.slice none 0 0 : Value))]).length := ⟨_, rfl⟩; rw [← hN9] at hv9; subst hv9; clear hN9; have RN := hid (RT.out.out hg9 VE.out AP.out hO9); have r9 := RT.out.rr1 hg9; have c9 := r9.cell 4; have f9 := r9.free 4; have ST := hid (ST0.out); clear hO9 hg9 r9 RT UZ VE AP q4 z0 z1 z2
        go_wp2
        go_roundw
        case rel => exact ⟨i + 1, t, (Value.slice a0 NF c0), (Value.slice a NR cap), Q, .slice a9 N9 k9, O ++ [(⟨1, ⟨#[]⟩, []⟩, .slice none 0 0)], by omega, by go_num, by rw [List.map_append]; exact RUN.out.next (by rw [← HOP.out]; exact ST.out), RN.out⟩
        case measure => simp [intOf]; omega
     · have d0 : ¬ (i : Int) < (n : Int) := by omega
       have ei : i = n := by omega
       have b0 := RI0.out.tb.cell 0; have b1 := RI0.out.tb.cell 1; have b2 := RI0.out.tb.cell 2; have b3 := RI0.out.tb.cell 3
       obtain ⟨aF, nF, cF, hvF⟩ : ∃ a n c, vF = .slice a n c := by obtain ⟨a, c, h⟩ := RI0.out.fr.slice; exact ⟨a, _, c, h⟩
       obtain ⟨aR, nR, cR, hvR⟩ : ∃ a n c, vR = .slice a n c := by obtain ⟨a, c, h⟩ := or_slice RI0.out.rs; exact ⟨a, _, c, h⟩
       obtain ⟨aO, nO, cO, hvO⟩ : ∃ a n c, vO = .slice a n c := by obtain ⟨a, c, h⟩ := or_slice RI0.out.ou; exact ⟨a, _, c, h⟩
       subst hvF hvR hvO; have rr := RI0.out.rr
       have TH : Hid (wr.there rb 0 4) := (FRow.of (n := 5) (f := fun p => (#[.int .i64 0, .int .i64 0, .slice none 0 0, .slice none 0 0, .slice aO nO cO] : Array Value).getD p undef) rr rfl (fun p hp => by
        match p, hp with
        | 0, _ => rfl
        | 1, _ => rfl
        | 2, _ => rfl
        | 3, _ => rfl
        | 4, _ => rfl)).there 0 4 (by omega)
       obtain ⟨W8, hW8⟩ : ∃ W, W = ((((wr.setCell ⟨rb, 0, none⟩ (.int .i64 t.sq)).setCell ⟨rb, 1, none⟩ (.int .i64 t.fl)).setCell ⟨rb, 2, none⟩ (.slice aF nF cF)).setCell ⟨rb, 3, none⟩ (.slice aR nR cR)) := ⟨_, rfl⟩; have R8 : RA W8 rb 35 #[.int .i64 t.sq, .int .i64 t.fl, .slice aF nF cF, .slice aR nR cR, .slice aO nO cO] := by rw [hW8]; exact (((rr.set 0 _).set 1 _).set 2 _).set 3 _
       have ok : ∀ {g ty cs}, RA wr g ty cs → g ≠ rb → RA W8 g ty cs := fun {g ty cs} r hne => by rw [hW8]; exact (((r.other _ _ hne).other _ _ hne).other _ _ hne).other _ _ hne
       have X8 : Hid (RA W8 X 35 #[.int .i64 0, .int .i64 0, .slice none 0 0, .slice none 0 0, .slice none 0 0]) := ok RI0.out.res RI0.out.nx.2.2.2.2; have nb : w.heap.size ≤ rb := RI0.out.nx.2.2.1; have B8 : Hid (Below w.heap.size w W8) := by rw [hW8]; exact (((RI0.out.bl.setCell nb _).setCell nb _).setCell nb _).setCell nb _
       have V8 : Hid (RtV W8 w.heap.size t (.slice aF nF cF) (.slice aR nR cR) Q (.slice aO nO cO) O) := by
        have hbs : w.heap.size ≤ base := RI0.out.nx.2.2.2.1; exact ⟨OwnEn.baseUp (RI0.out.fr.keep fun g cs e r => ok r (row_ne r rr (by decide))) hbs, or_baseUp (or_keep RI0.out.rs fun g cs e r => ok r (row_ne r rr (by decide))) hbs, fun p hp => OwnEn.baseUp ((RI0.out.ru p hp).keep fun g cs e r => ok r (row_ne r rr (by decide))) hbs, RI0.out.ap, RI0.out.eq, or_baseUp (or_keep RI0.out.ou fun g cs e r => ok r (row_ne r rr (by decide))) hbs, fun p hp => OwnEn.baseUp ((RI0.out.oe p hp).keep fun g cs e r => ok r (row_ne r rr (by decide))) hbs⟩
       have RUN2 : Hid (Rns8 o t0 n t (O.map Prod.fst)) := by rw [← ei]; exact RUN.out
       have HW8 := hid hW8; have y0 := R8.cell 0; have y1 := R8.cell 1; have y2 := R8.cell 2; have y3 := R8.cell 3; have y4 := R8.cell 4; clear ok rr nb hW8 R8 ei RI0 RUN
       go_upto_region 58 with (refine wpList_store_mid rfl 28 (.tmp 242) (.tmp 241) rfl rb 0 #[.int .i64 t.sq, .int .i64 t.fl, .slice aF nF cF, .slice aR nR cR] rfl rfl TH.out (by kernel_rfl) (by simp [Value.oneCell']) ?_)
       rw [show wr.setCells rb 0 (#[.int .i64 t.sq, .int .i64 t.fl, .slice aF nF cF, .slice aR nR cR] : Array Value).toList = W8 from HW8.out.symm]; clear TH HW8 b0 b1 b2 b3
       go_wp2_with (refine wpList_store_row rfl 35 (.tmp 4) (.tmp 243) rfl X #[.int .i64 t.sq, .int .i64 t.fl, .slice aF nF cF, .slice aR nR cR, .slice aO nO cO] rfl rfl _ _ X8.out (by kernel_rfl) rfl (by simp [Value.oneCell']) ?_)
       have hx : w.heap.size ≤ X := by have := HXX.out; omega
       have X9 := X8.out.setRow #[.int .i64 t.sq, .int .i64 t.fl, .slice aF nF cF, .slice aR nR cR, .slice aO nO cO]; refine bodyPost_ret (v := .agg #[.int .i64 t.sq, .int .i64 t.fl, .slice aF nF cF, .slice aR nR cR, .slice aO nO cO]) ?_ rfl ⟨⟨t, _, _, Q, _, O, rfl, RUN2.out, ?_⟩, below_setRow B8.out _ _ hx⟩
       · exact results_cell_row Tryz.results9 _ _ X _ _ _ _ rfl X9 Tryz.underlying35 rfl (by kernel_rfl)
       · have ok : ∀ {g ty cs}, RA W8 g ty cs → ty ≠ 35 → RA (W8.setRow X #[.int .i64 t.sq, .int .i64 t.fl, .slice aF nF cF, .slice aR nR cR, .slice aO nO cO]) g ty cs := fun {g ty cs} r hne => r.otherRow X _ (row_ne r X8.out hne)
         exact ⟨V8.out.fr.keep fun g cs e r => ok r (by decide), or_keep V8.out.rs fun g cs e r => ok r (by decide), fun p hp => (V8.out.ru p hp).keep fun g cs e r => ok r (by decide), V8.out.ap, V8.out.eq, or_keep V8.out.ou fun g cs e r => ok r (by decide), fun p hp => (V8.out.oe p hp).keep fun g cs e r => ok r (by decide)⟩
theorem sRunTb (ad : Option Addr) (n cp : Nat) (o : Nat → TOp) (hn : n ≤ 2000) (w : World) (h : Tops w ad n cp o) :
 Calls Tryz.prog 9 #[.agg #[.int .i64 0, .int .i64 0, .slice none 0 0, .slice none 0 0], .slice ad n cp] w fun e w' => RtQ w o n e w' :=
 sRunTbG 0 0 none 0 0 (enA []) none 0 0 (fun _ => ⟨none, 0, 0, enA []⟩) tab0 (fun _ => rfl) (fun k hk => absurd hk (Nat.not_lt_zero _)) ad n cp o hn w ⟨Nat.le_refl _, .inl rfl⟩ ⟨Nat.le_refl _, .inl rfl, fun k hk => absurd hk (Nat.not_lt_zero _)⟩ h
end Go.Proofs.YtcbmgpdpjagaoaaGreat
