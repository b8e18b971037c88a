import Derived.Test.YtngkiokibldfjaaGreatDoorPX
import Derived.Test.YtngkiokibldfjaaGreatDoorIStl
import Derived.Deep.RegionHeld3
import Derived.Test.YtngkiokibldfjaaGreatDoorPW
namespace Go.Proofs.YtngkiokibldfjaaGreatDoor
open Go.RowKit Go.Shelf
set_option linter.unusedVariables false
attribute [local go_sem] Oper.semAt_some
/-! What a scrub tells: the program's scrub. -/
theorem endN_succ {L : List Fr} {k : Nat} {f : Fr} (h : L[k]? = some f) : endN L (k + 1) = f.next := by show (match L[k]? with | some f => f.next | none => endN L k) = _; rw [h]
/-- behind k records -/
structure ScI (X : Nat) (w : World) (d : ByteArray) (k : Nat) (W : World) (v : Value) (A : List ByteArray) : Prop where
  s : RowAt W w.heap.size 60 #[.pointer (some ⟨X, 0, none⟩)]
  t : RowAt W (w.heap.size + 1) 23 #[v]
  a : RowAt W (w.heap.size + 2) 2 #[.int .i64 (endN (sc d 0) k : Nat)]
  o : OwnStrs W (w.heap.size + 3) v A
  e : tellN A (mkF d (endN (sc d 0) k) k) = scrN d
  l : A.length ≤ 100
  b : Below w.heap.size w W
theorem ScI.obj {X : Nat} {w A B : World} {d : ByteArray} {k : Nat} {v : Value} {L : List ByteArray} {row : Option Nat} (h : ScI X w d k A v L) (hg : A.grownBy B row) (hr : ∀ r, row = some r → w.heap.size ≤ r ∧ ∃ o, A.heap[r]? = some o ∧ o.isCells = false) : ScI X w d k B v L := by
  have kp : ∀ {b t cs}, RowAt A b t cs → RowAt B b t cs := fun {b t cs} q => (hg.block b q.lt (fun e => by
    obtain ⟨_, o, ho, hc⟩ := hr b e.symm
    have := q.symm.trans ho
    cases this
    cases hc)).trans q
  exact ⟨kp h.s, kp h.t, kp h.a, orKeep h.o fun g cs _ q => kp q, h.e, h.l, h.b.grown hg h.b.size (fun r e => (hr r e).1)⟩
theorem ScI.below {X : Nat} {w A B : World} {d : ByteArray} {k : Nat} {v : Value} {L : List ByteArray} (h : ScI X w d k A v L) (hb : Below A.heap.size A B) : ScI X w d k B v L := h.obj (below_grown hb none) fun r e => by cases e
theorem ScI.tell {X : Nat} {w A B : World} {d : ByteArray} {k : Nat} {v : Value} {L : List ByteArray} (h : ScI X w d k A v L) (hg : TG [9] false (w.heap.size + 3) A B) {v' : Value} {L' : List ByteArray} (ho : OwnStrs B (w.heap.size + 3) v' L') : RowAt B w.heap.size 60 #[.pointer (some ⟨X, 0, none⟩)] ∧ RowAt B (w.heap.size + 1) 23 #[v] ∧ RowAt B (w.heap.size + 2) 2 #[.int .i64 (endN (sc d 0) k : Nat)] ∧ Below w.heap.size w B :=
  ⟨hg.row _ _ _ h.s (by decide), hg.row _ _ _ h.t (by decide), hg.row _ _ _ h.a (by decide), ⟨hg.os.trans h.b.os, hg.tape.trans h.b.tape, hg.output.trans h.b.output, Nat.le_trans h.b.size hg.size, fun j hj => (hg.low j (by omega)).trans (h.b.block j hj)⟩⟩
theorem scrub_ret {R : Ending → World → Prop} {W' : World} {D : Nat} {tm : Array Value} {v : Value} (hK : W'.heap[D]? = some (.deferred (some []))) (h2 : tm.getD 2 undef = v) (h : R (.returned v) (W'.putObj D (.deferred none))) :
    bodyPostM Fence.wide 5 Tryz.prog Tryz.f53 R Exit.ret { tmps := tm, defers := [{ target := .collected D, args := #[] }] } W' := by
  refine ⟨by simp, .inl ⟨_, _, rfl, run_takeDeferred hK, ?_⟩⟩
  exact ⟨v, by rw [results_tmp (t := 2) rfl, h2], h⟩
def ScrQ (d : ByteArray) (w : World) (e : Ending) (w' : World) : Prop := (∃ v, e = .returned v ∧ OwnStrs w' w.heap.size v (scrN d)) ∧ Below w.heap.size w w'
set_option maxRecDepth 100000 in
set_option maxHeartbeats 4000000 in
theorem iScrub (ea eb : Addr) (X : Nat) (d : ByteArray) (sy : Nat) (NK : List ByteArray) (w : World) (hT : TB w) (h : ShAt ea eb X d sy NK w) :
    Calls Tryz.prog 53 #[.pointer (some ⟨X, 0, none⟩)] w fun e w' => ScrQ d w e w' := by
  refine (callsIn_wide (n := 5)).1 ?_
  obtain ⟨hv, pv, rv, lv, n, m, mb, P, hS⟩ := h
  have HS := hid hS
  have HT := hid hT
  have XW : Hid (X < w.heap.size) := hS.tb.blk.lt
  have D0 : Hid (d.size ≤ 300000) := hS.bd
  have G0 : Hid (2 < w.heap.size) := hT.glob
  have KT := fun (A : List ByteArray) hA p e hpe he v W hb hT h0 hO => hid (iTell X d D0.out A hA p e hpe he (w.heap.size + 3) v W hb (by have := XW.out; omega) hT (by have := G0.out; omega) h0 hO)
  have HA : Hid (P.map Prod.fst = allR d) := hS.al
  have HK := hid hS.fk
  have PN : Hid (P.length ≤ 300000) := by
    have := congrArg List.length hS.al
    rw [List.length_map] at this
    have h2 := rg_len d 300000 0
    unfold allR at this
    show _ ≤ _
    omega
  clear hS hT
  obtain ⟨W0, hW0⟩ : ∃ W, W = ((w.alloc (.cells #[.pointer (some ⟨X, 0, none⟩)] 60)).alloc (.cells #[.slice none 0 0] 23)).alloc (.cells #[.int .i64 0] 2) := ⟨_, rfl⟩
  have Z0 : Hid (W0.heap.size = w.heap.size + 3) := by rw [hW0]; show _ = _; simp only [World.size_alloc]
  have I0 : Hid (ScI X w d 0 W0 (.slice none 0 0) []) := by
    refine ⟨?_, ?_, ?_, ⟨rfl, .inl ⟨rfl, rfl⟩⟩, tell_scr d, by simp, ?_⟩
    · rw [hW0]; exact ((RowAt.new _ _ _).alloc _).alloc _
    · rw [hW0]; exact (RowAt.next _ _ _ (by rw [World.size_alloc])).alloc _
    · rw [hW0]; exact RowAt.next _ _ _ (by simp only [World.size_alloc])
    · rw [hW0]; exact (((Below.refl _ w).alloc (Nat.le_refl _) _).alloc (by simp) _).alloc (by simp; omega) _
  refine callsIn_of_wp_marks Tryz.func53 rfl trivial ?_ rfl
  simp only [Tryz.ntmps53, List.size_toArray, List.length_cons, List.length_nil, Nat.reduceAdd, Nat.reduceSub, Array.replicate_succ, Array.replicate_zero, List.push_toArray, List.append_toArray, List.nil_append, List.cons_append]
  refine wpIn_wide.2 ?_
  go_upto_region 3 with fail
  rw [← hW0]
  clear hW0
  have c0 : W0.cell? ⟨w.heap.size, 0, none⟩ = some (.pointer (some ⟨X, 0, none⟩)) := I0.out.s.cell 0
  go_wp2_with fail
  refine (iOrder X W0).mono ?_
  rintro e wL ⟨rfl, hwL⟩
  have bL : Below W0.heap.size W0 wL := by rw [hwL]; exact (Below.refl _ _).alloc (Nat.le_refl _) _
  have RB : Hid (RowAt wL W0.heap.size 60 #[.pointer (some ⟨X, 0, none⟩)]) := by rw [hwL]; exact RowAt.new _ _ _
  have IL := hid (I0.out.below bL)
  have PL : Hid (OwnFl wL (X + 1) rv P) := OwnFl.belowA HS.out.fl (IL.out.b.mono (Nat.le_refl _))
  have XL := RowAt.below (show RowAt w X _ _ from HS.out.tb.blk) IL.out.b XW.out
  have hsq := iOrd1 (5 - 1) X W0.heap.size (X + 1) rv _ P (by have := PN.out; omega) wL RB.out XL rfl PL.out
  have LC : Hid (w.heap.size + 3 ≤ wL.heap.size) := by have := Z0.out; have := bL.size; show _ ≤ _; omega
  obtain ⟨bo, hbo⟩ : ∃ b, b = W0.heap.size := ⟨_, rfl⟩
  rw [← hbo] at hsq ⊢
  clear hwL bL c0 I0 RB hbo XL Z0
  go_wp2_with fail
  have OL := hid (ord_len HA.out)
  refine (wpIn_wide (n := 5)).1 ?_
  refine wpIn_rangeR rfl (by decide) (gf := 93) (lb := #[.pointer (some ⟨bo, 0, none⟩)]) rfl trivial (enters_of Tryz.func93 (by kernel_rfl) rfl)
    hsq (Below.refl _ _) (fun h k => h.trans k) ?kb ?rk (fun _ => rfl) (fun k W => ∃ v A, ScI X w d k W v A) (fun _ _ _ => False) ?oI ?oX ?iR ?xR ⟨_, _, IL.out⟩
    (fun k a' W => ∃ y, a' = { tmps := #[.pointer (some ⟨X, 0, none⟩), .pointer (some ⟨w.heap.size, 0, none⟩), .slice none 0 0, .pointer (some ⟨w.heap.size + 1, 0, none⟩), .pointer (some ⟨w.heap.size + 2, 0, none⟩), undef, .pointer (some ⟨y, 0, none⟩), .pointer (some ⟨X, 0, none⟩), .func (.func 93) #[] #[.pointer (some ⟨bo, 0, none⟩)], .int .i64 (((ordP P).getD k or0).1 : Nat), flV ((ordP P).getD k or0).2, undef, undef, undef, undef, undef, undef, undef, undef, undef, undef, undef, undef, undef, undef, undef, undef], defers := [] } ∧ RowAt W y 112 (flC ((ordP P).getD k or0).2).toArray)
    ?hAx ?assign ?body ?done ?stop
  case kb =>
    intro W l o o' hl h ho _
    exact KpF.obj h ho
  case rk =>
    intro A B h
    exact keeps_below h
  case oI =>
    rintro k A B row ⟨v, L, h⟩ hg hr
    exact ⟨v, L, h.obj hg fun r e => ⟨by have := (hr r e).1; have := LC.out; omega, (hr r e).2⟩⟩
  case oX =>
    rintro c k A B row h hg hr
    exact h
  case iR =>
    rintro k A B ⟨v, L, h⟩ hg
    exact ⟨v, L, h.below hg⟩
  case xR =>
    rintro c k A B h hg
    exact h
  case hAx =>
    rintro k a' u A B row ⟨y, he, hy⟩ hg hr
    refine ⟨y, he, (hg.block y hy.lt (fun e => ?_)).trans hy⟩
    obtain ⟨_, o, ho, hc⟩ := hr y e.symm
    have := hy.symm.trans ho
    cases this
    cases hc
  case assign =>
    rintro l k W K0 hk ⟨v, L, hI⟩ hK
    have b9 : Below W.heap.size W (W.alloc (.cells (flC ((ordP P).getD k or0).2).toArray 112)) := (Below.refl _ _).alloc (Nat.le_refl _) _
    have hK' := hK _ _ (keeps_below b9) (KpF.below b9) ⟨v, L, hI.below b9⟩ ⟨W.heap.size, rfl, RowAt.new _ _ _⟩
    clear hK b9 hk hsq
    unfold flV
    gi_wp2
    exact hK'
  case body =>
    rintro l k a' W hl hr hk ⟨v, L, hI⟩ ⟨y, rfl, hy⟩
    obtain ⟨i, j, f, he, hgk, hPi, hj⟩ := ord_at HA.out HK.out hk
    rw [he] at hy ⊢
    have hsc := (grA_at d D0.out hgk).2
    have hkl : k ≤ (sc d 0).length := by have := (List.getElem?_eq_some_iff.1 hsc).1; omega
    obtain ⟨e1, e2, e3⟩ := ((chn_sc d 0).ends k hkl).2 f hsc
    have en := endN_succ hsc
    have ms := mk_span d hsc e1
    have hIa := hI.a
    have hsz : w.heap.size + 3 ≤ W.heap.size := by have := hI.a.lt; omega
    have h0 : W.cell? ⟨X, 0, none⟩ = some (.string d) := (hI.b.cell (p := ⟨X, 0, none⟩) XW.out).trans (RowAt.cell HS.out.tb.blk 0)
    have K5 := hid (KT L hI.l (endN (sc d 0) k) f.at' e1 (by omega) v W hsz (HT.out.below (hI.b.mono (Nat.le_refl _))) h0 hI.o)
    have HI := hid hI
    have HY := hid hy
    obtain ⟨p, hp⟩ : ∃ p, p = endN (sc d 0) k := ⟨_, rfl⟩
    have HP := hid hp
    rw [← hp] at K5 hIa ms
    have c0 : W.cell? ⟨w.heap.size, 0, none⟩ = some (.pointer (some ⟨X, 0, none⟩)) := hI.s.cell 0
    have c1 : W.cell? ⟨w.heap.size + 1, 0, none⟩ = some v := hI.t.cell 0
    have c2 : W.cell? ⟨w.heap.size + 2, 0, none⟩ = some (.int .i64 (p : Nat)) := hIa.cell 0
    have y5 : W.cell? ⟨y, 5, none⟩ = some (.int .i64 (f.at' : Nat)) := hy.cell 5
    have EN := hid en
    have MS := hid ms
    obtain ⟨av, cv, hv1⟩ := hI.o.slice
    obtain ⟨nv, hnv⟩ : ∃ n, n = L.length := ⟨_, rfl⟩
    rw [← hnv] at hv1
    rw [hv1] at c1 K5
    have HV1 := hid hv1
    clear hI hy hsc hkl e1 e2 e3 en ms hIa hsz h0 hp he hgk hPi hj hv1 hnv hk hr hl hsq IL PL
    gi_wp2_with fail
    refine ⟨trivial, (CallsIn.inRound l (callsIn_wide.2 K5.out)).mono ?_⟩
    rintro e w5 ⟨v5, rfl, hO5, hG5, hN5⟩
    obtain ⟨s5, t5, a5, b5⟩ := HI.out.tell hG5 hO5
    obtain ⟨a5v, c5v, hv5⟩ := hO5.slice
    obtain ⟨n5, hn5⟩ : ∃ n, n = (tellN L (mks d (f.at' - p) p)).length := ⟨_, rfl⟩
    rw [← hn5] at hv5
    subst hv5
    have Y5 := hG5.row _ _ _ HY.out (by decide)
    have k1 : w5.cell? ⟨w.heap.size + 1, 0, none⟩ = some v := t5.cell 0
    rw [HV1.out] at k1
    have f1 := t5.free 0
    have W6r : RowAt (w5.setCell ⟨w.heap.size + 1, 0, none⟩ (.slice a5v n5 c5v)) (w.heap.size + 2) 2 #[.int .i64 (endN (sc d 0) k : Nat)] := a5.other _ _ (row_neX a5 t5 (by decide))
    have Y6 : RowAt (w5.setCell ⟨w.heap.size + 1, 0, none⟩ (.slice a5v n5 c5v)) y 112 (flC (f, j)).toArray := Y5.other _ _ (row_neX Y5 t5 (by decide))
    have k2 : (w5.setCell ⟨w.heap.size + 1, 0, none⟩ (.slice a5v n5 c5v)).cell? ⟨w.heap.size + 2, 0, none⟩ = some (.int .i64 (endN (sc d 0) k : Nat)) := W6r.cell 0
    have f2 := W6r.free 0
    have k6 : (w5.setCell ⟨w.heap.size + 1, 0, none⟩ (.slice a5v n5 c5v)).cell? ⟨y, 6, none⟩ = some (.int .i64 (f.next : Nat)) := Y6.cell 6
    have FIN : Hid (KeepsFrom wL.heap.size W ((w5.setCell ⟨w.heap.size + 1, 0, none⟩ (.slice a5v n5 c5v)).setCell ⟨w.heap.size + 2, 0, none⟩ (.int .i64 (f.next : Nat))) ∧ KpF W ((w5.setCell ⟨w.heap.size + 1, 0, none⟩ (.slice a5v n5 c5v)).setCell ⟨w.heap.size + 2, 0, none⟩ (.int .i64 (f.next : Nat))) ∧ ∃ v A, ScI X w d (k + 1) ((w5.setCell ⟨w.heap.size + 1, 0, none⟩ (.slice a5v n5 c5v)).setCell ⟨w.heap.size + 2, 0, none⟩ (.int .i64 (f.next : Nat))) v A) := by
      have g1 : w5.grownBy (w5.setCell ⟨w.heap.size + 1, 0, none⟩ (.slice a5v n5 c5v)) (some (w.heap.size + 1)) := grown_set
      have g2 : (w5.setCell ⟨w.heap.size + 1, 0, none⟩ (.slice a5v n5 c5v)).grownBy ((w5.setCell ⟨w.heap.size + 1, 0, none⟩ (.slice a5v n5 c5v)).setCell ⟨w.heap.size + 2, 0, none⟩ (.int .i64 (f.next : Nat))) (some (w.heap.size + 2)) := grown_set
      refine ⟨(KeepsFrom.trans ⟨hG5.size, fun q o _ hq ho => hN5 q o hq ho⟩ (keeps_row t5 g1)).trans (keeps_row W6r g2), (KpF.trans ⟨hG5.size, fun q cs r => hG5.row _ _ _ r (by decide)⟩ (KpF.row t5 (by decide) g1)).trans (KpF.row W6r (by decide) g2), .slice a5v n5 c5v, tellN L (mks d (f.at' - p) p), ?_, ?_, ?_, ?_, ?_, ?_, ?_⟩
      · exact (s5.other _ _ (row_neX s5 t5 (by decide))).other _ _ (row_neX (s5.other _ _ (row_neX s5 t5 (by decide))) W6r (by decide))
      · exact (t5.set 0 _).other _ _ (row_neX (t5.set 0 _) W6r (by decide))
      · rw [EN.out]; exact W6r.set 0 _
      · exact orKeep hO5 fun g cs _ r => (r.other _ _ (row_neX r t5 (by decide))).other _ _ (row_neX (r.other _ _ (row_neX r t5 (by decide))) W6r (by decide))
      · rw [EN.out, tell_app, ← MS.out, HP.out]; exact HI.out.e
      · exact tell_len _ HI.out.l
      · exact (b5.setCell (by show w.heap.size ≤ w.heap.size + 1; omega) _).setCell (by show w.heap.size ≤ w.heap.size + 2; omega) _
    clear hO5 hG5 hN5 s5 t5 a5 b5 Y5 W6r Y6 hn5
    gi_wp2
    exact FIN.out
  case done =>
    rintro D W hD ⟨v, L, hI⟩ hK
    obtain ⟨N, hN⟩ : ∃ N, N = (ordP P).length := ⟨_, rfl⟩
    rw [← hN] at hI
    have hNs : (sc d 0)[N]? = none := by
      rw [List.getElem?_eq_none]
      rw [hN, OL.out, grA_len d D0.out]
      exact Nat.le_refl _
    have hle : N ≤ (sc d 0).length := by rw [hN, OL.out, grA_len d D0.out]; exact Nat.le_refl _
    obtain ⟨e1, _⟩ := (chn_sc d 0).ends N hle
    have mt := mk_tail d hNs e1
    have hIa := hI.a
    have hsz : w.heap.size + 3 ≤ W.heap.size := by have := hI.a.lt; omega
    have h0 : W.cell? ⟨X, 0, none⟩ = some (.string d) := (hI.b.cell (p := ⟨X, 0, none⟩) XW.out).trans (RowAt.cell HS.out.tb.blk 0)
    obtain ⟨p, hp⟩ : ∃ p, p = endN (sc d 0) N := ⟨_, rfl⟩
    have HP := hid hp
    rw [← hp] at mt hIa e1
    have K5 := hid (KT L hI.l p d.size e1 (Nat.le_refl _) v W.drew hsz (HT.out.below (hI.b.mono (Nat.le_refl _)).drew) h0 hI.o.drew)
    have KZ := hid (iSize X d W.drew h0)
    have HI := hid hI
    have MT := hid mt
    have DK := hid hK
    obtain ⟨av, cv, hv1⟩ := hI.o.slice
    obtain ⟨nv, hnv⟩ : ∃ n, n = L.length := ⟨_, rfl⟩
    rw [← hnv] at hv1
    have HV1 := hid hv1
    rw [hv1] at K5
    have SS : Hid (∀ wx, RowAt wx w.heap.size 60 #[.pointer (some ⟨X, 0, none⟩)] → RowAt wx (w.heap.size + 1) 23 #[v] → RowAt wx (w.heap.size + 2) 2 #[.int .i64 (p : Nat)] → wx.cell? ⟨w.heap.size, 0, none⟩ = some (.pointer (some ⟨X, 0, none⟩)) ∧ wx.cell? ⟨w.heap.size + 1, 0, none⟩ = some (.slice av nv cv) ∧ wx.cell? ⟨w.heap.size + 2, 0, none⟩ = some (.int .i64 (p : Nat))) := fun wx s t a => ⟨s.cell 0, by rw [← hv1]; exact t.cell 0, a.cell 0⟩
    have S0 := hid (SS.out W.drew hI.s.drew hI.t.drew hIa.drew)
    have HIA := hid hIa
    have HDD : Hid (w.heap.size + 3 ≤ D) := by have := LC.out; show _ ≤ _; omega
    clear hI hNs hle e1 mt hIa hsz h0 hp hv1 hnv hK hD hsq IL PL hN
    go_wp2_with fail
    go_region_held3 (fun wx => wx.cell? ⟨w.heap.size, 0, none⟩ = some (.pointer (some ⟨X, 0, none⟩)) ∧ wx.cell? ⟨w.heap.size + 1, 0, none⟩ = some (.slice av nv cv) ∧ wx.cell? ⟨w.heap.size + 2, 0, none⟩ = some (.int .i64 (p : Nat))) (first | exact S0.out | exact S5.out | (go_keep; done))
      (first
        | (go_at_call 69; refine KZ.out.mono ?_; rintro e5 w5 ⟨rfl, hw⟩; obtain rfl := hw.symm)
        | (go_at_call 76; refine K5.out.mono ?_; rintro e5 w5 ⟨v5, rfl, hO5, hG5, hN5⟩; have O5 := hid hO5; have G5 := hid hG5; have N5 := hid hN5; have S5 := hid (SS.out w5 (hG5.row _ _ _ HI.out.s.drew (by decide)) (hG5.row _ _ _ HI.out.t.drew (by decide)) (hG5.row _ _ _ HIA.out.drew (by decide))); clear hO5 hG5 hN5))
    all_goals (try simp [Act.put])
    all_goals go_wp2
    all_goals
      have D5 : w5.heap[D]? = some (.deferred (some [])) := N5.out D _ DK.out rfl
      refine scrub_ret D5 rfl ⟨⟨_, rfl, ?_⟩, ?_⟩
      · have e : tellN L (mks d (d.size - p) p) = scrN d := by rw [← MT.out, HP.out]; exact HI.out.e
        have o : OwnStrs w5 w.heap.size v5 (scrN d) := by rw [← e]; exact orBase O5.out (by omega)
        exact orKeep o fun g cs _ r => ((grownBy_putObj' w5 D _).block g r.lt (fun q => by
          cases q
          have := r.symm.trans D5
          cases this)).trans r
      · have g := grownBy_putObj' w5 D (.deferred none)
        refine Below.grown ⟨G5.out.os.trans HI.out.b.os, G5.out.tape.trans HI.out.b.tape, G5.out.output.trans HI.out.b.output, Nat.le_trans HI.out.b.size G5.out.size, fun q hq => (G5.out.low q (by omega)).trans (HI.out.b.block q hq)⟩ g (Nat.le_trans HI.out.b.size G5.out.size) (fun q hq => by have := Option.some.inj hq; have := HDD.out; omega)
  case stop =>
    rintro D c k W hD hk h
    exact h.elim
end Go.Proofs.YtngkiokibldfjaaGreatDoor
namespace Go.Proofs.YtngkiokibldfjaaGreatDoor
open Go.RowKit
set_option linter.unusedVariables false
/-! rot of the program's shelf. -/
set_option maxRecDepth 20000 in
set_option maxHeartbeats 2000000 in
theorem iRotNo (ea eb : Addr) (X : Nat) (d : ByteArray) (sy : Nat) (NK : List ByteArray) (pa tn : Int) (hr : rotP d pa tn) (w : World) (h : ShAt ea eb X d sy NK w) :
    Calls Tryz.prog 51 #[.pointer (some ⟨X, 0, none⟩), .int .i64 pa, .int .i64 tn] w fun e w' => e = .returned (.int .i64 1) ∧ w' = w := by
  have KZ := hid (iSize X d w h.data)
  clear h
  by_cases p1 : tn < 1
  · have p2 : decide (tn < 1) = true := by simp; omega
    clear hr
    go_enter Tryz.func51, Tryz.ntmps51
    go_wp2
    go_ret
    exact ⟨rfl, rfl⟩
  · have p2 : decide (tn < 1) = false := by simp; omega
    by_cases p3 : 255 < tn
    · have p4 : decide (255 < tn) = true := by simp; omega
      clear hr
      go_enter Tryz.func51, Tryz.ntmps51
      go_wp2
      go_ret
      exact ⟨rfl, rfl⟩
    · have p4 : decide (255 < tn) = false := by simp; omega
      by_cases p5 : pa < 0
      · have p6 : decide (pa < 0) = true := by simp; omega
        clear hr
        go_enter Tryz.func51, Tryz.ntmps51
        go_wp2
        go_ret
        exact ⟨rfl, rfl⟩
      · have p6 : decide (pa < 0) = false := by simp; omega
        have p7 : (d.size : Int) ≤ pa := by unfold rotP at hr; omega
        have p8 : decide ((d.size : Int) ≤ pa) = true := by simp; omega
        clear hr
        go_enter Tryz.func51, Tryz.ntmps51
        go_wp2_with fail
        refine KZ.out.mono ?_
        rintro e5 w5 ⟨rfl, hw⟩
        obtain rfl := hw.symm
        go_wp2
        go_ret
        exact ⟨rfl, rfl⟩
set_option maxRecDepth 20000 in
set_option maxHeartbeats 4000000 in
theorem iRotYes (ea eb : Addr) (X : Nat) (d : ByteArray) (sy : Nat) (NK : List ByteArray) (hNK : NK.length ≤ 900000000) (pa tn : Int) (hr : ¬ rotP d pa tn) (w : World) (h : ShAt ea eb X d sy NK w) :
    Calls Tryz.prog 51 #[.pointer (some ⟨X, 0, none⟩), .int .i64 pa, .int .i64 tn] w fun e w' => e = .returned (.int .i64 0) ∧ ShQ ea eb X (rotN d pa.toNat tn) sy NK w w' := by
  have H := hid h
  have hd := h.bd
  have XW : Hid (X ≤ w.heap.size) := by have := h.size; show _ ≤ _; omega
  have KZ := hid (iSize X d w h.data)
  have x0 : w.cell? ⟨X, 0, none⟩ = some (.string d) := h.data
  unfold rotP at hr
  obtain ⟨k, rfl⟩ := Int.eq_ofNat_of_zero_le (show 0 ≤ pa by omega)
  obtain ⟨t, rfl⟩ := Int.eq_ofNat_of_zero_le (show 0 ≤ tn by omega)
  have hk : k < d.size := by omega
  have ch := chg_rot d k (t : Int)
  have rs := rot_size d k (t : Int)
  rw [Int.toNat_natCast]
  have KC := fun W hW => hid (iChange ea eb X d (rotN d k (t : Int)) sy k (k + 1) NK hNK (by rw [rs]; exact hd) ch (by omega) (by omega) (by rw [rs]; omega) W hW)
  obtain ⟨C, hC⟩ : ∃ C, C = grownCap w d.size 0 5 := ⟨_, rfl⟩
  obtain ⟨W3, hW3⟩ : ∃ W, W = Lib.bytesWorld w 5 d := ⟨_, rfl⟩
  have hcv : (convert 9 22 (.string d)).run Tryz.prog w = .ok (.slice (some ⟨w.heap.size, 0, none⟩) d.size C) W3 := by
    rw [hC, hW3]; exact Lib.run_convert_string_bytes w 9 22 5 d Tryz.underlying9 Tryz.underlying22 Tryz.underlying5
  obtain ⟨hOB, hb3⟩ := OwnB.conv w w.heap.size (Nat.le_refl _) d (by unfold maxLen; omega)
  rw [← hC, ← hW3] at hOB
  rw [← hW3] at hb3
  have B3 := hid hb3
  have H3 := hid (h.below hb3)
  obtain ⟨g, hg, hgl, hcell, hfree⟩ := hOB.at hk
  injection hg with hg
  injection hg with hg _ _
  rw [hg] at hOB hcv
  have GL : Hid (w.heap.size ≤ g) := by rw [← hg]; exact Nat.le_refl _
  obtain ⟨x, hx⟩ : ∃ x : Nat, x = d[k].toNat := ⟨_, rfl⟩
  have hXl : x < 256 := by rw [hx]; exact d[k].toNat_lt
  obtain ⟨Y, hY⟩ : ∃ y : Nat, y = x ^^^ t := ⟨_, rfl⟩
  have hYl : Y < 256 := by rw [hY]; exact Nat.xor_lt_two_pow (n := 8) hXl (by omega)
  have hbx : bits .xor .u8 ((x : Nat) : Int) (t : Int) = (Y : Int) := by rw [u8_xor_nat _ _ hXl (by omega), hY]
  have hwt : IntKind.u8.wrap (t : Int) = (t : Int) := by simp [IntKind.wrap, IntKind.bits, IntKind.signed]; omega
  rw [← hx] at hcell
  have eR : rotN d k (t : Int) = ⟨(d.data.toList.set k (UInt8.ofNat Y)).toArray⟩ := by
    unfold rotN
    rw [Int.toNat_natCast, byteAt_get d k hk, ← hx, ← hY]
  have DP := hOB.put k hk (UInt8.ofNat Y)
  rw [show (UInt8.ofNat Y).toNat = Y by simp; omega, ← eR] at DP
  have hct := DP.text (P := Tryz.prog) 22 9 Tryz.underlying22 Tryz.underlying5 Tryz.underlying9
  have B4 : Hid (Below w.heap.size w (W3.setCell ⟨g, k, none⟩ (.int .u8 (Y : Nat)))) := B3.out.setCell GL.out _
  obtain ⟨W4, hW4⟩ : ∃ W, W = W3.setCell ⟨g, k, none⟩ (.int .u8 (Y : Nat)) := ⟨_, rfl⟩
  rw [← hW4] at hct B4
  have H4 := hid (H.out.below B4.out)
  have HK4 := hid (KC W4 H4.out)
  have p1 : ¬ (t : Int) < 1 := by omega
  have p2 : decide ((t : Int) < 1) = false := by simp; omega
  have p3 : ¬ (255 : Int) < (t : Int) := by omega
  have p4 : decide ((255 : Int) < (t : Int)) = false := by simp; omega
  have p6 : decide ((k : Int) < 0) = false := by simp
  have p7 : ¬ (d.size : Int) ≤ (k : Int) := by omega
  have p8 : decide ((d.size : Int) ≤ (k : Int)) = false := by simp; omega
  have p9 : (k : Int) < (d.size : Int) := by omega
  have p0 : (0 : Int) ≤ (k : Int) := by omega
  have wk : IntKind.i64.wrap ((k : Int) + 1) = (k : Int) + 1 := by rw [IntKind.wrap_i64]; omega
  have ek : ((k + 1 : Nat) : Int) = (k : Int) + 1 := by omega
  rw [ek] at HK4
  obtain ⟨R, hR⟩ : ∃ R, R = rotN d k (t : Int) := ⟨_, rfl⟩
  rw [← hR] at hct HK4 ⊢
  clear hr hx hY eR DP hXl hYl hR KC ch rs hC hW3 hOB hb3 hg h ek
  go_enter Tryz.func51, Tryz.ntmps51
  go_wp2_with fail
  refine KZ.out.mono ?_
  rintro e5 w5 ⟨rfl, hw⟩
  obtain rfl := hw.symm
  go_upto_region 5 with fail
  rw [← hW4]
  clear hW4 hcv hcell hfree
  go_wp2_with fail
  refine HK4.out.out.mono ?_
  rintro e5 w5 hQ5
  obtain ⟨v5, rfl⟩ := hQ5.1
  have Q5 := hid hQ5.q
  clear hQ5 hct
  go_wp2
  go_ret
  exact ⟨rfl, Q5.out.after B4.out XW.out⟩
end Go.Proofs.YtngkiokibldfjaaGreatDoor
