import Derived.Test.YtngkiokibldfjaaGreatDoorPT
import Derived.Test.YtngkiokibldfjaaGreatDoorPW
import Derived.Deep.RegionHeld3
namespace Go.Proofs.YtngkiokibldfjaaGreatDoor
open Go.RowKit Go.Shelf
set_option linter.unusedVariables false
attribute [local go_sem] Oper.semAt_some
/-! What a compaction leaves: the program's compact. -/
theorem endN_succC {L : List Fr} {k : Nat} {f : Fr} (h : L[k]? = some f) : endN L (k + 1) = f.next := by show (match L[k]? with | some f => f.next | none => endN L k) = _; rw [h]
theorem bAtF_obj {T e : TypeId} {B b : Nat} {p : Value} {bs : List Value} {w w' : World} {row : Option Nat} (h : Lib.BuilderAtF T e B b p bs w) (hg : w.grownBy w' row) (hr : ∀ r, row = some r → ∃ o, w.heap[r]? = some o ∧ o.isCells = false) : Lib.BuilderAtF T e B b p bs w' := by
  obtain ⟨h1, v, hc, ho, hn⟩ := h
  have ne : ∀ {k cs t fz}, w.heap[k]? = some (Obj.cells cs t fz) → some k ≠ row := fun {k cs t fz} hk q => by
    obtain ⟨o, h, hf⟩ := hr k q.symm
    have := hk.symm.trans h
    cases this
    cases hf
  refine ⟨h1, v, (hg.block b (Array.getElem?_eq_some_iff.1 hc).1 (ne hc)).trans hc, World.ownsRowF.kept ho hg ?_, hn⟩
  rcases ho.2 with h0 | ⟨g, cap, cur, fz, he, _, hr', _⟩
  · left; rw [h0.1]; rfl
  · right; rw [he]; exact ne hr'
theorem BldF.obj {B b : Nat} {l : List UInt8} {w w' : World} {row : Option Nat} (h : BldF B b l w) (hg : w.grownBy w' row) (hr : ∀ r, row = some r → ∃ o, w.heap[r]? = some o ∧ o.isCells = false) : BldF B b l w' := h.imp (fun h => bAtF_obj h hg hr) (fun h => bAtF_obj h hg hr)
theorem BldF.row {B b : Nat} {l : List UInt8} {w : World} (h : BldF B b l w) : ∃ cs, RowAt w b 125 cs := by
  rcases h with ⟨_, v, hc, _⟩ | ⟨_, v, hc, _⟩
  · exact ⟨_, hc⟩
  · exact ⟨_, hc⟩
/-- what a write to a builder keeps -/
theorem oth_row {b k : Nat} {A B : World} {t : TypeId} {cs cb : Array Value} (hO : Lib.OthersKept (blRen.t 5) (some b) A B) (hb : RowAt A b 125 cb) (r : RowAt A k t cs) (h1 : t ≠ 125) (h2 : t ≠ 5) : RowAt B k t cs :=
  hO k _ r (fun q => row_neX r hb h1 (Option.some.inj q)) (fun c fz q => by injection q with _ q; exact h2 q)
theorem oth_obj {b : Nat} {A B : World} {cb : Array Value} (hO : Lib.OthersKept (blRen.t 5) (some b) A B) (hb : RowAt A b 125 cb) {k : Nat} {o : Obj} (h : A.heap[k]? = some o) (ho : o.isCells = false) : B.heap[k]? = some o :=
  hO k _ h (fun q => by
    obtain rfl := Option.some.inj q
    have := hb.symm.trans h
    cases this
    cases ho) (fun c fz q => by rw [q] at ho; cases ho)
/-- a shelf stands where a call's book-keeping ends -/
theorem ShAt.dput {ea eb : Addr} {X : Nat} {d : ByteArray} {sy : Nat} {NK : List ByteArray} {w : World} (h : ShAt ea eb X d sy NK w) {D : Nat} (hD : w.heap[D]? = some (.deferred (some []))) (hX : X ≤ D) : ShAt ea eb X d sy NK (w.putObj D (.deferred none)) := by
  obtain ⟨hv, pv, rv, lv, n, m, mb, P, S⟩ := h
  have g := grownBy_putObj' w D (.deferred none)
  have rk : ∀ {k t cs}, RowAt w k t cs → RowAt (w.putObj D (.deferred none)) k t cs := fun {k t cs} r => (g.block k r.lt (fun e => by
    obtain rfl := Option.some.inj e
    have := r.symm.trans hD
    cases this)).trans r
  have T := S.tb
  refine ⟨hv, pv, rv, lv, n, m, mb, P, ⟨rk T.blk, T.lo, Nat.le_trans T.bs g.size, orKeep T.hh fun _ _ _ r => rk r, orKeep T.hp fun _ _ _ r => rk r, T.sep, T.hn, T.hm⟩, ?_, S.lo, S.nm.keep (g.block mb S.nm.lt (fun e => ?_)), S.mx, orKeep S.fl fun _ _ _ r => rk r, S.al, S.fk, orKeep S.ls fun _ _ _ r => rk r, S.bd⟩
  · exact S.er.step (M := fun b => X ≤ b) (M' := fun b => X ≤ b) ⟨g.os, g.tape, g.output, g.size, fun b hb hm => g.block b hb (fun e => by have := Option.some.inj e; omega), fun b hb => .inl hb⟩ S.lo (fun b hb => by omega)
  · obtain ⟨es, c, hb⟩ := S.nm.row
    obtain rfl := Option.some.inj e
    have := hb.symm.trans hD
    cases this
/-- behind k records -/
structure CpI (X : Nat) (w : World) (d : ByteArray) (k : Nat) (W : World) : Prop where
  s : RowAt W w.heap.size 60 #[.pointer (some ⟨X, 0, none⟩)]
  o : BldF (w.heap.size + 1) (w.heap.size + 1) (cmpN d k).data.toList W
  b : Below w.heap.size w W
theorem CpI.obj {X : Nat} {w A B : World} {d : ByteArray} {k : Nat} {row : Option Nat} (h : CpI X w d k A) (hg : A.grownBy B row) (hr : ∀ r, row = some r → w.heap.size ≤ r ∧ ∃ o, A.heap[r]? = some o ∧ o.isCells = false) : CpI X w d k B := by
  refine ⟨(hg.block _ h.s.lt (fun e => ?_)).trans h.s, h.o.obj hg fun r e => (hr r e).2, h.b.grown hg h.b.size (fun r e => (hr r e).1)⟩
  obtain ⟨_, o, ho, hc⟩ := hr _ e.symm
  have := h.s.symm.trans ho
  cases this
  cases hc
theorem CpI.below {X : Nat} {w A B : World} {d : ByteArray} {k : Nat} (h : CpI X w d k A) (hb : Below A.heap.size A B) : CpI X w d k B := h.obj (below_grown hb none) fun r e => by cases e
theorem compact_ret {R : Ending → World → Prop} {W' : World} {D : Nat} {tm : Array Value} (hK : W'.heap[D]? = some (.deferred (some []))) (h : R (.returned (.tuple #[])) (W'.putObj D (.deferred none))) :
    bodyPostM Fence.wide 5 Tryz.prog Tryz.f54 R Exit.ret { tmps := tm, defers := [{ target := .collected D, args := #[] }] } W' := by
  refine ⟨by simp, .inl ⟨_, _, rfl, run_takeDeferred hK, ?_⟩⟩
  exact ⟨_, results_none rfl _ _ _, h⟩
set_option maxRecDepth 100000 in
set_option maxHeartbeats 4000000 in
theorem iCompact (ea eb : Addr) (X : Nat) (d : ByteArray) (sy : Nat) (NK : List ByteArray) (hNK : NK.length ≤ 900000000) (w : World) (h : ShAt ea eb X d sy NK w) :
    Calls Tryz.prog 54 #[.pointer (some ⟨X, 0, none⟩)] w fun e w' => Ret e ∧ ShQ ea eb X (cmpN d (sc d 0).length) (cmpN d (sc d 0).length).size NK w w' := by
  refine (callsIn_wide (n := 5)).1 ?_
  have H := hid h
  obtain ⟨hv, pv, rv, lv, n, m, mb, P, hS⟩ := h
  have HS := hid hS
  have XW : Hid (X < w.heap.size) := hS.tb.blk.lt
  have D0 : Hid (d.size ≤ 300000) := hS.bd
  have HA : Hid (P.map Prod.fst = allR d) := hS.al
  have HK := hid hS.fk
  have HNK := hid hNK
  have PN : Hid (P.length ≤ 300000) := by
    have := congrArg List.length hS.al
    rw [List.length_map] at this
    have h2 := rg_len d 300000 0
    unfold allR at this
    show _ ≤ _
    omega
  clear hS hNK
  obtain ⟨W0, hW0⟩ : ∃ W, W = (w.alloc (.cells #[.pointer (some ⟨X, 0, none⟩)] 60)).alloc (.cells #[.pointer none, .slice none 0 0] 125) := ⟨_, rfl⟩
  have Z0 : Hid (W0.heap.size = w.heap.size + 2) := by rw [hW0]; show _ = _; simp only [World.size_alloc]
  have I0 : Hid (CpI X w d 0 W0) := by
    refine ⟨?_, ?_, ?_⟩
    · rw [hW0]; exact (RowAt.new _ _ _).alloc _
    · rw [hW0]
      have q := bldNew (w.alloc (.cells #[.pointer (some ⟨X, 0, none⟩)] 60))
      rw [World.size_alloc] at q
      exact BldF.of q
    · rw [hW0]; exact ((Below.refl _ w).alloc (Nat.le_refl _) _).alloc (by simp) _
  refine callsIn_of_wp_marks Tryz.func54 rfl trivial ?_ rfl
  simp only [Tryz.ntmps54, List.size_toArray, List.length_cons, List.length_nil, Nat.reduceAdd, Nat.reduceSub, Array.replicate_succ, Array.replicate_zero, List.push_toArray, List.append_toArray, List.nil_append, List.cons_append]
  refine wpIn_wide.2 ?_
  go_upto_region 2 with fail
  rw [← hW0]
  clear hW0
  have c0 : W0.cell? ⟨w.heap.size, 0, none⟩ = some (.pointer (some ⟨X, 0, none⟩)) := I0.out.s.cell 0
  go_wp2_with fail
  refine (iOrder X W0).mono ?_
  rintro e wL ⟨rfl, hwL⟩
  have bL : Below W0.heap.size W0 wL := by rw [hwL]; exact (Below.refl _ _).alloc (Nat.le_refl _) _
  have RB : Hid (RowAt wL W0.heap.size 60 #[.pointer (some ⟨X, 0, none⟩)]) := by rw [hwL]; exact RowAt.new _ _ _
  have IL := hid (I0.out.below bL)
  have PL : Hid (OwnFl wL (X + 1) rv P) := OwnFl.belowA HS.out.fl (IL.out.b.mono (Nat.le_refl _))
  have XL := RowAt.below (show RowAt w X _ _ from HS.out.tb.blk) IL.out.b XW.out
  have hsq := iOrd1 (5 - 1) X W0.heap.size (X + 1) rv _ P (by have := PN.out; omega) wL RB.out XL rfl PL.out
  have LC : Hid (w.heap.size + 2 ≤ wL.heap.size) := by have := Z0.out; have := bL.size; show _ ≤ _; omega
  obtain ⟨bo, hbo⟩ : ∃ b, b = W0.heap.size := ⟨_, rfl⟩
  rw [← hbo] at hsq ⊢
  clear hwL bL c0 I0 RB hbo XL Z0
  go_wp2_with fail
  have OL := hid (ord_len HA.out)
  refine (wpIn_wide (n := 5)).1 ?_
  refine wpIn_rangeR rfl (by decide) (gf := 93) (lb := #[.pointer (some ⟨bo, 0, none⟩)]) rfl trivial (enters_of Tryz.func93 (by kernel_rfl) rfl)
    hsq (Below.refl _ _) (fun h k => h.trans k) ?kb ?rk (fun _ => rfl) (fun k W => CpI X w d k W) (fun _ _ _ => False) ?oI ?oX ?iR ?xR IL.out
    (fun k a' W => ∃ y, a' = { tmps := #[.pointer (some ⟨X, 0, none⟩), .pointer (some ⟨w.heap.size, 0, none⟩), .pointer (some ⟨w.heap.size + 1, 0, none⟩), .int .i64 (((ordP P).getD k or0).1 : Nat), .pointer (some ⟨y, 0, none⟩), .pointer (some ⟨X, 0, none⟩), .func (.func 93) #[] #[.pointer (some ⟨bo, 0, none⟩)], .int .i64 (((ordP P).getD k or0).1 : Nat), flV ((ordP P).getD k or0).2, undef, undef, undef, undef, undef, undef, undef, undef, undef, undef, undef, undef, undef, undef, undef, undef, undef, undef, undef, undef, undef, undef, undef, undef, undef, undef, undef, undef, undef, undef, undef, undef, undef, undef, undef, undef, undef, undef, undef, undef, undef, undef, undef], defers := [] } ∧ RowAt W y 112 (flC ((ordP P).getD k or0).2).toArray)
    ?hAx ?assign ?body ?done ?stop
  case kb =>
    intro W l o o' hl h ho _
    exact KpF.obj h ho
  case rk =>
    intro A B h
    exact keeps_below h
  case oI =>
    rintro k A B row h hg hr
    exact h.obj hg fun r e => ⟨by have := (hr r e).1; have := LC.out; omega, (hr r e).2⟩
  case oX =>
    rintro c k A B row h hg hr
    exact h
  case iR =>
    rintro k A B h hg
    exact h.below hg
  case xR =>
    rintro c k A B h hg
    exact h
  case hAx =>
    rintro k a' u A B row ⟨y, he, hy⟩ hg hr
    refine ⟨y, he, (hg.block y hy.lt (fun e => ?_)).trans hy⟩
    obtain ⟨_, o, ho, hc⟩ := hr y e.symm
    have := hy.symm.trans ho
    cases this
    cases hc
  case assign =>
    rintro l k W K0 hk hI hK
    have b9 : Below W.heap.size W (W.alloc (.cells (flC ((ordP P).getD k or0).2).toArray 112)) := (Below.refl _ _).alloc (Nat.le_refl _) _
    have hK' := hK _ _ (keeps_below b9) (KpF.below b9) (hI.below b9) ⟨W.heap.size, rfl, RowAt.new _ _ _⟩
    clear hK b9 hk hsq
    unfold flV
    gi_wp2
    exact hK'
  case body =>
    rintro l k a' W hl hr hk hI ⟨y, rfl, hy⟩
    obtain ⟨i, j, f, he, hgk, hPi, hj⟩ := ord_at HA.out HK.out hk
    rw [he] at hy ⊢
    have hsc := (grA_at d D0.out hgk).2
    have hkl : k ≤ (sc d 0).length := by have := (List.getElem?_eq_some_iff.1 hsc).1; omega
    obtain ⟨e1, e2, e3⟩ := ((chn_sc d 0).ends k hkl).2 f hsc
    have hjl := (List.getElem?_eq_some_iff.1 hj).1
    have TK := take_iff d D0.out hgk
    have LSW : OwnNums W.drew (X + 1) 3 .i64 lv (NK.map (lxA d)) := orKeep HS.out.ls fun g cs _ r => (r.below (hI.b.mono (Nat.le_refl _)) r.lt).drew
    have hol : (NK.map (lxA d)).length = NK.length := List.length_map _
    obtain ⟨g, cL, hlv⟩ : ∃ g cL, lv = .slice (some ⟨g, 0, none⟩) NK.length cL := by
      rcases LSW.2 with ⟨_, h0⟩ | ⟨g, cap, cur, h, _⟩
      · rw [hol] at h0; omega
      · rw [hol] at h; exact ⟨g, cap, h⟩
    have kg : W.drew.cell? ⟨g, j, none⟩ = some (.int .i64 (lxA d (rcK d (some f)))) := by
      have q : OwnNums W.drew (X + 1) 3 .i64 (.slice (some ⟨g, 0, none⟩) NK.length cL) (NK.map (lxA d)) := by rw [← hlv]; exact LSW
      have := q.at j (by rw [hol]; exact hjl)
      rw [List.getD_eq_getElem?_getD, List.getElem?_map, hj] at this
      exact this
    have XR := RowAt.below (show RowAt w X _ _ from HS.out.tb.blk) hI.b XW.out
    have c0 : W.drew.cell? ⟨w.heap.size, 0, none⟩ = some (.pointer (some ⟨X, 0, none⟩)) := hI.s.drew.cell 0
    have c6 : W.drew.cell? ⟨X, 6, none⟩ = some (.slice (some ⟨g, 0, none⟩) NK.length cL) := by rw [← hlv]; exact XR.drew.cell 6
    have y7 : W.drew.cell? ⟨y, 7, none⟩ = some (.int .i64 (j : Nat)) := hy.drew.cell 7
    have y2 : W.drew.cell? ⟨y, 2, none⟩ = some (.bool f.gone) := hy.drew.cell 2
    obtain ⟨L, hL⟩ : ∃ L, L = lxA d (rcK d (some f)) := ⟨_, rfl⟩
    obtain ⟨G, hG⟩ : ∃ G, G = f.gone := ⟨_, rfl⟩
    rw [← hL] at kg TK
    rw [← hG] at y2 TK
    have d0 : (0 : Int) ≤ (j : Int) := by omega
    have d1 : (j : Int) < (NK.length : Int) := by omega
    have b1 : Below W.heap.size W W.drew := (Below.refl _ _).drew
    have PASS : Hid (¬ (L = (i : Int) ∧ G = false) → KeepsFrom wL.heap.size W W.drew ∧ KpF W W.drew ∧ CpI X w d (k + 1) W.drew) := fun q => by
      refine ⟨keeps_below b1, KpF.below b1, ?_⟩
      have := hI.below b1
      rw [TK] at q
      exact ⟨this.s, by rw [cmp_pass d k q]; exact this.o, this.b⟩
    have TAKE : Hid ((L = (i : Int) ∧ G = false) → cmpN d (k + 1) = cmpN d k ++ d.extract f.at' f.next) := fun q => by
      rw [cmp_take d k (TK.1 q)]
      have r := rec_ext ((chn_sc d 0).drop k f hsc).1
      have r2 := r.2.1
      have gg : f.gone = false := by rw [← hG]; exact q.2
      rw [gg] at r2
      unfold keyAt
      rw [hsc, r2]
    have CS := cmp_size d k hkl
    have en := ((chn_sc d 0).ends k hkl).1
    have BL := D0.out
    obtain ⟨A, hAe⟩ : ∃ A, A = f.at' := ⟨_, rfl⟩
    obtain ⟨E, hEe⟩ : ∃ E, E = f.next := ⟨_, rfl⟩
    have y5 : W.drew.drew.cell? ⟨y, 5, none⟩ = some (.int .i64 (A : Nat)) := by rw [hAe]; exact hy.drew.drew.cell 5
    have y6 : W.drew.drew.cell? ⟨y, 6, none⟩ = some (.int .i64 (E : Nat)) := by rw [hEe]; exact hy.drew.drew.cell 6
    have x0 : W.drew.drew.cell? ⟨X, 0, none⟩ = some (.string d) := XR.drew.drew.cell 0
    have c0' : W.drew.drew.cell? ⟨w.heap.size, 0, none⟩ = some (.pointer (some ⟨X, 0, none⟩)) := hI.s.drew.drew.cell 0
    rw [← hAe, ← hEe] at TAKE
    have KW := hid (bldWriteK (w.heap.size + 1) (w.heap.size + 1) (cmpN d k).data.toList (d.extract A E) W.drew.drew (hI.o.below (Below.refl _ _).drew.drew) (by rw [baLen, ByteArray.size_extract]; omega) (by have := hI.s.lt; show _ ≤ W.heap.size; omega))
    have a0 : (0 : Int) ≤ (A : Int) := by omega
    have a1 : (A : Int) ≤ (E : Int) := by omega
    have a2 : (E : Int) ≤ (d.size : Int) := by omega
    have HI := hid hI
    have HY := hid hy
    have XX := hid XR
    have OB : Hid (∃ cb, RowAt W.drew.drew (w.heap.size + 1) 125 cb) := (hI.o.below (Below.refl _ _).drew.drew).row
    have FIN : Hid ((L = (i : Int) ∧ G = false) → ∀ w5, BldF (w.heap.size + 1) (w.heap.size + 1) ((cmpN d k).data.toList ++ (d.extract A E).data.toList) w5 → Below (w.heap.size + 1) W.drew.drew w5 → Lib.OthersKept (blRen.t 5) (some (w.heap.size + 1)) W.drew.drew w5 →
        Hid (w5.cell? ⟨w.heap.size, 0, none⟩ = some (.pointer (some ⟨X, 0, none⟩)) ∧ w5.cell? ⟨X, 0, none⟩ = some (.string d) ∧ w5.cell? ⟨y, 5, none⟩ = some (.int .i64 (A : Nat)) ∧ w5.cell? ⟨y, 6, none⟩ = some (.int .i64 (E : Nat))) ∧ Hid (KeepsFrom wL.heap.size W w5 ∧ KpF W w5 ∧ CpI X w d (k + 1) w5)) := fun q w5 h1 h2 h3 => by
      obtain ⟨cb, ob⟩ := OB.out
      have ks : ∀ {u t cs}, RowAt W u t cs → t ≠ 125 → t ≠ 5 → RowAt w5 u t cs := fun {u t cs} r n1 n2 => oth_row h3 ob r.drew.drew n1 n2
      have s5 := ks HI.out.s (by decide) (by decide)
      have x5 := ks XX.out (by decide) (by decide)
      have yy := ks HY.out (by decide) (by decide)
      have sz : W.heap.size ≤ w5.heap.size := h2.size
      refine ⟨⟨s5.cell 0, x5.cell 0, by rw [hAe]; exact yy.cell 5, by rw [hEe]; exact yy.cell 6⟩, ⟨sz, fun u o _ hu ho => oth_obj h3 ob (show W.drew.drew.heap[u]? = _ from hu) ho⟩, ⟨sz, fun u cs r => ks r (by decide) (by decide)⟩, s5, ?_, ?_⟩
      · rw [TAKE.out q]
        have e : (cmpN d k ++ d.extract A E).data.toList = (cmpN d k).data.toList ++ (d.extract A E).data.toList := by simp
        rw [e]; exact h1
      · exact (HI.out.b.drew.drew).trans (h2.mono (by omega))
    clear LSW XR hI hy b1 TK hlv hol hjl hsc hgk hPi hj he hk hsq hr hl IL PL CS en e1 e2 e3 hkl OB hL hG hAe hEe TAKE
    gi_wp2_with fail
    by_cases hB : L = (i : Int)
    · have hBt : decide (L = (i : Int)) = true := decide_eq_true hB
      cases G with
      | true =>
        have PS := hid (PASS.out fun q => by cases q.2)
        clear FIN KW
        refine wpIn_region_of (S := fun wx => wx.cell? ⟨w.heap.size, 0, none⟩ = some (.pointer (some ⟨X, 0, none⟩)) ∧ wx.cell? ⟨X, 6, none⟩ = some (.slice (some ⟨g, 0, none⟩) NK.length cL) ∧ wx.cell? ⟨y, 7, none⟩ = some (.int .i64 (j : Nat)) ∧ wx.cell? ⟨g, j, none⟩ = some (.int .i64 L) ∧ wx.cell? ⟨y, 2, none⟩ = some (.bool true)) (by kernel_rfl) (noDefer_spec (by kernel_rfl)) (fun ⟨a, w, h⟩ => h) ⟨c0, c6, y7, kg, y2⟩ (fun hHeld => ?_)
        refine wpAnyH_take (i := 0) (oi := { dst := some 9, op := Op.load 60 (Operand.tmp 1), type := 60, pos := "l07_extent.go:449", after := #[], guard := none }) (v := .pointer (some ⟨X, 0, none⟩)) rfl (by kernel_rfl) (by kernel_rfl) (by kernel_rfl) (fun _ _ _ h => h) (Or.inl ⟨by rfl, ?_⟩) (by assumption) ?_
        · intro wx hSx; (try dsimp only at hSx); go_simp
        simp only [Act.put, List.setIfInBounds_toArray, List.set_cons_zero, List.set_cons_succ]
        refine wpAnyH_take (i := 1) (oi := { dst := some 10, op := Op.nilCheck (Operand.tmp 9), type := 0, pos := "l07_extent.go:449", after := #[{ on := 0, ground := Ground.data }], guard := none }) (v := .pointer (some ⟨X, 0, none⟩)) rfl (by kernel_rfl) (by kernel_rfl) (by kernel_rfl) (fun _ _ _ h => h) (Or.inl ⟨by rfl, ?_⟩) (by assumption) ?_
        · intro wx hSx; (try dsimp only at hSx); go_simp
        simp only [Act.put, List.setIfInBounds_toArray, List.set_cons_zero, List.set_cons_succ]
        refine wpAnyH_take (i := 2) (oi := { dst := some 11, op := Op.fieldAddr 72 (Operand.tmp 10) 4, type := 0, pos := "l07_extent.go:449", after := #[{ on := 1, ground := Ground.data }], guard := none }) (v := .pointer (some ⟨X, 6, none⟩)) rfl (by kernel_rfl) (by kernel_rfl) (by kernel_rfl) (fun _ _ _ h => h) (Or.inl ⟨by rfl, ?_⟩) (by assumption) ?_
        · intro wx hSx; (try dsimp only at hSx); go_simp
        simp only [Act.put, List.setIfInBounds_toArray, List.set_cons_zero, List.set_cons_succ]
        refine wpAnyH_take (i := 3) (oi := { dst := some 12, op := Op.load 70 (Operand.tmp 11), type := 70, pos := "l07_extent.go:449", after := #[{ on := 2, ground := Ground.data }], guard := none }) (v := .slice (some ⟨g, 0, none⟩) NK.length cL) rfl (by kernel_rfl) (by kernel_rfl) (by kernel_rfl) (fun _ _ _ h => h) (Or.inl ⟨by rfl, ?_⟩) (by assumption) ?_
        · intro wx hSx; (try dsimp only at hSx); go_simp
        simp only [Act.put, List.setIfInBounds_toArray, List.set_cons_zero, List.set_cons_succ]
        refine wpAnyH_take (i := 4) (oi := { dst := some 13, op := Op.fieldAddr 112 (Operand.tmp 4) 1, type := 0, pos := "l07_extent.go:449", after := #[], guard := none }) (v := .pointer (some ⟨y, 7, none⟩)) rfl (by kernel_rfl) (by kernel_rfl) (by kernel_rfl) (fun _ _ _ h => h) (Or.inl ⟨by rfl, ?_⟩) (by assumption) ?_
        · intro wx hSx; (try dsimp only at hSx); go_simp
        simp only [Act.put, List.setIfInBounds_toArray, List.set_cons_zero, List.set_cons_succ]
        refine wpAnyH_take (i := 5) (oi := { dst := some 14, op := Op.load 3 (Operand.tmp 13), type := 3, pos := "l07_extent.go:449", after := #[{ on := 4, ground := Ground.data }], guard := none }) (v := .int .i64 (j : Nat)) rfl (by kernel_rfl) (by kernel_rfl) (by kernel_rfl) (fun _ _ _ h => h) (Or.inl ⟨by rfl, ?_⟩) (by assumption) ?_
        · intro wx hSx; (try dsimp only at hSx); go_simp
        simp only [Act.put, List.setIfInBounds_toArray, List.set_cons_zero, List.set_cons_succ]
        refine wpAnyH_take (i := 6) (oi := { dst := some 15, op := Op.indexAddr 70 (Operand.tmp 12) (Operand.tmp 14), type := 0, pos := "l07_extent.go:449", after := #[{ on := 3, ground := Ground.data }, { on := 5, ground := Ground.data }], guard := none }) (v := .pointer (some ⟨g, j, none⟩)) rfl (by kernel_rfl) (by kernel_rfl) (by kernel_rfl) (fun _ _ _ h => h) (Or.inl ⟨by rfl, ?_⟩) (by assumption) ?_
        · intro wx hSx; (try dsimp only at hSx); go_simp
        simp only [Act.put, List.setIfInBounds_toArray, List.set_cons_zero, List.set_cons_succ]
        refine wpAnyH_take (i := 7) (oi := { dst := some 16, op := Op.load 3 (Operand.tmp 15), type := 3, pos := "l07_extent.go:449", after := #[{ on := 6, ground := Ground.data }], guard := none }) (v := .int .i64 L) rfl (by kernel_rfl) (by kernel_rfl) (by kernel_rfl) (fun _ _ _ h => h) (Or.inl ⟨by rfl, ?_⟩) (by assumption) ?_
        · intro wx hSx; (try dsimp only at hSx); go_simp
        simp only [Act.put, List.setIfInBounds_toArray, List.set_cons_zero, List.set_cons_succ]
        refine wpAnyH_take (i := 8) (oi := { dst := some 17, op := Op.move (Operand.tmp 3), type := 3, pos := "l07_extent.go:449", after := #[], guard := none }) (v := .int .i64 (i : Nat)) rfl (by kernel_rfl) (by kernel_rfl) (by kernel_rfl) (fun _ _ _ h => h) (Or.inl ⟨by rfl, ?_⟩) (by assumption) ?_
        · intro wx hSx; (try dsimp only at hSx); go_simp
        simp only [Act.put, List.setIfInBounds_toArray, List.set_cons_zero, List.set_cons_succ]
        refine wpAnyH_take (i := 9) (oi := { dst := some 18, op := Op.binOp BinOp.eql 3 (Operand.tmp 16) (Operand.tmp 17) 3, type := 4, pos := "l07_extent.go:449", after := #[{ on := 7, ground := Ground.data }, { on := 8, ground := Ground.data }], guard := none }) (v := .bool true) rfl (by kernel_rfl) (by kernel_rfl) (by kernel_rfl) (fun _ _ _ h => h) (Or.inl ⟨by rfl, ?_⟩) (by assumption) ?_
        · intro wx hSx; (try dsimp only at hSx); go_simp; try exact hBt
        simp only [Act.put, List.setIfInBounds_toArray, List.set_cons_zero, List.set_cons_succ]
        refine wpAnyH_take (i := 10) (oi := { dst := some 19, op := Op.move (Operand.tmp 18), type := 4, pos := "l07_extent.go:449", after := #[{ on := 9, ground := Ground.data }], guard := none }) (v := .bool true) rfl (by kernel_rfl) (by kernel_rfl) (by kernel_rfl) (fun _ _ _ h => h) (Or.inl ⟨by rfl, ?_⟩) (by assumption) ?_
        · intro wx hSx; (try dsimp only at hSx); go_simp
        simp only [Act.put, List.setIfInBounds_toArray, List.set_cons_zero, List.set_cons_succ]
        refine wpAnyH_take (i := 11) (oi := { dst := some 20, op := Op.fieldAddr 112 (Operand.tmp 4) 0, type := 0, pos := "l07_extent.go:449", after := #[{ on := 10, ground := Ground.guard }], guard := some (10, true) }) (v := .pointer (some ⟨y, 0, none⟩)) rfl (by kernel_rfl) (by kernel_rfl) (by kernel_rfl) (fun _ _ _ h => h) (Or.inl ⟨by rfl, ?_⟩) (by assumption) ?_
        · intro wx hSx; (try dsimp only at hSx); go_simp
        simp only [Act.put, List.setIfInBounds_toArray, List.set_cons_zero, List.set_cons_succ]
        refine wpAnyH_take (i := 12) (oi := { dst := some 21, op := Op.fieldAddr 110 (Operand.tmp 20) 0, type := 0, pos := "l07_extent.go:449", after := #[{ on := 11, ground := Ground.data }, { on := 10, ground := Ground.guard }], guard := some (10, true) }) (v := .pointer (some ⟨y, 0, none⟩)) rfl (by kernel_rfl) (by kernel_rfl) (by kernel_rfl) (fun _ _ _ h => h) (Or.inl ⟨by rfl, ?_⟩) (by assumption) ?_
        · intro wx hSx; (try dsimp only at hSx); go_simp
        simp only [Act.put, List.setIfInBounds_toArray, List.set_cons_zero, List.set_cons_succ]
        refine wpAnyH_take (i := 13) (oi := { dst := some 22, op := Op.fieldAddr 108 (Operand.tmp 21) 1, type := 0, pos := "l07_extent.go:449", after := #[{ on := 12, ground := Ground.data }, { on := 10, ground := Ground.guard }], guard := some (10, true) }) (v := .pointer (some ⟨y, 2, none⟩)) rfl (by kernel_rfl) (by kernel_rfl) (by kernel_rfl) (fun _ _ _ h => h) (Or.inl ⟨by rfl, ?_⟩) (by assumption) ?_
        · intro wx hSx; (try dsimp only at hSx); go_simp
        simp only [Act.put, List.setIfInBounds_toArray, List.set_cons_zero, List.set_cons_succ]
        refine wpAnyH_take (i := 14) (oi := { dst := some 23, op := Op.load 4 (Operand.tmp 22), type := 4, pos := "l07_extent.go:449", after := #[{ on := 13, ground := Ground.data }, { on := 10, ground := Ground.guard }], guard := some (10, true) }) (v := .bool true) rfl (by kernel_rfl) (by kernel_rfl) (by kernel_rfl) (fun _ _ _ h => h) (Or.inl ⟨by rfl, ?_⟩) (by assumption) ?_
        · intro wx hSx; (try dsimp only at hSx); go_simp
        simp only [Act.put, List.setIfInBounds_toArray, List.set_cons_zero, List.set_cons_succ]
        refine wpAnyH_take (i := 15) (oi := { dst := some 24, op := Op.unOp UnOp.not 4 (Operand.tmp 23), type := 4, pos := "l07_extent.go:449", after := #[{ on := 14, ground := Ground.data }, { on := 10, ground := Ground.guard }], guard := some (10, true) }) (v := .bool false) rfl (by kernel_rfl) (by kernel_rfl) (by kernel_rfl) (fun _ _ _ h => h) (Or.inl ⟨by rfl, ?_⟩) (by assumption) ?_
        · intro wx hSx; (try dsimp only at hSx); go_simp
        simp only [Act.put, List.setIfInBounds_toArray, List.set_cons_zero, List.set_cons_succ]
        refine wpAnyH_take (i := 16) (oi := { dst := some 25, op := Op.pick (Operand.tmp 19) (Operand.tmp 24) (Operand.const (Value.bool false)), type := 4, pos := "l07_extent.go:449", after := #[{ on := 10, ground := Ground.data }, { on := 15, ground := Ground.data }], guard := none }) (v := .bool false) rfl (by kernel_rfl) (by kernel_rfl) (by kernel_rfl) (fun _ _ _ h => h) (Or.inl ⟨by rfl, ?_⟩) (by assumption) ?_
        · intro wx hSx; (try dsimp only at hSx); go_simp
        simp only [Act.put, List.setIfInBounds_toArray, List.set_cons_zero, List.set_cons_succ]
        refine wpAnyH_done (by kernel_rfl) ?_ _
        gi_wp2
        exact PS.out
      | false =>
        have FN := hid (FIN.out ⟨hB, rfl⟩)
        clear FIN PASS
        have FIN := FN
        refine wpIn_region_of (S := fun wx => wx.cell? ⟨w.heap.size, 0, none⟩ = some (.pointer (some ⟨X, 0, none⟩)) ∧ wx.cell? ⟨X, 6, none⟩ = some (.slice (some ⟨g, 0, none⟩) NK.length cL) ∧ wx.cell? ⟨y, 7, none⟩ = some (.int .i64 (j : Nat)) ∧ wx.cell? ⟨g, j, none⟩ = some (.int .i64 L) ∧ wx.cell? ⟨y, 2, none⟩ = some (.bool false)) (by kernel_rfl) (noDefer_spec (by kernel_rfl)) (fun ⟨a, w, h⟩ => h) ⟨c0, c6, y7, kg, y2⟩ (fun hHeld => ?_)
        refine wpAnyH_take (i := 0) (oi := { dst := some 9, op := Op.load 60 (Operand.tmp 1), type := 60, pos := "l07_extent.go:449", after := #[], guard := none }) (v := .pointer (some ⟨X, 0, none⟩)) rfl (by kernel_rfl) (by kernel_rfl) (by kernel_rfl) (fun _ _ _ h => h) (Or.inl ⟨by rfl, ?_⟩) (by assumption) ?_
        · intro wx hSx; (try dsimp only at hSx); go_simp
        simp only [Act.put, List.setIfInBounds_toArray, List.set_cons_zero, List.set_cons_succ]
        refine wpAnyH_take (i := 1) (oi := { dst := some 10, op := Op.nilCheck (Operand.tmp 9), type := 0, pos := "l07_extent.go:449", after := #[{ on := 0, ground := Ground.data }], guard := none }) (v := .pointer (some ⟨X, 0, none⟩)) rfl (by kernel_rfl) (by kernel_rfl) (by kernel_rfl) (fun _ _ _ h => h) (Or.inl ⟨by rfl, ?_⟩) (by assumption) ?_
        · intro wx hSx; (try dsimp only at hSx); go_simp
        simp only [Act.put, List.setIfInBounds_toArray, List.set_cons_zero, List.set_cons_succ]
        refine wpAnyH_take (i := 2) (oi := { dst := some 11, op := Op.fieldAddr 72 (Operand.tmp 10) 4, type := 0, pos := "l07_extent.go:449", after := #[{ on := 1, ground := Ground.data }], guard := none }) (v := .pointer (some ⟨X, 6, none⟩)) rfl (by kernel_rfl) (by kernel_rfl) (by kernel_rfl) (fun _ _ _ h => h) (Or.inl ⟨by rfl, ?_⟩) (by assumption) ?_
        · intro wx hSx; (try dsimp only at hSx); go_simp
        simp only [Act.put, List.setIfInBounds_toArray, List.set_cons_zero, List.set_cons_succ]
        refine wpAnyH_take (i := 3) (oi := { dst := some 12, op := Op.load 70 (Operand.tmp 11), type := 70, pos := "l07_extent.go:449", after := #[{ on := 2, ground := Ground.data }], guard := none }) (v := .slice (some ⟨g, 0, none⟩) NK.length cL) rfl (by kernel_rfl) (by kernel_rfl) (by kernel_rfl) (fun _ _ _ h => h) (Or.inl ⟨by rfl, ?_⟩) (by assumption) ?_
        · intro wx hSx; (try dsimp only at hSx); go_simp
        simp only [Act.put, List.setIfInBounds_toArray, List.set_cons_zero, List.set_cons_succ]
        refine wpAnyH_take (i := 4) (oi := { dst := some 13, op := Op.fieldAddr 112 (Operand.tmp 4) 1, type := 0, pos := "l07_extent.go:449", after := #[], guard := none }) (v := .pointer (some ⟨y, 7, none⟩)) rfl (by kernel_rfl) (by kernel_rfl) (by kernel_rfl) (fun _ _ _ h => h) (Or.inl ⟨by rfl, ?_⟩) (by assumption) ?_
        · intro wx hSx; (try dsimp only at hSx); go_simp
        simp only [Act.put, List.setIfInBounds_toArray, List.set_cons_zero, List.set_cons_succ]
        refine wpAnyH_take (i := 5) (oi := { dst := some 14, op := Op.load 3 (Operand.tmp 13), type := 3, pos := "l07_extent.go:449", after := #[{ on := 4, ground := Ground.data }], guard := none }) (v := .int .i64 (j : Nat)) rfl (by kernel_rfl) (by kernel_rfl) (by kernel_rfl) (fun _ _ _ h => h) (Or.inl ⟨by rfl, ?_⟩) (by assumption) ?_
        · intro wx hSx; (try dsimp only at hSx); go_simp
        simp only [Act.put, List.setIfInBounds_toArray, List.set_cons_zero, List.set_cons_succ]
        refine wpAnyH_take (i := 6) (oi := { dst := some 15, op := Op.indexAddr 70 (Operand.tmp 12) (Operand.tmp 14), type := 0, pos := "l07_extent.go:449", after := #[{ on := 3, ground := Ground.data }, { on := 5, ground := Ground.data }], guard := none }) (v := .pointer (some ⟨g, j, none⟩)) rfl (by kernel_rfl) (by kernel_rfl) (by kernel_rfl) (fun _ _ _ h => h) (Or.inl ⟨by rfl, ?_⟩) (by assumption) ?_
        · intro wx hSx; (try dsimp only at hSx); go_simp
        simp only [Act.put, List.setIfInBounds_toArray, List.set_cons_zero, List.set_cons_succ]
        refine wpAnyH_take (i := 7) (oi := { dst := some 16, op := Op.load 3 (Operand.tmp 15), type := 3, pos := "l07_extent.go:449", after := #[{ on := 6, ground := Ground.data }], guard := none }) (v := .int .i64 L) rfl (by kernel_rfl) (by kernel_rfl) (by kernel_rfl) (fun _ _ _ h => h) (Or.inl ⟨by rfl, ?_⟩) (by assumption) ?_
        · intro wx hSx; (try dsimp only at hSx); go_simp
        simp only [Act.put, List.setIfInBounds_toArray, List.set_cons_zero, List.set_cons_succ]
        refine wpAnyH_take (i := 8) (oi := { dst := some 17, op := Op.move (Operand.tmp 3), type := 3, pos := "l07_extent.go:449", after := #[], guard := none }) (v := .int .i64 (i : Nat)) rfl (by kernel_rfl) (by kernel_rfl) (by kernel_rfl) (fun _ _ _ h => h) (Or.inl ⟨by rfl, ?_⟩) (by assumption) ?_
        · intro wx hSx; (try dsimp only at hSx); go_simp
        simp only [Act.put, List.setIfInBounds_toArray, List.set_cons_zero, List.set_cons_succ]
        refine wpAnyH_take (i := 9) (oi := { dst := some 18, op := Op.binOp BinOp.eql 3 (Operand.tmp 16) (Operand.tmp 17) 3, type := 4, pos := "l07_extent.go:449", after := #[{ on := 7, ground := Ground.data }, { on := 8, ground := Ground.data }], guard := none }) (v := .bool true) rfl (by kernel_rfl) (by kernel_rfl) (by kernel_rfl) (fun _ _ _ h => h) (Or.inl ⟨by rfl, ?_⟩) (by assumption) ?_
        · intro wx hSx; (try dsimp only at hSx); go_simp; try exact hBt
        simp only [Act.put, List.setIfInBounds_toArray, List.set_cons_zero, List.set_cons_succ]
        refine wpAnyH_take (i := 10) (oi := { dst := some 19, op := Op.move (Operand.tmp 18), type := 4, pos := "l07_extent.go:449", after := #[{ on := 9, ground := Ground.data }], guard := none }) (v := .bool true) rfl (by kernel_rfl) (by kernel_rfl) (by kernel_rfl) (fun _ _ _ h => h) (Or.inl ⟨by rfl, ?_⟩) (by assumption) ?_
        · intro wx hSx; (try dsimp only at hSx); go_simp
        simp only [Act.put, List.setIfInBounds_toArray, List.set_cons_zero, List.set_cons_succ]
        refine wpAnyH_take (i := 11) (oi := { dst := some 20, op := Op.fieldAddr 112 (Operand.tmp 4) 0, type := 0, pos := "l07_extent.go:449", after := #[{ on := 10, ground := Ground.guard }], guard := some (10, true) }) (v := .pointer (some ⟨y, 0, none⟩)) rfl (by kernel_rfl) (by kernel_rfl) (by kernel_rfl) (fun _ _ _ h => h) (Or.inl ⟨by rfl, ?_⟩) (by assumption) ?_
        · intro wx hSx; (try dsimp only at hSx); go_simp
        simp only [Act.put, List.setIfInBounds_toArray, List.set_cons_zero, List.set_cons_succ]
        refine wpAnyH_take (i := 12) (oi := { dst := some 21, op := Op.fieldAddr 110 (Operand.tmp 20) 0, type := 0, pos := "l07_extent.go:449", after := #[{ on := 11, ground := Ground.data }, { on := 10, ground := Ground.guard }], guard := some (10, true) }) (v := .pointer (some ⟨y, 0, none⟩)) rfl (by kernel_rfl) (by kernel_rfl) (by kernel_rfl) (fun _ _ _ h => h) (Or.inl ⟨by rfl, ?_⟩) (by assumption) ?_
        · intro wx hSx; (try dsimp only at hSx); go_simp
        simp only [Act.put, List.setIfInBounds_toArray, List.set_cons_zero, List.set_cons_succ]
        refine wpAnyH_take (i := 13) (oi := { dst := some 22, op := Op.fieldAddr 108 (Operand.tmp 21) 1, type := 0, pos := "l07_extent.go:449", after := #[{ on := 12, ground := Ground.data }, { on := 10, ground := Ground.guard }], guard := some (10, true) }) (v := .pointer (some ⟨y, 2, none⟩)) rfl (by kernel_rfl) (by kernel_rfl) (by kernel_rfl) (fun _ _ _ h => h) (Or.inl ⟨by rfl, ?_⟩) (by assumption) ?_
        · intro wx hSx; (try dsimp only at hSx); go_simp
        simp only [Act.put, List.setIfInBounds_toArray, List.set_cons_zero, List.set_cons_succ]
        refine wpAnyH_take (i := 14) (oi := { dst := some 23, op := Op.load 4 (Operand.tmp 22), type := 4, pos := "l07_extent.go:449", after := #[{ on := 13, ground := Ground.data }, { on := 10, ground := Ground.guard }], guard := some (10, true) }) (v := .bool false) rfl (by kernel_rfl) (by kernel_rfl) (by kernel_rfl) (fun _ _ _ h => h) (Or.inl ⟨by rfl, ?_⟩) (by assumption) ?_
        · intro wx hSx; (try dsimp only at hSx); go_simp
        simp only [Act.put, List.setIfInBounds_toArray, List.set_cons_zero, List.set_cons_succ]
        refine wpAnyH_take (i := 15) (oi := { dst := some 24, op := Op.unOp UnOp.not 4 (Operand.tmp 23), type := 4, pos := "l07_extent.go:449", after := #[{ on := 14, ground := Ground.data }, { on := 10, ground := Ground.guard }], guard := some (10, true) }) (v := .bool true) rfl (by kernel_rfl) (by kernel_rfl) (by kernel_rfl) (fun _ _ _ h => h) (Or.inl ⟨by rfl, ?_⟩) (by assumption) ?_
        · intro wx hSx; (try dsimp only at hSx); go_simp
        simp only [Act.put, List.setIfInBounds_toArray, List.set_cons_zero, List.set_cons_succ]
        refine wpAnyH_take (i := 16) (oi := { dst := some 25, op := Op.pick (Operand.tmp 19) (Operand.tmp 24) (Operand.const (Value.bool false)), type := 4, pos := "l07_extent.go:449", after := #[{ on := 10, ground := Ground.data }, { on := 15, ground := Ground.data }], guard := none }) (v := .bool true) rfl (by kernel_rfl) (by kernel_rfl) (by kernel_rfl) (fun _ _ _ h => h) (Or.inl ⟨by rfl, ?_⟩) (by assumption) ?_
        · intro wx hSx; (try dsimp only at hSx); go_simp
        simp only [Act.put, List.setIfInBounds_toArray, List.set_cons_zero, List.set_cons_succ]
        refine wpAnyH_done (by kernel_rfl) ?_ _
        clear c0
        have c0 := c0'
        clear c6 y7 kg y2 hBt hB c0'
        gi_wp2_with fail
        refine wpIn_region_of (S := fun wx => wx.cell? ⟨w.heap.size, 0, none⟩ = some (.pointer (some ⟨X, 0, none⟩)) ∧ wx.cell? ⟨X, 0, none⟩ = some (.string d) ∧ wx.cell? ⟨y, 5, none⟩ = some (.int .i64 (A : Nat)) ∧ wx.cell? ⟨y, 6, none⟩ = some (.int .i64 (E : Nat))) (by kernel_rfl) (noDefer_spec (by kernel_rfl)) (fun ⟨a, w, h⟩ => h) ⟨c0, x0, y5, y6⟩ (fun hHeld => ?_)
        refine wpAnyH_take (i := 0) (oi := { dst := some 26, op := Op.load 60 (Operand.tmp 1), type := 60, pos := "l07_extent.go:450", after := #[], guard := none }) (v := .pointer (some ⟨X, 0, none⟩)) rfl (by kernel_rfl) (by kernel_rfl) (by kernel_rfl) (fun _ _ _ h => h) (Or.inl ⟨by rfl, ?_⟩) (by assumption) ?_
        · intro wx hSx; (try dsimp only at hSx); go_simp
        simp only [Act.put, List.setIfInBounds_toArray, List.set_cons_zero, List.set_cons_succ]
        refine wpAnyH_take (i := 1) (oi := { dst := some 27, op := Op.nilCheck (Operand.tmp 26), type := 0, pos := "l07_extent.go:450", after := #[{ on := 0, ground := Ground.data }], guard := none }) (v := .pointer (some ⟨X, 0, none⟩)) rfl (by kernel_rfl) (by kernel_rfl) (by kernel_rfl) (fun _ _ _ h => h) (Or.inl ⟨by rfl, ?_⟩) (by assumption) ?_
        · intro wx hSx; (try dsimp only at hSx); go_simp
        simp only [Act.put, List.setIfInBounds_toArray, List.set_cons_zero, List.set_cons_succ]
        refine wpAnyH_take (i := 2) (oi := { dst := some 28, op := Op.fieldAddr 72 (Operand.tmp 27) 0, type := 0, pos := "l07_extent.go:450", after := #[{ on := 1, ground := Ground.data }], guard := none }) (v := .pointer (some ⟨X, 0, none⟩)) rfl (by kernel_rfl) (by kernel_rfl) (by kernel_rfl) (fun _ _ _ h => h) (Or.inl ⟨by rfl, ?_⟩) (by assumption) ?_
        · intro wx hSx; (try dsimp only at hSx); go_simp
        simp only [Act.put, List.setIfInBounds_toArray, List.set_cons_zero, List.set_cons_succ]
        refine wpAnyH_take (i := 3) (oi := { dst := some 29, op := Op.fieldAddr 67 (Operand.tmp 28) 0, type := 0, pos := "l07_extent.go:450", after := #[{ on := 2, ground := Ground.data }], guard := none }) (v := .pointer (some ⟨X, 0, none⟩)) rfl (by kernel_rfl) (by kernel_rfl) (by kernel_rfl) (fun _ _ _ h => h) (Or.inl ⟨by rfl, ?_⟩) (by assumption) ?_
        · intro wx hSx; (try dsimp only at hSx); go_simp
        simp only [Act.put, List.setIfInBounds_toArray, List.set_cons_zero, List.set_cons_succ]
        refine wpAnyH_take (i := 4) (oi := { dst := some 30, op := Op.load 9 (Operand.tmp 29), type := 9, pos := "l07_extent.go:450", after := #[{ on := 3, ground := Ground.data }], guard := none }) (v := .string d) rfl (by kernel_rfl) (by kernel_rfl) (by kernel_rfl) (fun _ _ _ h => h) (Or.inl ⟨by rfl, ?_⟩) (by assumption) ?_
        · intro wx hSx; (try dsimp only at hSx); go_simp
        simp only [Act.put, List.setIfInBounds_toArray, List.set_cons_zero, List.set_cons_succ]
        refine wpAnyH_take (i := 5) (oi := { dst := some 31, op := Op.fieldAddr 112 (Operand.tmp 4) 0, type := 0, pos := "l07_extent.go:450", after := #[], guard := none }) (v := .pointer (some ⟨y, 0, none⟩)) rfl (by kernel_rfl) (by kernel_rfl) (by kernel_rfl) (fun _ _ _ h => h) (Or.inl ⟨by rfl, ?_⟩) (by assumption) ?_
        · intro wx hSx; (try dsimp only at hSx); go_simp
        simp only [Act.put, List.setIfInBounds_toArray, List.set_cons_zero, List.set_cons_succ]
        refine wpAnyH_take (i := 6) (oi := { dst := some 32, op := Op.fieldAddr 110 (Operand.tmp 31) 2, type := 0, pos := "l07_extent.go:450", after := #[{ on := 5, ground := Ground.data }], guard := none }) (v := .pointer (some ⟨y, 5, none⟩)) rfl (by kernel_rfl) (by kernel_rfl) (by kernel_rfl) (fun _ _ _ h => h) (Or.inl ⟨by rfl, ?_⟩) (by assumption) ?_
        · intro wx hSx; (try dsimp only at hSx); go_simp
        simp only [Act.put, List.setIfInBounds_toArray, List.set_cons_zero, List.set_cons_succ]
        refine wpAnyH_take (i := 7) (oi := { dst := some 33, op := Op.load 2 (Operand.tmp 32), type := 2, pos := "l07_extent.go:450", after := #[{ on := 6, ground := Ground.data }], guard := none }) (v := .int .i64 (A : Nat)) rfl (by kernel_rfl) (by kernel_rfl) (by kernel_rfl) (fun _ _ _ h => h) (Or.inl ⟨by rfl, ?_⟩) (by assumption) ?_
        · intro wx hSx; (try dsimp only at hSx); go_simp
        simp only [Act.put, List.setIfInBounds_toArray, List.set_cons_zero, List.set_cons_succ]
        refine wpAnyH_take (i := 8) (oi := { dst := some 34, op := Op.fieldAddr 112 (Operand.tmp 4) 0, type := 0, pos := "l07_extent.go:450", after := #[], guard := none }) (v := .pointer (some ⟨y, 0, none⟩)) rfl (by kernel_rfl) (by kernel_rfl) (by kernel_rfl) (fun _ _ _ h => h) (Or.inl ⟨by rfl, ?_⟩) (by assumption) ?_
        · intro wx hSx; (try dsimp only at hSx); go_simp
        simp only [Act.put, List.setIfInBounds_toArray, List.set_cons_zero, List.set_cons_succ]
        refine wpAnyH_take (i := 9) (oi := { dst := some 35, op := Op.fieldAddr 110 (Operand.tmp 34) 3, type := 0, pos := "l07_extent.go:450", after := #[{ on := 8, ground := Ground.data }], guard := none }) (v := .pointer (some ⟨y, 6, none⟩)) rfl (by kernel_rfl) (by kernel_rfl) (by kernel_rfl) (fun _ _ _ h => h) (Or.inl ⟨by rfl, ?_⟩) (by assumption) ?_
        · intro wx hSx; (try dsimp only at hSx); go_simp
        simp only [Act.put, List.setIfInBounds_toArray, List.set_cons_zero, List.set_cons_succ]
        refine wpAnyH_take (i := 10) (oi := { dst := some 36, op := Op.load 2 (Operand.tmp 35), type := 2, pos := "l07_extent.go:450", after := #[{ on := 9, ground := Ground.data }], guard := none }) (v := .int .i64 (E : Nat)) rfl (by kernel_rfl) (by kernel_rfl) (by kernel_rfl) (fun _ _ _ h => h) (Or.inl ⟨by rfl, ?_⟩) (by assumption) ?_
        · intro wx hSx; (try dsimp only at hSx); go_simp
        simp only [Act.put, List.setIfInBounds_toArray, List.set_cons_zero, List.set_cons_succ]
        refine wpAnyH_take (i := 11) (oi := { dst := some 37, op := Op.slice 9 (Operand.tmp 30) (some (Operand.tmp 33)) (some (Operand.tmp 36)) none, type := 9, pos := "l07_extent.go:450", after := #[{ on := 4, ground := Ground.data }, { on := 7, ground := Ground.data }, { on := 10, ground := Ground.data }], guard := none }) (v := .string (d.extract A E)) rfl (by kernel_rfl) (by kernel_rfl) (by kernel_rfl) (fun _ _ _ h => h) (Or.inl ⟨by rfl, ?_⟩) (by assumption) ?_
        · intro wx hSx; (try dsimp only at hSx); go_simp
        simp only [Act.put, List.setIfInBounds_toArray, List.set_cons_zero, List.set_cons_succ]
        refine wpAnyH_ready (rs := [12]) (by kernel_rfl) (by simp) ?_
        refine AllReadyH.cons (o := { dst := some 38, op := Op.call { callee := Callee.value (Operand.func 77), args := #[Operand.tmp 2, Operand.tmp 37], argTypes := #[125, 9] }, type := 128, pos := "l07_extent.go:450", after := #[{ on := 11, ground := Ground.data }], guard := none }) rfl (fun K hK => ?_) AllReadyH.nil
        go_simp
        refine KW.out.mono ?_
        rintro e5 w5 ⟨rfl, hO5, hB5, hK5⟩
        obtain ⟨S5, F5⟩ := FIN.out w5 hO5 hB5 hK5
        refine hK.out _ _ S5.out (fun hHeld => ?_)
        clear hK K
        try simp only [Act.put, List.setIfInBounds_toArray, List.set_cons_zero, List.set_cons_succ]
        refine wpAnyH_done (by kernel_rfl) ?_ _
        gi_wp2
        exact F5.out
    · have hBf : decide (L = (i : Int)) = false := decide_eq_false hB
      have PS := hid (PASS.out fun q => hB q.1)
      clear FIN KW
      refine wpIn_region_of (S := fun wx => wx.cell? ⟨w.heap.size, 0, none⟩ = some (.pointer (some ⟨X, 0, none⟩)) ∧ wx.cell? ⟨X, 6, none⟩ = some (.slice (some ⟨g, 0, none⟩) NK.length cL) ∧ wx.cell? ⟨y, 7, none⟩ = some (.int .i64 (j : Nat)) ∧ wx.cell? ⟨g, j, none⟩ = some (.int .i64 L) ∧ wx.cell? ⟨y, 2, none⟩ = some (.bool G)) (by kernel_rfl) (noDefer_spec (by kernel_rfl)) (fun ⟨a, w, h⟩ => h) ⟨c0, c6, y7, kg, y2⟩ (fun hHeld => ?_)
      refine wpAnyH_take (i := 0) (oi := { dst := some 9, op := Op.load 60 (Operand.tmp 1), type := 60, pos := "l07_extent.go:449", after := #[], guard := none }) (v := .pointer (some ⟨X, 0, none⟩)) rfl (by kernel_rfl) (by kernel_rfl) (by kernel_rfl) (fun _ _ _ h => h) (Or.inl ⟨by rfl, ?_⟩) (by assumption) ?_
      · intro wx hSx; (try dsimp only at hSx); go_simp
      simp only [Act.put, List.setIfInBounds_toArray, List.set_cons_zero, List.set_cons_succ]
      refine wpAnyH_take (i := 1) (oi := { dst := some 10, op := Op.nilCheck (Operand.tmp 9), type := 0, pos := "l07_extent.go:449", after := #[{ on := 0, ground := Ground.data }], guard := none }) (v := .pointer (some ⟨X, 0, none⟩)) rfl (by kernel_rfl) (by kernel_rfl) (by kernel_rfl) (fun _ _ _ h => h) (Or.inl ⟨by rfl, ?_⟩) (by assumption) ?_
      · intro wx hSx; (try dsimp only at hSx); go_simp
      simp only [Act.put, List.setIfInBounds_toArray, List.set_cons_zero, List.set_cons_succ]
      refine wpAnyH_take (i := 2) (oi := { dst := some 11, op := Op.fieldAddr 72 (Operand.tmp 10) 4, type := 0, pos := "l07_extent.go:449", after := #[{ on := 1, ground := Ground.data }], guard := none }) (v := .pointer (some ⟨X, 6, none⟩)) rfl (by kernel_rfl) (by kernel_rfl) (by kernel_rfl) (fun _ _ _ h => h) (Or.inl ⟨by rfl, ?_⟩) (by assumption) ?_
      · intro wx hSx; (try dsimp only at hSx); go_simp
      simp only [Act.put, List.setIfInBounds_toArray, List.set_cons_zero, List.set_cons_succ]
      refine wpAnyH_take (i := 3) (oi := { dst := some 12, op := Op.load 70 (Operand.tmp 11), type := 70, pos := "l07_extent.go:449", after := #[{ on := 2, ground := Ground.data }], guard := none }) (v := .slice (some ⟨g, 0, none⟩) NK.length cL) rfl (by kernel_rfl) (by kernel_rfl) (by kernel_rfl) (fun _ _ _ h => h) (Or.inl ⟨by rfl, ?_⟩) (by assumption) ?_
      · intro wx hSx; (try dsimp only at hSx); go_simp
      simp only [Act.put, List.setIfInBounds_toArray, List.set_cons_zero, List.set_cons_succ]
      refine wpAnyH_take (i := 4) (oi := { dst := some 13, op := Op.fieldAddr 112 (Operand.tmp 4) 1, type := 0, pos := "l07_extent.go:449", after := #[], guard := none }) (v := .pointer (some ⟨y, 7, none⟩)) rfl (by kernel_rfl) (by kernel_rfl) (by kernel_rfl) (fun _ _ _ h => h) (Or.inl ⟨by rfl, ?_⟩) (by assumption) ?_
      · intro wx hSx; (try dsimp only at hSx); go_simp
      simp only [Act.put, List.setIfInBounds_toArray, List.set_cons_zero, List.set_cons_succ]
      refine wpAnyH_take (i := 5) (oi := { dst := some 14, op := Op.load 3 (Operand.tmp 13), type := 3, pos := "l07_extent.go:449", after := #[{ on := 4, ground := Ground.data }], guard := none }) (v := .int .i64 (j : Nat)) rfl (by kernel_rfl) (by kernel_rfl) (by kernel_rfl) (fun _ _ _ h => h) (Or.inl ⟨by rfl, ?_⟩) (by assumption) ?_
      · intro wx hSx; (try dsimp only at hSx); go_simp
      simp only [Act.put, List.setIfInBounds_toArray, List.set_cons_zero, List.set_cons_succ]
      refine wpAnyH_take (i := 6) (oi := { dst := some 15, op := Op.indexAddr 70 (Operand.tmp 12) (Operand.tmp 14), type := 0, pos := "l07_extent.go:449", after := #[{ on := 3, ground := Ground.data }, { on := 5, ground := Ground.data }], guard := none }) (v := .pointer (some ⟨g, j, none⟩)) rfl (by kernel_rfl) (by kernel_rfl) (by kernel_rfl) (fun _ _ _ h => h) (Or.inl ⟨by rfl, ?_⟩) (by assumption) ?_
      · intro wx hSx; (try dsimp only at hSx); go_simp
      simp only [Act.put, List.setIfInBounds_toArray, List.set_cons_zero, List.set_cons_succ]
      refine wpAnyH_take (i := 7) (oi := { dst := some 16, op := Op.load 3 (Operand.tmp 15), type := 3, pos := "l07_extent.go:449", after := #[{ on := 6, ground := Ground.data }], guard := none }) (v := .int .i64 L) rfl (by kernel_rfl) (by kernel_rfl) (by kernel_rfl) (fun _ _ _ h => h) (Or.inl ⟨by rfl, ?_⟩) (by assumption) ?_
      · intro wx hSx; (try dsimp only at hSx); go_simp
      simp only [Act.put, List.setIfInBounds_toArray, List.set_cons_zero, List.set_cons_succ]
      refine wpAnyH_take (i := 8) (oi := { dst := some 17, op := Op.move (Operand.tmp 3), type := 3, pos := "l07_extent.go:449", after := #[], guard := none }) (v := .int .i64 (i : Nat)) rfl (by kernel_rfl) (by kernel_rfl) (by kernel_rfl) (fun _ _ _ h => h) (Or.inl ⟨by rfl, ?_⟩) (by assumption) ?_
      · intro wx hSx; (try dsimp only at hSx); go_simp
      simp only [Act.put, List.setIfInBounds_toArray, List.set_cons_zero, List.set_cons_succ]
      refine wpAnyH_take (i := 9) (oi := { dst := some 18, op := Op.binOp BinOp.eql 3 (Operand.tmp 16) (Operand.tmp 17) 3, type := 4, pos := "l07_extent.go:449", after := #[{ on := 7, ground := Ground.data }, { on := 8, ground := Ground.data }], guard := none }) (v := .bool false) rfl (by kernel_rfl) (by kernel_rfl) (by kernel_rfl) (fun _ _ _ h => h) (Or.inl ⟨by rfl, ?_⟩) (by assumption) ?_
      · intro wx hSx; (try dsimp only at hSx); go_simp; try exact hBf
      simp only [Act.put, List.setIfInBounds_toArray, List.set_cons_zero, List.set_cons_succ]
      refine wpAnyH_take (i := 10) (oi := { dst := some 19, op := Op.move (Operand.tmp 18), type := 4, pos := "l07_extent.go:449", after := #[{ on := 9, ground := Ground.data }], guard := none }) (v := .bool false) rfl (by kernel_rfl) (by kernel_rfl) (by kernel_rfl) (fun _ _ _ h => h) (Or.inl ⟨by rfl, ?_⟩) (by assumption) ?_
      · intro wx hSx; (try dsimp only at hSx); go_simp
      simp only [Act.put, List.setIfInBounds_toArray, List.set_cons_zero, List.set_cons_succ]
      refine wpAnyH_take (i := 11) (oi := { dst := some 20, op := Op.fieldAddr 112 (Operand.tmp 4) 0, type := 0, pos := "l07_extent.go:449", after := #[{ on := 10, ground := Ground.guard }], guard := some (10, true) }) (v := undef) rfl (by kernel_rfl) (by kernel_rfl) (by kernel_rfl) (fun _ _ _ h => h) (Or.inr ⟨by rfl, rfl⟩) (by assumption) ?_
      simp only [Act.put, List.setIfInBounds_toArray, List.set_cons_zero, List.set_cons_succ]
      refine wpAnyH_take (i := 12) (oi := { dst := some 21, op := Op.fieldAddr 110 (Operand.tmp 20) 0, type := 0, pos := "l07_extent.go:449", after := #[{ on := 11, ground := Ground.data }, { on := 10, ground := Ground.guard }], guard := some (10, true) }) (v := undef) rfl (by kernel_rfl) (by kernel_rfl) (by kernel_rfl) (fun _ _ _ h => h) (Or.inr ⟨by rfl, rfl⟩) (by assumption) ?_
      simp only [Act.put, List.setIfInBounds_toArray, List.set_cons_zero, List.set_cons_succ]
      refine wpAnyH_take (i := 13) (oi := { dst := some 22, op := Op.fieldAddr 108 (Operand.tmp 21) 1, type := 0, pos := "l07_extent.go:449", after := #[{ on := 12, ground := Ground.data }, { on := 10, ground := Ground.guard }], guard := some (10, true) }) (v := undef) rfl (by kernel_rfl) (by kernel_rfl) (by kernel_rfl) (fun _ _ _ h => h) (Or.inr ⟨by rfl, rfl⟩) (by assumption) ?_
      simp only [Act.put, List.setIfInBounds_toArray, List.set_cons_zero, List.set_cons_succ]
      refine wpAnyH_take (i := 14) (oi := { dst := some 23, op := Op.load 4 (Operand.tmp 22), type := 4, pos := "l07_extent.go:449", after := #[{ on := 13, ground := Ground.data }, { on := 10, ground := Ground.guard }], guard := some (10, true) }) (v := undef) rfl (by kernel_rfl) (by kernel_rfl) (by kernel_rfl) (fun _ _ _ h => h) (Or.inr ⟨by rfl, rfl⟩) (by assumption) ?_
      simp only [Act.put, List.setIfInBounds_toArray, List.set_cons_zero, List.set_cons_succ]
      refine wpAnyH_take (i := 15) (oi := { dst := some 24, op := Op.unOp UnOp.not 4 (Operand.tmp 23), type := 4, pos := "l07_extent.go:449", after := #[{ on := 14, ground := Ground.data }, { on := 10, ground := Ground.guard }], guard := some (10, true) }) (v := undef) rfl (by kernel_rfl) (by kernel_rfl) (by kernel_rfl) (fun _ _ _ h => h) (Or.inr ⟨by rfl, rfl⟩) (by assumption) ?_
      simp only [Act.put, List.setIfInBounds_toArray, List.set_cons_zero, List.set_cons_succ]
      refine wpAnyH_take (i := 16) (oi := { dst := some 25, op := Op.pick (Operand.tmp 19) (Operand.tmp 24) (Operand.const (Value.bool false)), type := 4, pos := "l07_extent.go:449", after := #[{ on := 10, ground := Ground.data }, { on := 15, ground := Ground.data }], guard := none }) (v := .bool false) rfl (by kernel_rfl) (by kernel_rfl) (by kernel_rfl) (fun _ _ _ h => h) (Or.inl ⟨by rfl, ?_⟩) (by assumption) ?_
      · intro wx hSx; (try dsimp only at hSx); go_simp
      simp only [Act.put, List.setIfInBounds_toArray, List.set_cons_zero, List.set_cons_succ]
      refine wpAnyH_done (by kernel_rfl) ?_ _
      gi_wp2
      exact PS.out
  case done =>
    rintro D W hD hI hK
    have hN : (ordP P).length = (sc d 0).length := by rw [OL.out, grA_len d D0.out]
    rw [hN] at hI
    obtain ⟨C, hC⟩ : ∃ C, C = cmpN d (sc d 0).length := ⟨_, rfl⟩
    have CL : C.size ≤ d.size := by rw [hC]; exact cmp_le d
    have CF : Hid (¬ C.size < d.size → C = d) := by rw [hC]; exact cmp_full d
    have hIo := hI.o
    rw [← hC] at hIo
    have HC := hid hC
    have XR := RowAt.below (show RowAt w X _ _ from HS.out.tb.blk) hI.b XW.out
    have c0 : W.drew.cell? ⟨w.heap.size, 0, none⟩ = some (.pointer (some ⟨X, 0, none⟩)) := hI.s.drew.cell 0
    have x0 : W.drew.cell? ⟨X, 0, none⟩ = some (.string d) := XR.drew.cell 0
    have BD := D0.out
    have sz : w.heap.size + 1 ≤ W.heap.size := by have := hI.s.lt; omega
    have KL := hid (bldLen (w.heap.size + 1) (w.heap.size + 1) C.data.toList W.drew (hIo.below (Below.refl _ _).drew))
    rw [baLen] at KL
    have KS := hid (bldStrK (w.heap.size + 1) (w.heap.size + 1) C.data.toList W.drew.drew (hIo.below (Below.refl _ _).drew.drew) sz)
    have eC : ofL C.data.toList = C := ba_extL (ofL_l _)
    rw [eC] at KS
    have KC := fun W5 h5 => hid (iChange ea eb X d C sy 0 300000 NK HNK.out (by omega) (chg_new d C BD (by omega)) (by omega) (Nat.le_refl _) (by omega) W5 h5)
    have KY := fun W5 d' NK' h5 => hid (iSync ea eb X d' sy NK' W5 h5)
    have HI := hid hI
    have DK := hid hK
    have OB : Hid (∃ cb, RowAt W (w.heap.size + 1) 125 cb) := hIo.row
    have HDD : Hid (w.heap.size ≤ D) := by have := LC.out; show _ ≤ _; omega
    have AFT : Hid (∀ w5, Below (w.heap.size + 1) W.drew.drew w5 → Lib.OthersKept (blRen.t 5) (some (w.heap.size + 1)) W.drew.drew w5 → Hid (w5.cell? ⟨w.heap.size, 0, none⟩ = some (.pointer (some ⟨X, 0, none⟩))) ∧ Hid (RowAt w5 w.heap.size 60 #[.pointer (some ⟨X, 0, none⟩)] ∧ w5.heap[D]? = some (.deferred (some []))) ∧ Hid (ShAt ea eb X d sy NK w5) ∧ Hid (Below w.heap.size w w5)) := fun w5 h2 h3 => by
      obtain ⟨cb, ob⟩ := OB.out
      have s5 := oth_row h3 (show RowAt W.drew.drew _ _ _ from ob) HI.out.s.drew.drew (by decide) (by decide)
      have b5 : Below w.heap.size w w5 := (HI.out.b.drew.drew).trans (h2.mono (by omega))
      exact ⟨s5.cell 0, ⟨s5, oth_obj h3 (show RowAt W.drew.drew _ _ _ from ob) (show W.drew.drew.heap[D]? = _ from DK.out) rfl⟩, H.out.below b5, b5⟩
    have CHG : Hid (∀ w5 e6 w6, Hid (w5.cell? ⟨w.heap.size, 0, none⟩ = some (.pointer (some ⟨X, 0, none⟩))) → Hid (RowAt w5 w.heap.size 60 #[.pointer (some ⟨X, 0, none⟩)] ∧ w5.heap[D]? = some (.deferred (some []))) → ChgQ ea eb X C sy NK w5 e6 w6 → Ret e6 ∧ Hid (w6.cell? ⟨w.heap.size, 0, none⟩ = some (.pointer (some ⟨X, 0, none⟩))) ∧ Hid (w6.heap[D]? = some (.deferred (some []))) ∧ Hid (ShQ ea eb X C sy NK w5 w6)) := fun w5 e6 w6 h1 h2 h3 =>
      ⟨h3.1, (h3.2.2.row _ _ _ h2.out.1 (by decide)).cell 0, h3.2.2.dfr _ _ h2.out.2, h3.q⟩
    have ENDQ : Hid (∀ w6, w6.heap[D]? = some (.deferred (some [])) → ShQ ea eb X C sy NK w w6 → (w6.setCell ⟨X, 3, none⟩ (.int .i64 (C.size : Nat))).heap[D]? = some (.deferred (some [])) ∧ ∀ e, Ret e → Ret e ∧ ShQ ea eb X C C.size NK w ((w6.setCell ⟨X, 3, none⟩ (.int .i64 (C.size : Nat))).putObj D (.deferred none))) := fun w6 h1 h2 => by
      have q := h2.sync C.size
      have dd : (w6.setCell ⟨X, 3, none⟩ (.int .i64 (C.size : Nat))).heap[D]? = some (.deferred (some [])) := by
        obtain ⟨NK', h'⟩ := h2.at
        exact (h'.sync C.size).2.dfr _ _ h1
      refine ⟨dd, fun e he => ⟨he, ?_⟩⟩
      obtain ⟨⟨NK', a1, a2, a3⟩, t⟩ := q
      refine ⟨⟨NK', a1.dput dd (by have := XW.out; have := HDD.out; omega), a2, a3⟩, t.fresh (Nat.le_of_lt XW.out) (grownBy_putObj' _ D (.deferred none)) fun g e => by obtain rfl := Option.some.inj e; exact HDD.out⟩
    clear hI hIo XR hD hK hsq IL PL hN hC eC BD CL
    by_cases hlt : C.size < d.size
    · have z1 : (C.size : Int) < (d.size : Int) := by omega
      clear CF
      go_upto_region 7 with fail
      go_region_held3 (fun wx => wx.cell? ⟨w.heap.size, 0, none⟩ = some (.pointer (some ⟨X, 0, none⟩)) ∧ wx.cell? ⟨X, 0, none⟩ = some (.string d)) (first | exact ⟨c0, x0⟩ | (go_keep; done))
        (first
          | (go_at_call 78; refine KL.out.mono ?_; rintro e5 w5 ⟨rfl, hw⟩; obtain rfl := hw.symm))
      all_goals (try simp [Act.put])
      all_goals
        have c8 : W.drew.drew.cell? ⟨w.heap.size, 0, none⟩ = some (.pointer (some ⟨X, 0, none⟩)) := c0
        go_upto_region 8 with fail
        go_region_held3 (fun wx => wx.cell? ⟨w.heap.size, 0, none⟩ = some (.pointer (some ⟨X, 0, none⟩))) (first | exact c8 | exact S5.out | exact S6.out | (go_keep; done))
          (first
            | (go_at_call 79; refine KS.out.mono ?_; rintro e5 w5 ⟨rfl, hb5, ho5⟩; obtain ⟨S5, D5, H5, b5⟩ := AFT.out w5 hb5 ho5; clear hb5 ho5)
            | (go_at_call 46; refine (KC w5 H5.out).out.mono ?_; rintro e6 w6 hQ6; obtain ⟨⟨v6, rfl⟩, S6, D6, Q6⟩ := CHG.out w5 e6 w6 S5 D5 hQ6; clear hQ6))
      all_goals (try simp [Act.put])
      all_goals
        obtain ⟨NK7, H7, _, _⟩ := Q6.out.1
        have c9 := S6.out
        go_wp2_with fail
        refine (KY w6 C NK7 H7).out.mono ?_
        rintro e7 w7 ⟨⟨v7, rfl⟩, rfl⟩
        have Z7 := hid (ENDQ.out w6 D6.out (Q6.out.after b5.out (Nat.le_of_lt XW.out)))
        clear H7
        go_wp2
        refine compact_ret Z7.out.1 ?_
        rw [← HC.out]
        exact Z7.out.2 _ ⟨_, rfl⟩
    · have hCd := CF.out hlt
      have z1 : ¬ (C.size : Int) < (d.size : Int) := by omega
      go_upto_region 7 with fail
      go_region_held3 (fun wx => wx.cell? ⟨w.heap.size, 0, none⟩ = some (.pointer (some ⟨X, 0, none⟩)) ∧ wx.cell? ⟨X, 0, none⟩ = some (.string d)) (first | exact ⟨c0, x0⟩ | (go_keep; done))
        (first
          | (go_at_call 78; refine KL.out.mono ?_; rintro e5 w5 ⟨rfl, hw⟩; obtain rfl := hw.symm))
      all_goals (try simp [Act.put])
      all_goals
        have H7 : ShAt ea eb X d sy NK W.drew := H.out.below HI.out.b.drew
        have Q7 : ShQ ea eb X C sy NK w W.drew := by rw [hCd]; exact ShQ.id H.out HI.out.b.drew
        have Z7 := hid (ENDQ.out W.drew DK.out Q7)
        have eZ : d.size = C.size := by rw [hCd]
        clear Q7
        go_wp2_with fail
        refine (KY W.drew d NK H7).out.mono ?_
        rintro e7 w7 ⟨⟨v7, rfl⟩, hw7⟩
        rw [eZ] at hw7
        obtain rfl := hw7
        clear H7 eZ hCd
        go_wp2
        refine compact_ret Z7.out.1 ?_
        rw [← HC.out]
        exact Z7.out.2 _ ⟨_, rfl⟩
  case stop =>
    rintro D c k W hD hk h
    exact h.elim
end Go.Proofs.YtngkiokibldfjaaGreatDoor
