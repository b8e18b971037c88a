import Derived.Test.YtcbmgpdpjagaoaaGreatT1
import Derived.Test.YtcbmgpdpjagaoaaGreatSScn
namespace Go.Proofs.YtcbmgpdpjagaoaaGreat
open Go.RowKit
set_option linter.unusedVariables false
structure TbOk (t : Tt) : Prop where
 f0 : 0 ≤ t.fl
 fs : t.fl ≤ t.sq
 q1 : t.sq ≤ 4611686018427387904
 m : t.rs.length ≤ 20
 cnt : t.all.length ≤ 1000
 fit : ∀ e ∈ t.all, fitE e ∧ e.sq ≤ t.sq
 srt : t.fr.Pairwise enLt
 srs : ∀ r ∈ t.rs, r.Pairwise enLt
 nd : (t.all.map En.sq).Nodup
 up : ∀ e ∈ t.fr, ∀ x ∈ t.rs.flatten, x.sq < e.sq
theorem TbOk.uni {t : Tt} (h : TbOk t) : ∀ e e', e ∈ t.all → e' ∈ t.all → e.sq = e'.sq → e = e' := map_inj _ h.nd
theorem TbOk.tok {t : Tt} (h : TbOk t) : TOk t := ⟨Int.le_trans h.f0 h.fs, h.q1, h.cnt, h.m, fun e he => by
 obtain ⟨⟨a, b, c, d, f⟩, g⟩ := h.fit e he
 exact ⟨by omega, by omega, c, g⟩, h.uni⟩
def ttOf (s f : Int) (n0 : Nat) (o0 : Nat → En) (m : Nat) (R : Nat → Rn) : Tt := ⟨s, f, (List.range n0).map o0, (List.range m).map fun k => (List.range (R k).n).map (R k).o⟩
theorem ttOf_flat (s f : Int) (n0 : Nat) (o0 : Nat → En) (R : Nat → Rn) : ∀ m, (ttOf s f n0 o0 m R).rs.flatten = allE R m
 | 0 => rfl
 | m + 1 => by
  have ih := ttOf_flat s f n0 o0 R m
  show ((List.range (m + 1)).map _).flatten = _
  rw [List.range_succ, List.map_append, List.flatten_append]
  show ((List.range m).map _).flatten ++ _ = _
  rw [show ((List.range m).map fun k => (List.range (R k).n).map (R k).o).flatten = allE R m from ih]
  simp [allE]
theorem ttOf_all (s f : Int) (n0 : Nat) (o0 : Nat → En) (m : Nat) (R : Nat → Rn) : (ttOf s f n0 o0 m R).all = allTb n0 o0 R m := by unfold Tt.all allTb; rw [ttOf_flat]; rfl
theorem range_pw {n : Nat} {o : Nat → En} : ((List.range n).map o).Pairwise enLt ↔ ∀ i j, i < j → j < n → enLt (o i) (o j) := by
 rw [List.pairwise_iff_getElem]
 constructor
 · intro h i j hij hj
   have := h i j (by simp; omega) (by simpa using hj) hij
   simpa using this
 · intro h i j hi hj hij
   simp at hi hj ⊢
   exact h i j hij hj
theorem sqL_map (o : Nat → En) (n : Nat) : ((List.range n).map o).map En.sq = sqL o n := by simp [sqL, Function.comp_def]
theorem allTb_sq (n0 : Nat) (o0 : Nat → En) (R : Nat → Rn) (m : Nat) : (allTb n0 o0 R m).map En.sq = sqL o0 n0 ++ sqA R m := by unfold allTb; rw [List.map_append, sqL_map, allE_sq]
theorem tb_of_tab {s f : Int} {n0 : Nat} {o0 : Nat → En} {m : Nat} {R : Nat → Rn} (h : tabOk s f n0 o0 m R) : TbOk (ttOf s f n0 o0 m R) := by
 have hfit := tab_fit h; obtain ⟨⟨h1, h2, h3, h4⟩, h5, h6, h7, h8⟩ := h; refine ⟨h2, h3, h1, ?_, ?_, fun e he => ?_, ?_, fun r hr => ?_, ?_, fun e he x hx => ?_⟩
 · show ((List.range m).map _).length ≤ 20; simpa using h4
 · rw [ttOf_all, allTb_len]; omega
 · rw [ttOf_all] at he
   refine ⟨hfit e he, ?_⟩
   rcases allTb_mem.1 he with ⟨p, hp, rfl⟩ | he
   · exact (h8 p hp).1
   · refine h6.2.2.2 e.sq ?_
     rw [← allE_sq]; exact List.mem_map.2 ⟨e, he, rfl⟩
 · exact range_pw.2 fun i j hij hj => run_srt h5.2 j i hij hj
 · obtain ⟨k, hk, rfl⟩ := List.mem_map.1 hr
   exact range_pw.2 fun i j hij hj => run_srt (h6.1 k (List.mem_range.1 hk)).2 j i hij hj
 · rw [ttOf_all, allTb_sq]
   refine List.nodup_append.2 ⟨(sqL_nodup o0 n0).2 h5.2.2.2, h6.2.2.1, fun a ha b hb e => ?_⟩; obtain ⟨j, hj, rfl⟩ := mem_sqL.1 ha; have := (h8 j hj).2 b hb
   omega
 · obtain ⟨j, hj, rfl⟩ := List.mem_map.1 he
   refine (h8 j (List.mem_range.1 hj)).2 x.sq ?_; rw [ttOf_flat] at hx; rw [← allE_sq]; exact List.mem_map.2 ⟨x, hx, rfl⟩
theorem runs_nd (R : Nat → Rn) : ∀ m, (sqA R m).Nodup → ∀ k, k < m → (sqL (R k).o (R k).n).Nodup
 | 0, _, k, hk => absurd hk (Nat.not_lt_zero _)
 | m + 1, h, k, hk => by
  have h' : (sqA R m ++ sqL (R m).o (R m).n).Nodup := h; obtain ⟨h1, h2, _⟩ := List.nodup_append.1 h'
  by_cases e : k = m
  · subst e; exact h2
  · exact runs_nd R m h1 k (by omega)
theorem run_len_le (R : Nat → Rn) {m k : Nat} (h : k < m) : (R k).n ≤ cntR R m := by
 have := cntR_mono R (show k + 1 ≤ m by omega); have e : cntR R (k + 1) = cntR R k + (R k).n := rfl
 omega
theorem tab_of_tb {s f : Int} {n0 : Nat} {o0 : Nat → En} {m : Nat} {R : Nat → Rn} (h : TbOk (ttOf s f n0 o0 m R)) : tabOk s f n0 o0 m R := by
 obtain ⟨h1, h2, h3, h4, h5, h6, h7, h8, h9, h10⟩ := h; rw [ttOf_all] at h5 h6 h9; rw [allTb_len] at h5; rw [allTb_sq] at h9; obtain ⟨n1, n2, n3⟩ := List.nodup_append.1 h9
 have hm : m ≤ 20 := by
  have : ((List.range m).map fun k => (List.range (R k).n).map (R k).o).length ≤ 20 := h4
  simpa using this
 have hf : ∀ k, k < n0 → fitE (o0 k) ∧ (o0 k).sq ≤ s := fun k hk => h6 _ (allTb_mem.2 (.inl ⟨k, hk, rfl⟩)); have hr : ∀ k, k < m → ∀ i, i < (R k).n → fitE ((R k).o i) ∧ ((R k).o i).sq ≤ s := fun k hk i hi => h6 _ (allTb_mem.2 (.inr ((allE_mem R m _).2 ⟨k, hk, i, hi, rfl⟩))); have hp := range_pw.1 (show ((List.range n0).map o0).Pairwise enLt from h7); refine ⟨⟨h3, h1, h2, hm⟩, ⟨by omega, fun k hk => (hf k hk).1, fun k k0 hk => hp _ _ (by omega) hk, (sqL_nodup o0 n0).1 n1⟩, ⟨fun k hk => ?_, by omega, n2, fun v hv => ?_⟩, by omega, fun j hj => ⟨(hf j hj).2, fun v hv => ?_⟩⟩
 · have hq := range_pw.1 (h8 _ (List.mem_map.2 ⟨k, List.mem_range.2 hk, rfl⟩))
   have := run_len_le R hk; exact ⟨by omega, fun i hi => (hr k hk i hi).1, fun i i0 hi => hq _ _ (by omega) hi, (sqL_nodup _ _).1 (runs_nd R m n2 k hk)⟩
 · rw [← allE_sq] at hv
   obtain ⟨e, he, rfl⟩ := List.mem_map.1 hv; exact (h6 e (allTb_mem.2 (.inr he))).2
 · rw [← allE_sq] at hv
   obtain ⟨e, he, rfl⟩ := List.mem_map.1 hv; exact h10 _ (List.mem_map.2 ⟨j, List.mem_range.2 hj, rfl⟩) e (by rw [ttOf_flat]; exact he)
theorem tt_eq (t : Tt) (R : Nat → Rn) (h : ∀ k, k < t.rs.length → (R k).n = (t.rs.getD k []).length ∧ (R k).o = enA (t.rs.getD k [])) : ttOf t.sq t.fl t.fr.length (enA t.fr) t.rs.length R = t := by
 have rg : ∀ L : List En, (List.range L.length).map (enA L) = L := fun L => by
  apply List.ext_getElem?
  intro i
  by_cases hi : i < L.length
  · rw [List.getElem?_map, List.getElem?_range hi, enA_get hi]; rfl
  · rw [List.getElem?_eq_none (by simp; omega), List.getElem?_eq_none (by omega)]
 unfold ttOf; obtain ⟨s, f, fr, rs⟩ := t; dsimp only at h ⊢; rw [rg fr]
 congr 1
 apply List.ext_getElem?
 intro i
 by_cases hi : i < rs.length
 · rw [List.getElem?_map, List.getElem?_range hi]
   obtain ⟨h1, h2⟩ := h i hi
   show some ((List.range (R i).n).map (R i).o) = _
   rw [h1, h2, rg, List.getD_eq_getElem?_getD, List.getElem?_eq_getElem hi]
   rfl
 · rw [List.getElem?_eq_none (by simp; omega), List.getElem?_eq_none (by omega)]
theorem SrtOf.perm {A B : List En} (h : SrtOf A B) : B.Perm A := by
 obtain ⟨S, hS, rfl⟩ := h; have nS : S.Nodup := hS.pw.imp fun {a b} (hab : tLt a b) (e : a = b) => tLt_irrefl b (by rw [e] at hab; exact hab)
 have nR : ((List.range A.length).map fun j => ((enA A j, j) : Tg)).Nodup := by
  rw [List.nodup_iff_pairwise_ne, List.pairwise_map]; exact List.nodup_range.imp fun {a b} hab e => hab (Prod.mk.inj e).2
 have hp : S.Perm ((List.range A.length).map fun j => ((enA A j, j) : Tg)) := (List.perm_ext_iff_of_nodup nS nR).2 fun x => by
  rw [hS.mem, List.mem_map]
  constructor
  · rintro ⟨j, hj, rfl⟩; exact ⟨j, List.mem_range.2 hj, rfl⟩
  · rintro ⟨j, hj, rfl⟩; exact ⟨j, List.mem_range.1 hj, rfl⟩
 have := hp.map Prod.fst; rw [List.map_map] at this; refine this.trans (List.Perm.of_eq ?_)
 apply List.ext_getElem?
 intro i
 by_cases hi : i < A.length
 · rw [List.getElem?_map, List.getElem?_range hi, enA_get hi]; rfl
 · rw [List.getElem?_eq_none (by simp; omega), List.getElem?_eq_none (by omega)]
theorem SrtOf.pw {A B : List En} (h : SrtOf A B) : B.Pairwise (fun a b => ¬ enLt b a) := by
 obtain ⟨S, hS, rfl⟩ := h; exact sd_pw hS.pw
theorem pw_strict {B : List En} (h : B.Pairwise (fun a b => ¬ enLt b a)) (hn : (B.map En.sq).Nodup) : B.Pairwise enLt := by
 rw [List.pairwise_iff_getElem] at h ⊢; intro i j hi hj hij
 rcases enLt_tri B[i] B[j] with q | ⟨_, q⟩ | q
 · exact q
 · exfalso
   have := List.pairwise_iff_getElem.1 hn i j (by simpa using hi) (by simpa using hj) hij; exact this (by simpa using q)
 · exact absurd q (h i j hi hj hij)
theorem enUniq : ∀ {A B : List En}, A.Pairwise enLt → B.Pairwise enLt → (∀ x, x ∈ A ↔ x ∈ B) → A = B
 | [], [], _, _, _ => rfl
 | [], b :: B, _, _, h => absurd ((h b).2 (by simp)) (by simp)
 | a :: A, [], _, _, h => absurd ((h a).1 (by simp)) (by simp)
 | a :: A, b :: B, hA, hB, h => by
  obtain ⟨a1, a2⟩ := List.pairwise_cons.1 hA; obtain ⟨b1, b2⟩ := List.pairwise_cons.1 hB; have irr : ∀ x : En, ¬ enLt x x := fun x q => enLt_asymm q q
  have e : a = b := by
   rcases List.mem_cons.1 ((h a).1 (by simp)) with e | e
   · exact e
   · rcases List.mem_cons.1 ((h b).2 (by simp)) with e' | e'
     · exact e'.symm
     · exact absurd (b1 a e) (enLt_asymm (a1 b e'))
  subst e; rw [enUniq a2 b2 fun x => ?_]
  constructor
  · intro hx
    rcases List.mem_cons.1 ((h x).1 (by simp [hx])) with e | e
    · subst e; exact absurd (a1 x hx) (irr x)
    · exact e
  · intro hx
    rcases List.mem_cons.1 ((h x).2 (by simp [hx])) with e | e
    · subst e; exact absurd (b1 x hx) (irr x)
    · exact e
theorem nd_perm {A B : List En} (h : A.Perm B) (hn : (B.map En.sq).Nodup) : (A.map En.sq).Nodup := (h.map En.sq).nodup_iff.2 hn
theorem newE_fit {t : Tt} {o : TOp} (h : TbOk t) (h1 : 1 ≤ o.ky.size ∧ o.ky.size ≤ 200) (hk : o.kd = 1 ∨ o.kd = 2) (h2 : ¬ (o.kd = 1 ∧ 100000 < o.tx.size)) : fitE (newE t o) := by
 have := h.f0; have := h.fs; unfold newE; refine ⟨h1.1, h1.2, by show 1 ≤ t.sq + 1; omega, ?_, ?_⟩
 · rintro ⟨g1, g2⟩
   have e : o.kd = 2 := by simpa using g1
   exact g2 (if_pos e)
 · show (if o.kd = 2 then (⟨#[]⟩ : ByteArray) else o.tx).size ≤ 100000
   by_cases e : o.kd = 2
   · rw [if_pos e]; decide
   · rw [if_neg e]
     have : o.kd = 1 := hk.resolve_right e
     omega
theorem Stp.tb {t t' : Tt} {o : TOp} {u : Ot} (h : TbOk t) (hs : Stp t o t' u) : TbOk t' := by
 cases hs with
 | put B hk h1 h2 h3 hB =>
  have pm := hB.perm; have hc := h.cnt; have hq := h.q1; have n1 := fun q => h3 (.inl q); have n2 := fun q => h3 (.inr q)
  have pall : (B ++ t.rs.flatten).Perm (newE t o :: t.all) := by
   unfold Tt.all; refine (pm.append_right _).trans ?_; rw [List.append_assoc, List.singleton_append]; exact List.perm_middle
  have hle : ∀ e ∈ t.all, e.sq ≤ t.sq := fun e he => (h.fit e he).2
  have hnd : ((newE t o :: t.all).map En.sq).Nodup := by
   rw [List.map_cons, List.nodup_cons]; refine ⟨fun q => ?_, h.nd⟩; obtain ⟨e, he, hq⟩ := List.mem_map.1 q; have := hle e he; have : e.sq = t.sq + 1 := hq
   omega
  have hnB : (B.map En.sq).Nodup := by
   refine nd_perm pm ?_; have : (t.fr ++ [newE t o]).Sublist (t.fr ++ (newE t o :: t.rs.flatten)) := (List.Sublist.refl _).append (List.Sublist.cons_cons _ (List.nil_sublist _)); refine List.Nodup.sublist (this.map _) (nd_perm (List.perm_middle.trans (List.Perm.refl _)) hnd)
  refine ⟨h.f0, by show t.fl ≤ t.sq + 1; have := h.fs; omega, by show t.sq + 1 ≤ _; omega, h.m, ?_, fun e he => ?_, pw_strict hB.pw hnB, h.srs, nd_perm pall hnd, fun e he x hx => ?_⟩
  · show (B ++ t.rs.flatten).length ≤ 1000
    rw [pall.length_eq, List.length_cons]; have : t.all.length ≠ 1000 := n1
    omega
  · rcases List.mem_cons.1 (pall.mem_iff.1 he) with rfl | he
    · exact ⟨newE_fit h h1 hk h2, Int.le_refl _⟩
    · have := h.fit e he
      exact ⟨this.1, by show e.sq ≤ t.sq + 1; omega⟩
  · rcases List.mem_append.1 (pm.mem_iff.1 he) with he | he
    · exact h.up e he x hx
    · rw [List.mem_singleton] at he
      subst he; have := hle x (List.mem_append_right _ hx)
      show x.sq < t.sq + 1
      omega
 | flush hk h1 h2 =>
  have pall : ([] ++ (t.rs ++ [t.fr]).flatten).Perm t.all := by
   unfold Tt.all; simp only [List.nil_append, List.flatten_append, List.flatten_cons, List.flatten_nil, List.append_nil]; exact List.perm_append_comm
  have := h.m; refine ⟨h.f0, h.fs, h.q1, ?_, ?_, fun e he => h.fit e (pall.mem_iff.1 he), List.Pairwise.nil, fun r hr => ?_, nd_perm pall h.nd, fun e he => by cases he⟩
  · show (t.rs ++ [t.fr]).length ≤ 20; rw [List.length_append]; show _ + 1 ≤ _; omega
  · show ([] ++ (t.rs ++ [t.fr]).flatten).length ≤ 1000; rw [pall.length_eq]; exact h.cnt
  · rcases List.mem_append.1 hr with hr | hr
    · exact h.srs r hr
    · rw [List.mem_singleton] at hr; subst hr; exact h.srt
 | comp0 B hk h1 h2 h3 =>
  have sub : (t.fr ++ ([] : List (List En)).flatten).Sublist t.all := by unfold Tt.all; exact (List.Sublist.refl _).append (List.nil_sublist _)
  have := h.f0; refine ⟨by show 0 ≤ o.sq; omega, by show o.sq ≤ t.sq; omega, h.q1, by show 0 ≤ 20; omega, Nat.le_trans sub.length_le h.cnt, fun e he => h.fit e (sub.subset he), h.srt, fun r hr => (by cases hr), List.Nodup.sublist (sub.map _) h.nd, fun e he x hx => by cases hx⟩
 | comp B hk h1 h2 h3 =>
  have sub := mgS_sub o.sq B none; have pB := h2.perm; have pall : (t.fr ++ B).Perm t.all := by unfold Tt.all; exact pB.append_left _
  have s2 : (t.fr ++ [mgS o.sq none B].flatten).Sublist (t.fr ++ B) := (List.Sublist.refl _).append (by simpa using sub); have nB : (B.map En.sq).Nodup := nd_perm pB (List.Nodup.sublist ((List.sublist_append_right _ _).map _) h.nd); have := h.f0; refine ⟨by show 0 ≤ o.sq; omega, by show o.sq ≤ t.sq; omega, h.q1, (by decide : 1 ≤ 20), Nat.le_trans s2.length_le (by rw [pall.length_eq]; exact h.cnt), fun e he => h.fit e (pall.mem_iff.1 (s2.subset he)), h.srt, fun r hr => ?_, List.Nodup.sublist (s2.map _) (nd_perm pall h.nd), fun e he x hx => h.up e he x ?_⟩
  · have : r = mgS o.sq none B := by simpa using hr
    subst this; exact (pw_strict h2.pw nB).sublist sub
  · have : x ∈ mgS o.sq none B := by simpa using hx
    exact pB.mem_iff.1 (sub.subset this)
 | _ => exact h
theorem Rns8.tb {o : Nat → TOp} {t0 t : Tt} {i : Nat} {us : List Ot} (h0 : TbOk t0) (h : Rns8 o t0 i t us) : TbOk t := by
 induction h with
 | zero => exact h0
 | next _ hs ih => exact hs.tb ih
theorem FndOf.uniq {t : Tt} (h : TOk t) {k : ByteArray} {q : Int} {x y : En} (hx : FndOf t.all k q x) (hy : FndOf t.all k q y) : x = y := by
 obtain ⟨b, hb, rfl⟩ := hx; obtain ⟨b', hb', rfl⟩ := hy; rw [hb.uniq h.uni hb']
end Go.Proofs.YtcbmgpdpjagaoaaGreat
namespace Go.Proofs.YtcbmgpdpjagaoaaGreat
open Go.RowKit
set_option linter.unusedVariables false
def stP (til : ByteArray) (e : En) : Prop := til ≠ ⟨#[]⟩ ∧ kLt e.ky til = false
instance (til : ByteArray) (e : En) : Decidable (stP til e) := by unfold stP; exact inferInstance
instance (pr : Option En) (e : En) : Decidable (∃ p, pr = some p ∧ p.ky = e.ky) := match pr with
 | none => .isFalse fun ⟨_, h, _⟩ => by cases h
 | some p => if h : p.ky = e.ky then .isTrue ⟨p, rfl, h⟩ else .isFalse fun ⟨_, h1, h2⟩ => by cases h1; exact h h2
def fnL (x : En) : List En := if 0 < x.sq then [x] else []
theorem fnL_len (x : En) : (fnL x).length ≤ 1 := by unfold fnL; split <;> simp
def scU (til : ByteArray) (q : Int) : ByteArray → List En → List En
 | _, [] => []
 | key, e :: r => if stP til e then [] else if e.sq ≤ q then (if e.ky = key then scU til q key r else (if e.gn = true then [] else [e]) ++ scU til q e.ky r) else scU til q key r
def scV (fe : ByteArray → En) (fr til : ByteArray) : Option En → List En → List En
 | _, [] => []
 | pr, e :: r => (if (∃ p, pr = some p ∧ p.ky = e.ky) ∨ kLt e.ky fr = true ∨ stP til e then [] else fnL (fe e.ky)) ++ scV fe fr til (some e) r
theorem take_full {α : Type} {L : List α} {lim : Int} (h : L.length ≤ lim.toNat) (hl : lim ≤ (L.length : Int)) (X : List α) : (L ++ X).take lim.toNat = L := by
 rw [show lim.toNat = L.length by omega, List.take_left]
theorem scL_take (til : ByteArray) (q lim : Int) : ∀ (es : List En) (key : ByteArray) (L : List En), L.length ≤ lim.toNat → scL til q lim key L es = (L ++ scU til q key es).take lim.toNat
 | [], key, L, h => by
  unfold scL scU; rw [List.append_nil, List.take_of_length_le h]
 | e :: r, key, L, h => by
  unfold scL scU
  by_cases h1 : lim ≤ (L.length : Int)
  · rw [if_pos (.inl h1), take_full h h1]
  · by_cases h2 : stP til e
    · rw [if_pos (.inr h2), if_pos h2, List.append_nil, List.take_of_length_le h]
    · rw [if_neg (fun z => z.elim h1 h2), if_neg h2]
      by_cases h3 : e.sq ≤ q
      · rw [if_pos h3, if_pos h3]
        by_cases h4 : e.ky = key
        · rw [if_pos h4, if_pos h4]; exact scL_take til q lim r key L h
        · rw [if_neg h4, if_neg h4]
          cases hg : e.gn with
          | true =>
           rw [if_pos rfl, if_pos rfl, List.nil_append]; exact scL_take til q lim r e.ky L h
          | false =>
           rw [if_neg (by simp), if_neg (by simp), ← List.append_assoc]; exact scL_take til q lim r e.ky (L ++ [e]) (by rw [List.length_append]; show _ + 1 ≤ _; omega)
      · rw [if_neg h3, if_neg h3]; exact scL_take til q lim r key L h
theorem scV_snoc (fe : ByteArray → En) (fr til : ByteArray) (e : En) : ∀ (L : List En) (pr : Option En), scV fe fr til pr (L ++ [e]) = scV fe fr til pr L ++ scV fe fr til (lastO pr L) [e]
 | [], pr => by rw [List.nil_append, show lastO pr [] = pr by cases pr <;> rfl, show scV fe fr til pr [] = [] from rfl, List.nil_append]
 | x :: r, pr => by
  show scV fe fr til pr (x :: (r ++ [e])) = _
  rw [scV, scV, scV_snoc fe fr til e r (some x), List.append_assoc]
  have : lastO pr (x :: r) = lastO (some x) r := by cases r with | nil => rfl | cons y r => simp [lastO]
  rw [this]
theorem scN_take (lim : Int) (fe : ByteArray → En) (L : List En) (fr til : ByteArray) : ∀ i, i ≤ L.length → scN lim fe L fr til i = (scV fe fr til none (L.take i)).take lim.toNat
 | 0, _ => by simp [scN, scV]
 | i + 1, h => by
  have ih := scN_take lim fe L fr til i (by omega); have hi : i < L.length := by omega
  have ht : L.take (i + 1) = L.take i ++ [enA L i] := by
   rw [List.take_add_one, enA_get hi]; rfl
  obtain ⟨X, hX⟩ : ∃ X, X = scV fe fr til none (L.take i) := ⟨_, rfl⟩
  have hlast : skP L fr til i ↔ ((∃ p, lastO none (L.take i) = some p ∧ p.ky = (enA L i).ky) ∨ kLt (enA L i).ky fr = true ∨ stP til (enA L i)) := by
   unfold skP stP; refine or_congr ?_ Iff.rfl
   cases i with
   | zero => simp [lastO]
   | succ k =>
    have e2 : L.take (k + 1) = L.take k ++ [enA L k] := by rw [List.take_add_one, enA_get (by omega)]; rfl
    rw [e2, lastO_snoc]
    constructor
    · rintro ⟨_, h2⟩; exact ⟨_, rfl, h2⟩
    · rintro ⟨p, hp, h2⟩; cases hp; exact ⟨by omega, h2⟩
  rw [ht, scV_snoc, ← hX, scN, ih, ← hX]
  have e1 : ∀ c : Prop, [Decidable c] → ∀ Y : List En, ((if c then ([] : List En) else Y) ++ []) = if c then [] else Y := fun c _ Y => by rw [List.append_nil]
  rw [show scV fe fr til (lastO none (L.take i)) [enA L i] = _ from by rw [scV, scV]]
  by_cases h1 : lim ≤ ((X.take lim.toNat).length : Int)
  · rw [if_pos h1]
    rw [List.length_take] at h1; rw [List.take_append_of_le_length (by omega)]
  · rw [if_neg h1]
    rw [List.length_take] at h1; have hx : X.length < lim.toNat := by omega
    rw [List.take_of_length_le (l := X) (by omega)]
    by_cases h2 : skP L fr til i
    · rw [if_pos h2, if_pos (hlast.1 h2), List.append_nil, List.append_nil, List.take_of_length_le (by omega)]
    · rw [if_neg h2, if_neg (fun z => h2 (hlast.2 z)), List.append_nil]
      have := fnL_len (fe (enA L i).ky); rw [List.take_of_length_le (by rw [List.length_append]; omega)]; unfold fnL
      split
      · rfl
      · rw [List.append_nil]
theorem scV_stop (fe : ByteArray → En) {fr til : ByteArray} : ∀ (es : List En) (pr : Option En), (∀ e ∈ es, stP til e) → scV fe fr til pr es = []
 | [], _, _ => rfl
 | e :: r, pr, h => by
  rw [scV, if_pos (.inr (.inr (h e (by simp)))), List.nil_append]; exact scV_stop fe r _ fun x hx => h x (by simp [hx])
theorem stP_up {til : ByteArray} {e x : En} (h : stP til e) (hl : enLt e x) : stP til x := by
 refine ⟨h.1, ?_⟩
 cases q : kLt x.ky til with
 | false => rfl
 | true =>
  exfalso
  have := h.2
  rcases hl with z | ⟨z, _⟩
  · rw [kLt_trans z q] at this; cases this
  · rw [z, q] at this; cases this
structure ScJ (A : List En) (fr til : ByteArray) (key : ByteArray) (pr : Option En) (es : List En) : Prop where
 srt : es.Pairwise enLt
 sub : ∀ e ∈ es, e ∈ A
 ge : ∀ e ∈ es, kLt e.ky fr = false
 bef : ∀ p, pr = some p → ∀ e ∈ es, enLt p e
 rest : ∀ x ∈ A, kLt x.ky fr = false → x ∈ es ∨ ∃ p, pr = some p ∧ (x = p ∨ enLt x p)
 key : key = ⟨#[]⟩ ∨ ∃ p, pr = some p ∧ kLt p.ky key = false
theorem ScJ.next {A : List En} {fr til key key' : ByteArray} {pr : Option En} {e : En} {r : List En} (h : ScJ A fr til key pr (e :: r)) (hk : key' = key ∨ key' = e.ky) : ScJ A fr til key' (some e) r := by
 obtain ⟨s1, s2⟩ := List.pairwise_cons.1 h.srt; refine ⟨s2, fun x hx => h.sub x (by simp [hx]), fun x hx => h.ge x (by simp [hx]), fun p hp x hx => by cases hp; exact s1 x hx, fun x hx hf => ?_, ?_⟩
 · rcases h.rest x hx hf with hx | ⟨p, hp, q⟩
   · rcases List.mem_cons.1 hx with rfl | hx
     · exact .inr ⟨_, rfl, .inl rfl⟩
     · exact .inl hx
   · have hb := h.bef p hp e (by simp)
     refine .inr ⟨e, rfl, .inr ?_⟩
     rcases q with rfl | q
     · exact hb
     · exact enLt_trans q hb
 · rcases hk with rfl | rfl
   · rcases h.key with q | ⟨p, hp, q⟩
     · exact .inl q
     · refine .inr ⟨e, rfl, ?_⟩
       cases z : kLt e.ky key' with
       | false => rfl
       | true =>
        exfalso
        rcases h.bef p hp e (by simp) with y | ⟨y, _⟩
        · rw [kLt_trans y z] at q; cases q
        · rw [y, z] at q; cases q
   · refine .inr ⟨e, rfl, ?_⟩
     cases z : kLt e.ky e.ky with
     | false => rfl
     | true => exact absurd z (kLt_irrefl _)
theorem ScJ.newest {A : List En} {fr til key : ByteArray} {pr : Option En} {e : En} {r : List En} {q : Int} (h : ScJ A fr til key pr (e :: r)) (he : e.sq ≤ q) (hp : ∀ p, pr = some p → p.ky = e.ky → q < p.sq) : IsB (fun x => x ∈ A) e.ky q (some e) := by
 refine .inr ⟨e, rfl, h.sub e (by simp), ⟨rfl, he⟩, fun x hx hm => ?_⟩; have hf : kLt x.ky fr = false := by rw [hm.1]; exact h.ge e (by simp)
 rcases h.rest x hx hf with hx | ⟨p, hpp, hq⟩
 · rcases List.mem_cons.1 hx with rfl | hx
   · exact Int.le_refl _
   · rcases (List.pairwise_cons.1 h.srt).1 x hx with z | ⟨_, z⟩
     · rw [hm.1] at z; exact absurd z (kLt_irrefl _)
     · omega
 · have hb := h.bef p hpp e (by simp)
   have pk : p.ky = e.ky := by
    rcases hb with z | ⟨z, _⟩
    · exfalso
      rcases hq with rfl | hq
      · rw [hm.1] at z; exact kLt_irrefl _ z
      · rcases hq with y | ⟨y, _⟩
        · rw [hm.1] at y; exact kLt_asymm y z
        · rw [← y, hm.1] at z; exact kLt_irrefl _ z
    · exact z
   have := hp p hpp pk
   rcases hq with rfl | hq
   · have := hm.2; omega
   · rcases hq with y | ⟨_, y⟩
     · rw [hm.1, pk] at y; exact absurd y (kLt_irrefl _)
     · have := hm.2; omega
theorem ScJ.gone {A : List En} {fr til key k : ByteArray} {p : En} {es : List En} {q : Int} (h : ScJ A fr til key (some p) es) (hf : kLt p.ky fr = false) (hq : q < p.sq) (hn : ∀ e ∈ es, e.ky = p.ky → q < e.sq) : IsB (fun x => x ∈ A) p.ky q none := by
 refine .inl ⟨rfl, fun x hx hm => ?_⟩
 rcases h.rest x hx (by rw [hm.1]; exact hf) with hx | ⟨p', hp, hx⟩
 · have := hn x hx hm.1; have := hm.2; omega
 · cases hp
   rcases hx with rfl | hx
   · have := hm.2; omega
   · rcases hx with y | ⟨_, y⟩
     · rw [hm.1] at y; exact kLt_irrefl _ y
     · have := hm.2; omega
theorem fnL_e {e : En} (h : 1 ≤ e.sq) : fnL (fndE (some e)) = if e.gn = true then [] else [e] := by
 unfold fndE
 show fnL (if e.gn = true then en0 else e) = _
 cases e.gn with
 | true => rw [if_pos rfl, if_pos rfl]; rfl
 | false => rw [if_neg (by simp), if_neg (by simp)]; unfold fnL; rw [if_pos (by omega)]
theorem sc_eq {A : List En} {fr til : ByteArray} {q : Int} {fe : ByteArray → En} (hfe : ∀ k bo, IsB (fun x => x ∈ A) k q bo → fe k = fndE bo) (hA : ∀ e ∈ A, e.ky ≠ ⟨#[]⟩ ∧ 1 ≤ e.sq) : ∀ (es : List En) (key : ByteArray) (pr : Option En), ScJ A fr til key pr es →
 ((∀ p, pr = some p → (∃ e ∈ es, p.ky = e.ky) → key = p.ky) → scU til q key es = scV fe fr til pr es) ∧
 (∀ p, pr = some p → kLt p.ky fr = false → key ≠ p.ky → ¬ stP til p → q < p.sq → scU til q key es = fnL (fe p.ky) ++ scV fe fr til pr es)
 | [], key, pr, h => by
  refine ⟨fun _ => rfl, fun p hp hf _ _ hq => ?_⟩; subst hp; rw [hfe _ _ (h.gone (k := p.ky) hf hq fun e he => by cases he)]
  rfl
 | e :: r, key, pr, h => by
  obtain ⟨s1, s2⟩ := List.pairwise_cons.1 h.srt; have hge := h.ge e (by simp); have heA := hA e (h.sub e (by simp))
  have kne : (∀ p, pr = some p → p.ky ≠ e.ky) → key ≠ e.ky := fun hn z => by
   rcases h.key with y | ⟨p, hp, y⟩
   · rw [← z] at heA; exact heA.1 y
   · rcases h.bef p hp e (by simp) with x | ⟨x, _⟩
     · rw [z, x] at y; cases y
     · exact hn p hp x
  -- a key that is new
  have new : (∀ p, pr = some p → p.ky ≠ e.ky) → scU til q key (e :: r) = (if stP til e then [] else fnL (fe e.ky)) ++ scV fe fr til (some e) r := fun hn => by
   rw [scU]
   by_cases h2 : stP til e
   · rw [if_pos h2, if_pos h2, scV_stop fe r _ fun x hx => stP_up h2 (s1 x hx)]; rfl
   · rw [if_neg h2, if_neg h2]
     by_cases h3 : e.sq ≤ q
     · rw [if_pos h3, if_neg (fun z => kne hn z.symm)]
       rw [hfe _ _ (h.newest h3 fun p hp z => absurd z (hn p hp)), fnL_e heA.2]; rw [((sc_eq hfe hA r e.ky (some e) (h.next (.inr rfl))).1 fun p hp _ => by cases hp; rfl)]
     · rw [if_neg h3]
       exact (sc_eq hfe hA r key (some e) (h.next (.inl rfl))).2 e rfl hge (kne hn) h2 (by omega)
  have vnew : (∀ p, pr = some p → p.ky ≠ e.ky) → scV fe fr til pr (e :: r) = (if stP til e then [] else fnL (fe e.ky)) ++ scV fe fr til (some e) r := fun hn => by
   rw [scV]
   by_cases h2 : stP til e
   · rw [if_pos (.inr (.inr h2)), if_pos h2]
   · rw [if_neg (fun z => by
      rcases z with ⟨p, hp, z⟩ | z | z
      · exact hn p hp z
      · rw [hge] at z; cases z
      · exact h2 z), if_neg h2]
  have vold : ∀ p, pr = some p → p.ky = e.ky → scV fe fr til pr (e :: r) = scV fe fr til (some e) r := fun p hp z => by
   rw [scV, if_pos (.inl ⟨p, hp, z⟩), List.nil_append]
  constructor
  · intro hs
    by_cases hn : ∃ p, pr = some p ∧ p.ky = e.ky
    · obtain ⟨p, hp, z⟩ := hn
      have hk : key = e.ky := by rw [← z]; exact hs p hp ⟨e, by simp, z⟩
      rw [vold p hp z, scU]; have st := fun (g : En) (hg : pr = some g) => hg; have ih := (sc_eq hfe hA r key (some e) (h.next (.inl rfl))).1 fun p hp _ => by cases hp; exact hk
      by_cases h2 : stP til e
      · rw [if_pos h2, scV_stop fe r _ fun x hx => stP_up h2 (s1 x hx)]
      · rw [if_neg h2]
        by_cases h3 : e.sq ≤ q
        · rw [if_pos h3, if_pos hk.symm, ih]
        · rw [if_neg h3, ih]
    · have hn' : ∀ p, pr = some p → p.ky ≠ e.ky := fun p hp z => hn ⟨p, hp, z⟩
      rw [new hn', vnew hn']
  · intro p hp hf hkp hst hq
    subst hp
    by_cases z : p.ky = e.ky
    · have hste : ¬ stP til e := fun y => hst ⟨y.1, by rw [z]; exact y.2⟩
      rw [vold p rfl z, z, scU, if_neg hste]
      by_cases h3 : e.sq ≤ q
      · rw [if_pos h3, if_neg (fun y => hkp (by rw [z, y])), hfe _ _ (h.newest h3 fun p' hp' _ => by cases hp'; exact hq), fnL_e heA.2]
        rw [((sc_eq hfe hA r e.ky (some e) (h.next (.inr rfl))).1 fun p hp _ => by cases hp; rfl)]
      · rw [if_neg h3]
        exact (sc_eq hfe hA r key (some e) (h.next (.inl rfl))).2 e rfl hge (by rw [← z]; exact hkp) hste (by omega)
    · have hn' : ∀ p', some p = some p' → p'.ky ≠ e.ky := fun p' hp' => by cases hp'; exact z
      have far : ∀ x ∈ e :: r, x.ky ≠ p.ky := fun x hx y => by
       have b1 := h.bef p rfl e (by simp); have k1 : kLt p.ky e.ky = true := b1.resolve_right fun w => z w.1
       rcases List.mem_cons.1 hx with rfl | hx
       · exact z y.symm
       · rcases s1 x hx with w | ⟨w, _⟩
         · rw [y] at w; exact kLt_asymm w k1
         · exact z (by rw [← y, w])
      rw [new hn', vnew hn', hfe _ _ (h.gone (k := p.ky) hf hq fun x hx y => absurd y (far x hx))]
      rfl
theorem scV_drop (fe : ByteArray → En) {fr til : ByteArray} : ∀ (A B : List En) (pr : Option En), (∀ e ∈ A, kLt e.ky fr = true) → (∀ e ∈ B, kLt e.ky fr = false) → (∀ p, pr = some p → kLt p.ky fr = true) → scV fe fr til pr (A ++ B) = scV fe fr til none B
 | [], B, pr, _, hB, hp => by
  rw [List.nil_append]
  cases B with
  | nil => rfl
  | cons e r =>
   rw [scV, scV]
   have hne : ∀ p, pr = some p → p.ky ≠ e.ky := fun p hpp z => by
    have a := hp p hpp; have b := hB e (by simp); rw [z, b] at a; cases a
   congr 1
   by_cases c : kLt e.ky fr = true ∨ stP til e
   · rw [if_pos (.inr c), if_pos (.inr c)]
   · rw [if_neg (fun z => z.elim (fun ⟨p, hpp, z⟩ => hne p hpp z) c), if_neg (fun z => z.elim (fun ⟨p, hpp, z⟩ => by cases hpp) c)]
 | a :: A, B, pr, hA, hB, hp => by
  show scV fe fr til pr (a :: (A ++ B)) = _
  rw [scV, if_pos (.inr (.inl (hA a (by simp)))), List.nil_append]; exact scV_drop fe A B (some a) (fun e he => hA e (by simp [he])) hB fun p hpp => by cases hpp; exact hA a (by simp)
theorem scan_same {A L M : List En} {fr til : ByteArray} {q lim : Int} {fe : ByteArray → En} (hfe : ∀ k bo, IsB (fun x => x ∈ A) k q bo → fe k = fndE bo) (hA : ∀ e ∈ A, e.ky ≠ ⟨#[]⟩ ∧ 1 ≤ e.sq) (hL : L.Pairwise enLt) (hm : ∀ e, e ∈ L ↔ e ∈ A) (hM : M.Pairwise enLt) (hM2 : ∀ e, e ∈ M ↔ e ∈ A ∧ kLt e.ky fr = false) :
 scL til q lim ⟨#[]⟩ [] M = scN lim fe L fr til L.length := by
 rw [scL_take til q lim M ⟨#[]⟩ [] (Nat.zero_le _), scN_take lim fe L fr til L.length (Nat.le_refl _), List.take_length, List.nil_append]
 congr 1
 have hsp : L = L.filter (fun e => kLt e.ky fr) ++ M := by
  have hF : (L.filter (fun e => kLt e.ky fr)).Pairwise enLt := hL.filter _; refine enUniq hL ?_ fun x => ?_
  · refine List.pairwise_append.2 ⟨hF, hM, fun a ha b hb => ?_⟩
    have a2 := (List.mem_filter.1 ha).2; have b2 := ((hM2 b).1 hb).2
    rcases kLt_tri a.ky b.ky with z | z | z
    · exact .inl z
    · rw [z] at a2; rw [a2] at b2; cases b2
    · have := kLt_trans z a2; rw [this] at b2; cases b2
  · rw [List.mem_append, List.mem_filter, hM2, hm]
    cases kLt x.ky fr <;> simp
 have e1 : scV fe fr til none L = scV fe fr til none M := by
  rw [hsp]; exact scV_drop fe _ M none (fun e he => (List.mem_filter.1 he).2) (fun e he => ((hM2 e).1 he).2) fun p hp => by cases hp
 rw [e1]; exact (sc_eq hfe hA M ⟨#[]⟩ none ⟨hM, fun e he => ((hM2 e).1 he).1, fun e he => ((hM2 e).1 he).2, fun p hp => (by cases hp), fun x hx hf => .inl ((hM2 x).2 ⟨hx, hf⟩), .inl rfl⟩).1 fun p hp => by cases hp
end Go.Proofs.YtcbmgpdpjagaoaaGreat
namespace Go.Proofs.YtcbmgpdpjagaoaaGreat
open Go.RowKit
set_option linter.unusedVariables false
open Classical in
theorem mgS_mem (f : Int) : ∀ (es : List En) (pr : Option En), es.Pairwise enLt → (∀ p, pr = some p → ∀ e ∈ es, enLt p e) → ∀ e, e ∈ mgS f pr es ↔ e ∈ es ∧ ¬ (e.sq ≤ f ∧ ((∃ p, (p ∈ es ∨ pr = some p) ∧ p.ky = e.ky ∧ e.sq < p.sq ∧ p.sq ≤ f) ∨ e.gn = true))
 | [], _, _, _, e => by simp [mgS]
 | x :: r, pr, hs, hp, e => by
  obtain ⟨s1, s2⟩ := List.pairwise_cons.1 hs; have ih := mgS_mem f r (some x) s2 (fun p hp e he => by cases hp; exact s1 e he) e; rw [mgS, List.mem_append, ih]; have irr : ∀ y : En, ¬ enLt y y := fun y q => enLt_asymm q q
  have same : ∀ {a b : En}, enLt a b → a.ky = b.ky → b.sq < a.sq := fun {a b} h1 h2 => by
   rcases h1 with z | ⟨_, z⟩
   · rw [h2] at z; exact absurd z (kLt_irrefl _)
   · exact z
  have hx : e ∈ (if x.sq ≤ f ∧ (oldP f pr x ∨ x.gn = true) then [] else [x]) ↔ e = x ∧ ¬ (x.sq ≤ f ∧ (oldP f pr x ∨ x.gn = true)) := by
   split
   · rename_i h; simp [h]
   · rename_i h; simp [h]
  rw [hx]
  constructor
  · rintro (⟨rfl, h⟩ | ⟨he, h⟩)
    · refine ⟨by simp, fun ⟨a, b⟩ => h ⟨a, ?_⟩⟩
      rcases b with ⟨p, hpp, h1, h2, h3⟩ | b
      · left
        rcases hpp with hpp | hpp
        · rcases List.mem_cons.1 hpp with rfl | hpp
          · omega
          · have := same (s1 p hpp) h1.symm; omega
        · exact ⟨p, hpp, h1, h3⟩
      · exact .inr b
    · refine ⟨by simp [he], fun ⟨a, b⟩ => h ⟨a, ?_⟩⟩
      rcases b with ⟨p, hpp, h1, h2, h3⟩ | b
      · left
        rcases hpp with hpp | hpp
        · rcases List.mem_cons.1 hpp with rfl | hpp
          · exact ⟨p, .inr rfl, h1, h2, h3⟩
          · exact ⟨p, .inl hpp, h1, h2, h3⟩
        · have b1 := hp p hpp x (by simp)
          have b2 := s1 e he
          have k1 : x.ky = e.ky := by
           rcases b2 with z | ⟨z, _⟩
           · rcases b1 with y | ⟨y, _⟩
             · rw [h1] at y; exact absurd y (kLt_asymm z)
             · rw [← y, h1] at z; exact absurd z (kLt_irrefl _)
           · exact z
          have := same b1 (h1.trans k1.symm); have := same b2 k1; exact ⟨x, .inr rfl, k1, by omega, by omega⟩
      · exact .inr b
  · rintro ⟨he, h⟩
    rcases List.mem_cons.1 he with rfl | he
    · left
      refine ⟨rfl, fun ⟨a, b⟩ => h ⟨a, ?_⟩⟩
      rcases b with ⟨p, hpp, h1, h3⟩ | b
      · exact .inl ⟨p, .inr hpp, h1, same (hp p hpp e (by simp)) h1, h3⟩
      · exact .inr b
    · right
      refine ⟨he, fun ⟨a, b⟩ => h ⟨a, ?_⟩⟩
      rcases b with ⟨p, hpp, h1, h2, h3⟩ | b
      · left
        rcases hpp with hpp | hpp
        · exact ⟨p, .inl (by simp [hpp]), h1, h2, h3⟩
        · cases hpp; exact ⟨x, .inl (by simp), h1, h2, h3⟩
      · exact .inr b
theorem cmp_find {F B : List En} (hB : B.Pairwise enLt) (hup : ∀ e ∈ F, ∀ x ∈ B, x.sq < e.sq) {f q : Int} (hq : f ≤ q) {k : ByteArray} {bo : Option En} (h : IsB (fun e => e ∈ F ++ B) k q bo) : ∃ bo', IsB (fun e => e ∈ F ++ mgS f none B) k q bo' ∧ fndE bo = fndE bo' := by
 have mem := mgS_mem f B none hB (fun p hp => by cases hp)
 have sub : ∀ e, e ∈ F ++ mgS f none B → e ∈ F ++ B := fun e he => by
  rcases List.mem_append.1 he with he | he
  · exact List.mem_append_left _ he
  · exact List.mem_append_right _ ((mem e).1 he).1
 rcases h with ⟨rfl, h2⟩ | ⟨x, rfl, hx, hm, hb⟩
 · exact ⟨none, .inl ⟨rfl, fun e he => h2 e (sub e he)⟩, rfl⟩
 · by_cases hin : x ∈ F ++ mgS f none B
   · exact ⟨some x, .inr ⟨x, rfl, hin, hm, fun e he hme => hb e (sub e he) hme⟩, rfl⟩
   · have xB : x ∈ B := by
      rcases List.mem_append.1 hx with z | z
      · exact absurd (List.mem_append_left _ z) hin
      · exact z
     have hnot : ¬ x ∈ mgS f none B := fun z => hin (List.mem_append_right _ z); have hd : x.sq ≤ f ∧ ((∃ p, (p ∈ B ∨ none = some p) ∧ p.ky = x.ky ∧ x.sq < p.sq ∧ p.sq ≤ f) ∨ x.gn = true) := Classical.byContradiction fun z => hnot ((mem x).2 ⟨xB, z⟩)
     have hg : x.gn = true := by
      rcases hd.2 with ⟨p, hp, h1, h2, h3⟩ | z
      · rcases hp with hp | hp
        · have := hb p (List.mem_append_right _ hp) ⟨h1.trans hm.1, by omega⟩
          omega
        · cases hp
      · exact z
     refine ⟨none, .inl ⟨rfl, fun e he hme => ?_⟩, by show (if x.gn = true then en0 else x) = en0; rw [if_pos hg]⟩; have hle := hb e (sub e he) hme
     rcases List.mem_append.1 he with he | he
     · have := hup e he x xB; omega
     · obtain ⟨eB, h3⟩ := (mem e).1 he
       rcases Int.lt_or_le e.sq x.sq with z | z
       · exact h3 ⟨by omega, .inl ⟨x, .inl xB, hm.1.trans hme.1.symm, z, hd.1⟩⟩
       · have : e = x := by
          rcases enLt_tri e x with y | y | y
          · rcases List.mem_append.1 (sub e (List.mem_append_right _ he)) with _ | _
            all_goals
             rcases y with y | ⟨_, y⟩
             · rw [hme.1, hm.1] at y; exact absurd y (kLt_irrefl _)
             · omega
          · have hne := fun (w : ¬ e = x) => List.Pairwise.forall_of_forall_of_flip (R := fun a b : En => a.ky = b.ky ∧ a.sq = b.sq → a = b) (l := B) (fun _ _ _ => rfl) (hB.imp fun {a b} hab hh => absurd (show enLt a b from hab) (fun g => by
             rcases g with g | ⟨_, g⟩
             · rw [hh.1] at g; exact kLt_irrefl _ g
             · omega)) (hB.imp fun {a b} hab hh => absurd (show enLt a b from hab) (fun g => by
             rcases g with g | ⟨_, g⟩
             · rw [hh.1] at g; exact kLt_irrefl _ g
             · omega)) eB xB y
            exact Classical.byContradiction fun w => w (hne w)
          · rcases y with y | ⟨_, y⟩
            · rw [hme.1, hm.1] at y; exact absurd y (kLt_irrefl _)
            · omega
         subst this; exact hnot he
theorem FndOf.cg {A A' : List En} {k : ByteArray} {q : Int} {x : En} (h : FndOf A k q x) (hm : ∀ e, e ∈ A ↔ e ∈ A') : FndOf A' k q x := by
 obtain ⟨bo, hb, e⟩ := h; exact ⟨bo, hb.cg (fun e he => (hm e).1 he) (fun e he _ => (hm e).2 he), e⟩
theorem SrtOf.strict {A B : List En} (h : SrtOf A B) (hn : (A.map En.sq).Nodup) : B.Pairwise enLt := pw_strict h.pw (nd_perm h.perm hn)
theorem TbOk.rnd {t : Tt} (h : TbOk t) : (t.rs.flatten.map En.sq).Nodup := List.Nodup.sublist ((List.sublist_append_right _ _).map _) h.nd
def isPut (o : TOp) (u : Ot) : Prop := (o.kd = 1 ∨ o.kd = 2) ∧ u.cd = 0
theorem Stp.keep {t t' : Tt} {o : TOp} {u : Ot} (h : TbOk t) (hs : Stp t o t' u) (hn : ¬ isPut o u) : t'.sq = t.sq ∧ t.fl ≤ t'.fl ∧ ∀ q, t'.fl ≤ q → ∀ k x, FndOf t.all k q x → FndOf t'.all k q x := by
 cases hs with
 | put B hk h1 h2 h3 hB => exact absurd ⟨hk, rfl⟩ hn
 | flush hk h1 h2 =>
  refine ⟨rfl, Int.le_refl _, fun q _ k x hx => hx.cg fun e => ?_⟩; unfold Tt.all; simp only [List.mem_append, List.flatten_append, List.flatten_cons, List.flatten_nil, List.append_nil, List.nil_append]; exact Or.comm
 | comp0 B hk h1 h2 h3 =>
  refine ⟨rfl, by show t.fl ≤ o.sq; omega, fun q hq k x hx => ?_⟩; obtain ⟨bo, hb, e⟩ := hx; have hb' : IsB (fun e => e ∈ t.fr ++ B) k q bo := hb.cg (fun e he => by unfold Tt.all at he; simp only [List.mem_append, h2.mem] at he ⊢; exact he) (fun e he _ => by unfold Tt.all; simp only [List.mem_append, h2.mem] at he ⊢; exact he); obtain ⟨bo', g1, g2⟩ := cmp_find (h2.strict h.rnd) (fun e he x hx => h.up e he x ((h2.mem x).1 hx)) (show o.sq ≤ q from hq) hb'; rw [h3] at g1; exact ⟨bo', g1, by rw [e, g2]⟩
 | comp B hk h1 h2 h3 =>
  refine ⟨rfl, by show t.fl ≤ o.sq; omega, fun q hq k x hx => ?_⟩; obtain ⟨bo, hb, e⟩ := hx; have hb' : IsB (fun e => e ∈ t.fr ++ B) k q bo := hb.cg (fun e he => by unfold Tt.all at he; simp only [List.mem_append, h2.mem] at he ⊢; exact he) (fun e he _ => by unfold Tt.all; simp only [List.mem_append, h2.mem] at he ⊢; exact he); obtain ⟨bo', g1, g2⟩ := cmp_find (h2.strict h.rnd) (fun e he x hx => h.up e he x ((h2.mem x).1 hx)) (show o.sq ≤ q from hq) hb'; refine ⟨bo', ?_, by rw [e, g2]⟩; unfold Tt.all
  simpa using g1
 | _ => exact ⟨rfl, Int.le_refl _, fun _ _ _ _ hx => hx⟩
theorem Stp.put_find {t t' : Tt} {o : TOp} {u : Ot} (h : TbOk t) (hs : Stp t o t' u) (hp : isPut o u) : FndOf t'.all o.ky t'.sq (fndE (some (newE t o))) ∧ t'.sq = t.sq + 1 := by
 obtain ⟨hk, hc⟩ := hp
 cases hs with
 | put B _ h1 h2 h3 hB =>
  refine ⟨⟨_, .inr ⟨newE t o, rfl, ?_, ⟨rfl, Int.le_refl _⟩, fun e he hm => hm.2⟩, rfl⟩, rfl⟩
  show newE t o ∈ B ++ t.rs.flatten
  rw [List.mem_append, hB.mem]
  simp
 | key _ _ => cases hc
 | big _ _ _ => cases hc
 | full _ _ _ _ => cases hc
 | flush0 a _ => omega
 | flush a _ _ => omega
 | flushF a _ _ => omega
 | compF a _ => omega
 | comp0 _ a _ _ _ => omega
 | comp _ a _ _ _ => omega
 | late a _ => omega
 | ahead a _ _ => omega
 | scan _ _ a _ _ _ _ => omega
 | get _ a _ _ _ => omega
 | other a b _ _ _ _ => omega
def lastE (o : TOp) (s : Int) : En := ⟨o.ky, s, o.kd == 2, if o.kd = 2 then ⟨#[]⟩ else o.tx⟩
theorem Rns8.last {o : Nat → TOp} {t0 : Tt} (h0 : TbOk t0) {n : Nat} {t : Tt} {us : List Ot} (h : Rns8 o t0 n t us) : ∀ {i : Nat} {u : Ot}, i < n → us[i]? = some u → isPut (o i) u → (∀ j v, i < j → us[j]? = some v → ¬ isPut (o j) v) → FndOf t.all (o i).ky t.sq (fndE (some (lastE (o i) t.sq))) := by
 induction h with
 | zero => intro i u hi; exact absurd hi (Nat.not_lt_zero _)
 | @next n t t' us v hr hs ih =>
  intro i u hi hu hp hno; have hl := hr.len; have hT := hr.tb h0
  by_cases e : i = n
  · subst e
    have : u = v := by
     rw [List.getElem?_append_right (by omega), hl] at hu
     simpa using hu.symm
    subst this; obtain ⟨g1, g2⟩ := hs.put_find hT hp; rw [show lastE (o i) t'.sq = newE t (o i) by unfold lastE newE; rw [g2]]; exact g1
  · have hi' : i < n := by omega
    rw [List.getElem?_append_left (by omega)] at hu; have hk := hs.keep hT (hno n v (by omega) (by rw [List.getElem?_append_right (by omega), hl]; simp))
    have := ih hi' hu hp fun j w hj hw => hno j w hj (by
     have : j < us.length := by
      rcases Nat.lt_or_ge j us.length with z | z
      · exact z
      · rw [List.getElem?_eq_none z] at hw; cases hw
     rw [List.getElem?_append_left this]; exact hw)
    rw [hk.1]; exact hk.2.2 _ (by have := (hs.tb hT).fs; rw [hk.1] at this; exact this) _ _ this
theorem Rns8.keep {o : Nat → TOp} {t0 : Tt} (h0 : TbOk t0) {n : Nat} {t : Tt} {us : List Ot} (h : Rns8 o t0 n t us) (hn : ∀ j, j < n → (o j).kd ≠ 1 ∧ (o j).kd ≠ 2) : t.sq = t0.sq ∧ t0.fl ≤ t.fl ∧ ∀ q, t.fl ≤ q → ∀ k x, FndOf t0.all k q x → FndOf t.all k q x := by
 induction h with
 | zero => exact ⟨rfl, Int.le_refl _, fun _ _ _ _ hx => hx⟩
 | @next n t t' us v hr hs ih =>
  obtain ⟨a1, a2, a3⟩ := ih fun j hj => hn j (by omega); have b := hn n (by omega); obtain ⟨b1, b2, b3⟩ := hs.keep (hr.tb h0) (fun z => z.1.elim b.1 b.2); exact ⟨b1.trans a1, Int.le_trans a2 b2, fun q hq k x hx => b3 q hq k x (a3 q (Int.le_trans b2 hq) k x hx)⟩
end Go.Proofs.YtcbmgpdpjagaoaaGreat
namespace Go.Proofs.YtcbmgpdpjagaoaaGreat
open Go.RowKit
set_option linter.unusedVariables false
theorem Sd.srt {A : List En} {S : List Tg} (h : Sd (enA A) A.length S) : SrtOf A (S.map Prod.fst) := ⟨S, h, rfl⟩
open Classical in
theorem rem_ex2 {R : Nat → Rn} {m : Nat} {k : ByteArray} {st : Nat → Nat} (h : StOk R m k st) : ∃ S : List Tg, S.Pairwise tLt ∧ Rem S R m st 0 ∧ S.length ≤ cntR R m ∧ (∀ x ∈ S, ¬ enLt x.1 (plE k 9223372036854775807)) ∧ ∃ B, SrtOf (allE R m) B ∧ (S.map Prod.fst).Sublist B := by
 obtain ⟨S, hS⟩ := sd_ex (enA (allE R m)) (cntR R m); refine ⟨S.filter (fun x => decide (¬ enLt x.1 (plE k 9223372036854775807))), hS.pw.filter _, fun x => ?_, ?_, fun x hx => ?_, S.map Prod.fst, ⟨S, by rw [allE_len]; exact hS, rfl⟩, List.filter_sublist.map _⟩
 · have e := hS.rem x
   rw [List.drop_zero] at e; rw [List.drop_zero, List.mem_filter, e]
   constructor
   · rintro ⟨⟨r, hr, p, _, hp, rfl⟩, hn⟩
     have hn : ¬ enLt ((R r).o p) (plE k 9223372036854775807) := of_decide_eq_true hn; refine ⟨r, hr, p, ?_, hp, rfl⟩
     rcases Nat.lt_or_ge p (st r) with q | q
     · exact absurd ((h r hr).2.1 p q) hn
     · exact q
   · rintro ⟨r, hr, p, h1, hp, rfl⟩
     exact ⟨⟨r, hr, p, Nat.zero_le _, hp, rfl⟩, decide_eq_true (show ¬ enLt ((R r).o p) (plE k 9223372036854775807) from (h r hr).2.2 p h1 hp)⟩
 · exact Nat.le_trans (List.length_filter_le _ _) (by rw [hS.len]; exact Nat.le_refl _)
 · exact of_decide_eq_true (List.mem_filter.1 hx).2
theorem allE_cg8 {R R' : Nat → Rn} : ∀ m, (∀ k, k < m → R k = R' k) → allE R m = allE R' m
 | 0, _ => rfl
 | m + 1, h => by
  show allE R m ++ _ = allE R' m ++ _
  rw [allE_cg8 m fun k hk => h k (by omega), h m (by omega)]
theorem allE_snoc (R : Nat → Rn) (m : Nat) (x : Rn) : allE (snoc R m x) (m + 1) = allE R m ++ (List.range x.n).map x.o := by
 show allE (snoc R m x) m ++ (List.range (snoc R m x m).n).map (snoc R m x m).o = _
 rw [allE_cg8 (R := snoc R m x) (R' := R) m fun k hk => by unfold snoc; rw [if_pos hk], show snoc R m x m = x by unfold snoc; rw [if_neg (Nat.lt_irrefl _)]]
theorem fnd_uni {A : List En} {q : Int} {fe : ByteArray → En} (hu : ∀ e e', e ∈ A → e' ∈ A → e.sq = e'.sq → e = e') (hfe : ∀ k, FndOf A k q (fe k)) : ∀ k bo, IsB (fun x => x ∈ A) k q bo → fe k = fndE bo := fun k bo h => by
 obtain ⟨b, hb, e⟩ := hfe k; rw [e, hb.uniq hu h]
theorem scan_runs {s f : Int} {n0 : Nat} {o0 : Nat → En} {m : Nat} {R : Nat → Rn} (ht : tabOk s f n0 o0 m R) (x : Rn) (hn : x.n = n0) (ho : x.o = o0) (key til : ByteArray) (q lim : Int) {L : List En} {fe : ByteArray → En} (hL : SrtOf (allTb n0 o0 R m) L) (hfe : ∀ k, FndOf (allTb n0 o0 R m) k q (fe k)) :
 ∃ st S, RSrt (snoc R m x) (m + 1) ∧ StOk (snoc R m x) (m + 1) key st ∧ S.Pairwise tLt ∧ Rem S (snoc R m x) (m + 1) st 0 ∧ S.length ≤ 1000 ∧ scL til q lim ⟨#[]⟩ [] (S.map Prod.fst) = scN lim fe L key til L.length := by
 have tb := tb_of_tab ht; have hall := ttOf_all s f n0 o0 m R; have hnd := tb.nd; rw [hall] at hnd; have hfit := tb.fit; rw [hall] at hfit; have hq1 : s ≤ 4611686018427387904 := tb.q1; have hR := snoc_srt ht x hn ho; obtain ⟨st, hst⟩ := st_ex hR key; obtain ⟨S, h1, h2, h3, h4, B, hB, hsub⟩ := rem_ex2 hst; have eA : allE (snoc R m x) (m + 1) = allE R m ++ (List.range n0).map o0 := by rw [allE_snoc, hn, ho]
 have ndB : ((allE (snoc R m x) (m + 1)).map En.sq).Nodup := by
  rw [eA]; exact nd_perm List.perm_append_comm hnd
 have hBs := hB.strict ndB; refine ⟨st, S, hR, hst, h1, h2, ?_, ?_⟩
 · have h5 : cntR (snoc R m x) (m + 1) = cntR R m + x.n := snoc_cnt R m x
   have h6 := tb.cnt; rw [hall, allTb_len] at h6; rw [hn] at h5
   omega
 · refine scan_same (fnd_uni (map_inj _ hnd) hfe) (fun e he => ?_) (hL.strict hnd) hL.mem (hBs.sublist hsub) fun e => ?_
   · have := (hfit e he).1
     refine ⟨fun z => ?_, this.2.2.1⟩; have h7 := this.1; rw [z] at h7; exact absurd h7 (by decide)
   · constructor
     · intro he
       obtain ⟨y, hy, rfl⟩ := List.mem_map.1 he; have hn4 := h4 y hy; rw [show S = S.drop 0 from rfl, h2 y] at hy; obtain ⟨r, hr, p, _, hp, rfl⟩ := hy; refine ⟨?_, ?_⟩
       · have := (snoc_mem (R := R) (m := m) (x := x) (e := (tgR (snoc R m x) r p).1)).1 ⟨r, hr, p, hp, rfl⟩
         rw [hn, ho] at this; exact this
       · cases z : kLt (tgR (snoc R m x) r p).1.ky key with
         | false => rfl
         | true => exact absurd (.inl z) hn4
     · rintro ⟨he, hk⟩
       have hf := hfit e he; have hmem := (snoc_mem (R := R) (m := m) (x := x) (e := e)).2 (by rw [hn, ho]; exact he); obtain ⟨r, hr, p, hp, rfl⟩ := hmem; refine List.mem_map.2 ⟨tgR (snoc R m x) r p, ?_, rfl⟩; rw [show S = S.drop 0 from rfl, h2]; refine ⟨r, hr, p, ?_, hp, rfl⟩
       rcases Nat.lt_or_ge p (st r) with z | z
       · rcases (hst r hr).2.1 p z with y | ⟨_, y⟩
         · rw [show (plE key 9223372036854775807).ky = key from rfl, hk] at y; cases y
         · have y : (9223372036854775807 : Int) < ((snoc R m x r).o p).sq := y
           have y2 : ((snoc R m x r).o p).sq ≤ s := hf.2
           omega
       · exact z
theorem tab_runs {s f : Int} {n0 : Nat} {o0 : Nat → En} {m : Nat} {R : Nat → Rn} (ht : tabOk s f n0 o0 m R) : runsOk R m := by
 refine ⟨fun k hk => ht.2.2.1.1 k hk, ?_⟩; have := ht.2.2.2.1
 omega
theorem comp_runs {s f : Int} {n0 : Nat} {o0 : Nat → En} {m : Nat} {R : Nat → Rn} (ht : tabOk s f n0 o0 m R) (fl : Int) : ∃ S, RSrt R m ∧ StOk R m ⟨#[]⟩ (fun _ => 0) ∧ S.Pairwise tLt ∧ Rem S R m (fun _ => 0) 0 ∧ S.length ≤ 1000 ∧ SrtOf (allE R m) (S.map Prod.fst) ∧ mgP fl ⟨#[]⟩ (S.map Prod.fst) = mgS fl none (S.map Prod.fst) := by
 have hr := tab_runs ht; obtain ⟨S, hS⟩ := sd_ex (enA (allE R m)) (cntR R m); have hc := ht.2.2.2.1; refine ⟨S, runs_srt hr, runs_st hr, hS.pw, hS.rem, ?_, ⟨S, by rw [allE_len]; exact hS, rfl⟩, mg_same fl _ (sd_pw hS.pw) fun e he => ?_⟩
 · rw [hS.len]; omega
 · have := sd_fit hr hS e he
   intro z; have h7 := this.1; rw [z] at h7; exact absurd h7 (by decide)
theorem fnr_of {s f : Int} {n0 : Nat} {o0 : Nat → En} {m : Nat} {R : Nat → Rn} {key : ByteArray} {q : Int} {x : En} (ht : tabOk s f n0 o0 m R) (h : FnR s f n0 o0 m R key q x) : FndOf (allTb n0 o0 R m) key q x := by
 rcases h with ⟨h, _⟩ | ⟨_, h⟩
 · exact absurd ht h
 · exact h
theorem fnd_zero {A : List En} {k : ByteArray} {q : Int} {x : En} (h : FndOf A k q x) (hA : ∀ e ∈ A, 1 ≤ e.sq) : x = en0 ∨ 1 ≤ x.sq := by
 obtain ⟨bo, hb, rfl⟩ := h
 rcases hb with ⟨rfl, _⟩ | ⟨y, rfl, hy, _⟩
 · exact .inl rfl
 · show (if y.gn = true then en0 else y) = en0 ∨ 1 ≤ (if y.gn = true then en0 else y).sq
   by_cases g : y.gn = true
   · rw [if_pos g]; exact .inl rfl
   · rw [if_neg g]; exact .inr (hA y hy)
theorem TbOk.frl {t : Tt} (h : TbOk t) : t.fr.length ≤ 1000 := by
 have := h.cnt; unfold Tt.all at this; rw [List.length_append] at this
 omega
theorem TbOk.frnd {t : Tt} (h : TbOk t) : (t.fr.map En.sq).Nodup := List.Nodup.sublist ((List.sublist_append_left _ _).map _) h.nd
theorem rnsz_snoc {R : Nat → Rn} {m : Nat} {x : Rn} (h : RnSz R m) (hx : x.n ≤ 1048576 ∧ ∀ i, i < x.n → (x.o i).ky.size ≤ 1048576 ∧ (x.o i).tx.size ≤ 1048576) : RnSz (snoc R m x) (m + 1) := fun k hk => by
 by_cases e : k < m
 · rw [show snoc R m x k = R k by unfold snoc; rw [if_pos e]]; exact h k e
 · rw [show snoc R m x k = x by unfold snoc; rw [if_neg e]]; exact hx
theorem fit_sz {e : En} (h : fitE e) : e.ky.size ≤ 1048576 ∧ e.tx.size ≤ 1048576 := by unfold fitE at h; omega
theorem tab_sz {s f : Int} {n0 : Nat} {o0 : Nat → En} {m : Nat} {R : Nat → Rn} (ht : tabOk s f n0 o0 m R) : RnSz R m ∧ ∀ i, i < n0 → (o0 i).ky.size ≤ 1048576 ∧ (o0 i).tx.size ≤ 1048576 := by
 refine ⟨fun k hk => ?_, fun i hi => fit_sz (ht.2.1.2.1 i hi)⟩; have := ht.2.2.1.1 k hk; exact ⟨Nat.le_trans this.1 (by decide), fun i hi => fit_sz (this.2.1 i hi)⟩
end Go.Proofs.YtcbmgpdpjagaoaaGreat
