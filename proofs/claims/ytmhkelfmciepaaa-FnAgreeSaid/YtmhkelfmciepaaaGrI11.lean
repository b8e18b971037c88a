import Derived.Test.YtmhkelfmciepaaaGrI10
import Derived.Test.YtmhkelfmciepaaaC1
import Derived.Deep.AppendLies
import Derived.Deep.RegionLaw
namespace Go.Proofs.Ytmhkelfmciepaaa
open Go.RowKit
set_option linter.unusedVariables false
/-! A member's log is written. -/
theorem ges_cells {w : World} {ad : Addr} {M : List Ge} (hM : ∀ k, k < M.length → w.cell? (ad.add (k * 2)) = some (.int .i64 (geAt M k).tm) ∧ w.cell? (ad.add (k * 2 + 1)) = some (.string (geAt M k).tx)) : ∀ j u, (geL M)[j]? = some u → w.cell? (ad.add j) = some u := by
  intro j u hj
  have hl : j < M.length * 2 := by rw [← geL_len]; exact (List.getElem?_eq_some_iff.1 hj).1
  have q := geL_at M (j / 2) (by omega)
  have q2 := hM (j / 2) (by omega)
  rcases (by omega : j = j / 2 * 2 ∨ j = j / 2 * 2 + 1) with e | e
  · rw [e] at hj ⊢
    rw [q.1] at hj
    rw [q2.1]; exact hj
  · rw [e] at hj ⊢
    rw [q.2] at hj
    rw [q2.2]; exact hj
theorem step_append_ges {ops : Array Oper} {o : Oper} {a : Act} {K : Act → World → Prop} {Q : Exit → Act → World → Prop} {E : Prop} (base : Nat) (w : World) (hgd : o.guard = none) (s x : Operand)
    (ho : o.op = .call { callee := .builtin .append, args := #[s, x], argTypes := #[26, 26] })
    (v : Value) (L M : List Ge) (hs : a.eval s = v) (hown : OwnGe w base v L) (hsz : base ≤ w.heap.size) (ad : Addr) (c : Nat) (hx : a.eval x = .slice (some ad) M.length c) (hM : ∀ k, k < M.length → w.cell? (ad.add (k * 2)) = some (.int .i64 (geAt M k).tm) ∧ w.cell? (ad.add (k * 2 + 1)) = some (.string (geAt M k).tx)) (h0 : 0 < M.length) (hlen : L.length + M.length ≤ 1048576)
    (h : ∀ g cap w', OwnGe w' base (.slice (some ⟨g, 0, none⟩) (L.length + M.length) cap) (L ++ M) → w.grownBy w' v.ownBlock → (v.ownBlock = some g ∨ g = w.heap.size) → K (a.put o.dst (.slice (some ⟨g, 0, none⟩) (L.length + M.length) cap)) w') :
    if Region.wanted o (yielded ops a.tmps) = true then Oper.wp Try.prog o a w K Q else E := by
  obtain ⟨i0, hi, hz0, hz1, hz2⟩ := info_parts Try.infoGe2
  refine step_append_lies w hgd s x 26 ho base 46 i0 _ 2 24 Try.underlying26 hi hz0 hz1 hz2 rfl (by decide) v L.length _ hs hown ad M.length c (geL M) hx (geL_len M) (ges_cells hM) (geL_one M) h0 (by unfold maxLen; omega) (by omega) hsz w.heap.size rfl ?_
  intro g cap w' h1 h2 h3 _
  refine h g cap w' ?_ h2 h3
  unfold OwnGe
  rw [geL_app, List.length_append]
  exact h1
section
variable {w : World} {B gb N : Nat} {s : Gst} {pb : Nat → Nat} {la : Nat → Option Addr} {lc mb : Nat → Nat}
theorem GpL.far (h : GpL w B gb N s pb la lc mb) {k : Nat} (hk : k < N) {w' : World} (hg : w.grownBy w' (Value.slice (la k) (s k).lg.length (lc k)).ownBlock) {b : Nat} {t : TypeId} {cs : Array Value} (hr : RowAt w b t cs) (ht : t ≠ 46) : RowAt w' b t cs := by
  refine (hg.block b hr.lt fun e => ?_).trans hr
  obtain ⟨ds, hd⟩ := (h.log k hk).row e.symm
  exact row_apart hr hd ht rfl
/-- a new log of a member's -/
theorem GpL.putLog (h : GpL w B gb N s pb la lc mb) {k : Nat} (hk : k < N) {w' : World} {L' : List Ge} {g cap : Nat} (ho : OwnGe w' B (.slice (some ⟨g, 0, none⟩) L'.length cap) L') (hg : w.grownBy w' (Value.slice (la k) (s k).lg.length (lc k)).ownBlock) (hl : (Value.slice (la k) (s k).lg.length (lc k)).ownBlock = some g ∨ g = w.heap.size) :
    GpL (w'.setCell ⟨pb k, 4, none⟩ (.slice (some ⟨g, 0, none⟩) L'.length cap)) B gb N (putM s k { s k with lg := L' }) pb (fun j => if j = k then some ⟨g, 0, none⟩ else la j) (fun j => if j = k then cap else lc j) mb := by
  have hm := h.far hk hg (h.mem k hk) (by decide)
  have ho2 : ∀ {b t cs}, RowAt w b t cs → t ≠ 46 → t ≠ 65 → RowAt (w'.setCell ⟨pb k, 4, none⟩ (.slice (some ⟨g, 0, none⟩) L'.length cap)) b t cs := fun hr ht ht2 => (h.far hk hg hr ht).other _ _ (row_apart (h.far hk hg hr ht) hm ht2)
  have hfar : ∀ j, j < N → j ≠ k → OwnGe w' B (.slice (la j) (s j).lg.length (lc j)) (s j).lg := fun j hj hjk => (h.log j hj).keep fun b cs hb hr => (hg.block b hr.lt fun e => by
    rcases h.nel j k hj hk hjk with h0 | h0
    · rw [h0] at hb; cases hb
    · exact h0 (hb.trans e)).trans hr
  have hne : ∀ j, j < N → j ≠ k → (Value.slice (la j) (s j).lg.length (lc j)).ownBlock = none ∨ (Value.slice (la j) (s j).lg.length (lc j)).ownBlock ≠ some g := fun j hj hjk => by
    rcases h.nel j k hj hk hjk with h0 | h0
    · exact .inl h0
    · refine .inr fun e => ?_
      rcases hl with h1 | h1
      · exact h0 (e.trans h1.symm)
      · obtain ⟨cs, hr⟩ := (h.log j hj).row e
        have := hr.lt
        omega
  refine ⟨h.lo, ho2 h.all (by decide) (by decide), fun j hj => ?_, h.mlo, fun j hj => ?_, fun j hj => ?_, h.nep, h.nem, fun i j hi hj hij => ?_⟩
  · by_cases e : j = k
    · subst e
      rw [putM_self, if_pos rfl, if_pos rfl]
      exact hm.set 4 _
    · rw [putM_ne _ _ _ e, if_neg e, if_neg e]
      exact (h.far hk hg (h.mem j hj) (by decide)).other _ _ (h.nep j k hj hk e)
  · have kp : ∀ {v L}, OwnGe w' B v L → OwnGe (w'.setCell ⟨pb k, 4, none⟩ (.slice (some ⟨g, 0, none⟩) L'.length cap)) B v L := fun hh => hh.keep fun b cs _ hr => hr.other _ _ (row_apart hr hm (by decide))
    by_cases e : j = k
    · subst e
      rw [putM_self, if_pos rfl, if_pos rfl]
      exact kp ho
    · rw [putM_ne _ _ _ e, if_neg e, if_neg e]
      exact kp (hfar j hj e)
  · have q := ho2 (h.mat j hj).1 (by decide) (by decide)
    by_cases e : j = k
    · subst e
      rw [putM_self]
      exact ⟨q, (h.mat j hj).2⟩
    · rw [putM_ne _ _ _ e]
      exact ⟨q, (h.mat j hj).2⟩
  · by_cases e : i = k
    · subst e
      have ej : j ≠ i := fun e => hij e.symm
      rw [putM_self, if_pos rfl, if_pos rfl, putM_ne _ _ _ ej, if_neg ej, if_neg ej]
      refine .inr fun e2 => ?_
      rcases hne j hj ej with h0 | h0
      · rw [h0] at e2; cases e2
      · exact h0 e2.symm
    · rw [putM_ne _ _ _ e, if_neg e, if_neg e]
      by_cases ej : j = k
      · subst ej
        rw [putM_self, if_pos rfl, if_pos rfl]
        exact hne i hi e
      · rw [putM_ne _ _ _ ej, if_neg ej, if_neg ej]
        exact h.nel i j hi hj hij
/-- what is not the members' is kept by it -/
theorem Kq.putLog {W : World} (q : Kq w W) (h : GpL W B gb N s pb la lc mb) {k : Nat} (hk : k < N) {w' : World} (hg : W.grownBy w' (Value.slice (la k) (s k).lg.length (lc k)).ownBlock) (v : Value) : Kq w (w'.setCell ⟨pb k, 4, none⟩ v) := by
  have hm := h.far hk hg (h.mem k hk) (by decide)
  refine Kq.set (a := ⟨pb k, 4, none⟩) (q.grownM hg fun g e => ?_) _ hm (.inl rfl)
  obtain ⟨cs, hr⟩ := (h.log k hk).row e
  exact .inr ⟨_, _, hr, .inr (.inr rfl)⟩
theorem GpL.logB (h : GpL w B gb N s pb la lc mb) {k : Nat} (hk : k < N) : ∀ x, (Value.slice (la k) (s k).lg.length (lc k)).ownBlock = some x → B ≤ x := fun x e => (World.ownsRow.lt (h.log k hk) x e).1
/-- an append to a member's log, some blocks made ahead of it -/
theorem GpL.afterApp (h : GpL w B gb N s pb la lc mb) {k : Nat} (hk : k < N) {L : List Ge} (hL : L = (s k).lg) {wa w7 : World} {M : List Ge} {g cap n : Nat} (hn : n ≤ w.heap.size) (hBn : B ≤ w.heap.size) (b : Below w.heap.size w wa) (v : Value) (hv : v.ownBlock = (Value.slice (la k) (s k).lg.length (lc k)).ownBlock) (hO : OwnGe w7 B (.slice (some ⟨g, 0, none⟩) M.length cap) M) (hg : wa.grownBy w7 v.ownBlock) (hl : v.ownBlock = some g ∨ g = wa.heap.size) :
    w7.cell? ⟨pb k, 4, none⟩ = some (.slice (la k) L.length (lc k)) ∧ w7.frozen? ⟨pb k, 4, none⟩ = false ∧ GpL (w7.setCell ⟨pb k, 4, none⟩ (.slice (some ⟨g, 0, none⟩) M.length cap)) B gb N (putM s k { s k with lg := M }) pb (fun j => if j = k then some ⟨g, 0, none⟩ else la j) (fun j => if j = k then cap else lc j) mb ∧ Kq w (w7.setCell ⟨pb k, 4, none⟩ (.slice (some ⟨g, 0, none⟩) M.length cap)) ∧ Below B w (w7.setCell ⟨pb k, 4, none⟩ (.slice (some ⟨g, 0, none⟩) M.length cap)) := by
  have ha := h.below b
  rw [hv] at hg hl
  have hm := ha.far hk hg (ha.mem k hk) (by decide)
  refine ⟨(hm.cell 4).trans (by rw [hL]; rfl), hm.free 4, ha.putLog hk hO hg hl, Kq.putLog ((Kq.refl w).below b) ha hk hg _, ?_⟩
  have bB : Below B w wa := b.mono hBn
  exact (bB.grown hg (Nat.le_trans hBn b.size) (fun x hx => ha.logB hk x hx)).setCell (ha.mlo k hk) _
end
end Go.Proofs.Ytmhkelfmciepaaa
