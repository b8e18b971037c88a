import Derived.Test.YtmhkelfmciepaaaGrM
namespace Go.Proofs.Ytmhkelfmciepaaa
open Go.RowKit
set_option linter.unusedVariables false
/-! The specification's members in memory. -/
/-- a log that reads as these entries -/
def geAt (L : List Ge) (i : Nat) : Ge := L.getD i ge0
def LogR (w : World) (a : Option Addr) (c : Nat) (L : List Ge) : Prop :=
  L.length ≤ c ∧ ((L.length = 0 ∧ (a = none → c = 0)) ∨ ∃ g cs, a = some ⟨g, 0, none⟩ ∧ RowAt w g 46 cs ∧ ∀ k, k < L.length → cs[k * 2]? = some (.int .i64 (geAt L k).tm) ∧ cs[k * 2 + 1]? = some (.string (geAt L k).tx))
theorem LogR.ges {w : World} {a : Option Addr} {c : Nat} {L : List Ge} (h : LogR w a c L) : Ges w a L.length c (geAt L) := by
  refine ⟨h.1, ?_⟩
  rcases h.2 with h0 | ⟨g, cs, rfl, hr, hc⟩
  · exact .inl h0.1
  · refine .inr ⟨g, 0, rfl, hr.lt, fun k hk => ?_⟩
    rw [Nat.zero_add, hr.cell, hr.cell]
    exact hc k hk
theorem LogR.below {w w' : World} {a : Option Addr} {c : Nat} {L : List Ge} (h : LogR w a c L) (hb : Below w.heap.size w w') : LogR w' a c L := by
  refine ⟨h.1, ?_⟩
  rcases h.2 with h0 | ⟨g, cs, rfl, hr, hc⟩
  · exact .inl h0
  · exact .inr ⟨g, cs, rfl, hr.below hb hr.lt, hc⟩
theorem LogR.far {w w' : World} {a : Option Addr} {c : Nat} {L : List Ge} (h : LogR w a c L) (e : ∀ g cs, RowAt w g 46 cs → RowAt w' g 46 cs) : LogR w' a c L := by
  refine ⟨h.1, ?_⟩
  rcases h.2 with h0 | ⟨g, cs, rfl, hr, hc⟩
  · exact .inl h0
  · exact .inr ⟨g, cs, rfl, e g cs hr, hc⟩
theorem row_apart {w : World} {b g : Nat} {t u : TypeId} {cs ds : Array Value} (h : RowAt w b t cs) (h' : RowAt w g u ds) (ht : t ≠ u) : b ≠ g := by
  rintro rfl
  have e : some (Obj.cells cs t (0, 0)) = some (Obj.cells ds u (0, 0)) := (Eq.symm h).trans h'
  injection e with e
  injection e with e1 e2
  exact ht e2
/-- the cells of a row of members -/
def mbF (la : Nat → Option Addr) (lc mb : Nat → Nat) (N : Nat) (s : Gst) (p : Nat) : Value :=
  if p % 6 = 0 then .int .i64 (s (p / 6)).tm else if p % 6 = 1 then .int .i64 (s (p / 6)).vt else if p % 6 = 2 then .bool (s (p / 6)).ld else if p % 6 = 3 then .int .i64 ((s (p / 6)).cm : Int)
  else if p % 6 = 4 then .slice (la (p / 6)) (s (p / 6)).lg.length (lc (p / 6)) else .slice (some ⟨mb (p / 6), 0, none⟩) N N
section
variable (la : Nat → Option Addr) (lc mb : Nat → Nat) (N : Nat) (s : Gst) (k : Nat)
theorem mbF0 : mbF la lc mb N s (k * 6) = .int .i64 (s k).tm := by unfold mbF; rw [if_pos (by omega), show (k * 6) / 6 = k by omega]
theorem mbF1 : mbF la lc mb N s (k * 6 + 1) = .int .i64 (s k).vt := by unfold mbF; rw [if_neg (by omega), if_pos (by omega), show (k * 6 + 1) / 6 = k by omega]
theorem mbF2 : mbF la lc mb N s (k * 6 + 2) = .bool (s k).ld := by unfold mbF; rw [if_neg (by omega), if_neg (by omega), if_pos (by omega), show (k * 6 + 2) / 6 = k by omega]
theorem mbF3 : mbF la lc mb N s (k * 6 + 3) = .int .i64 ((s k).cm : Int) := by unfold mbF; rw [if_neg (by omega), if_neg (by omega), if_neg (by omega), if_pos (by omega), show (k * 6 + 3) / 6 = k by omega]
theorem mbF4 : mbF la lc mb N s (k * 6 + 4) = .slice (la k) (s k).lg.length (lc k) := by unfold mbF; rw [if_neg (by omega), if_neg (by omega), if_neg (by omega), if_neg (by omega), if_pos (by omega), show (k * 6 + 4) / 6 = k by omega]
theorem mbF5 : mbF la lc mb N s (k * 6 + 5) = .slice (some ⟨mb k, 0, none⟩) N N := by unfold mbF; rw [if_neg (by omega), if_neg (by omega), if_neg (by omega), if_neg (by omega), if_neg (by omega), show (k * 6 + 5) / 6 = k by omega]
end
theorem mbF_put {la la' : Nat → Option Addr} {lc lc' mb mb' : Nat → Nat} {N : Nat} {s s' : Gst} {k i : Nat} {v : Value} (hi : i < 6) (hk : ∀ j, j < 6 → mbF la' lc' mb' N s' (k * 6 + j) = if j = i then v else mbF la lc mb N s (k * 6 + j))
    (hne : ∀ j, j ≠ k → la' j = la j ∧ lc' j = lc j ∧ mb' j = mb j ∧ s' j = s j) (p : Nat) : putF (mbF la lc mb N s) (k * 6 + i) v p = mbF la' lc' mb' N s' p := by
  unfold putF
  by_cases e : p / 6 = k
  · have h := hk (p % 6) (by omega)
    rw [show k * 6 + p % 6 = p by omega] at h
    rw [h]
    by_cases e2 : p % 6 = i
    · rw [if_pos (by omega), if_pos e2]
    · rw [if_neg (by omega), if_neg e2]
  · rw [if_neg (by omega)]
    obtain ⟨h1, h2, h3, h4⟩ := hne (p / 6) e
    unfold mbF
    rw [h1, h2, h3, h4]
/-- the members lie in the block b -/
structure SpL (w : World) (B b N : Nat) (s : Gst) (la : Nat → Option Addr) (lc mb : Nat → Nat) : Prop where
  hB : B ≤ b
  row : FRow w b 36 (N * 6) (mbF la lc mb N s)
  log : ∀ k, k < N → LogR w (la k) (lc k) (s k).lg
  mat : ∀ k, k < N → RowAt w (mb k) 2 (ints .i64 (s k).mt) ∧ B ≤ mb k ∧ (s k).mt.length = N
  ne : ∀ i j, i < N → j < N → i ≠ j → mb i ≠ mb j
def SpAt (w : World) (B b N : Nat) (s : Gst) : Prop := ∃ la lc mb, SpL w B b N s la lc mb
section
variable {w w' : World} {B b N : Nat} {s : Gst} {la : Nat → Option Addr} {lc mb : Nat → Nat}
theorem SpL.below (h : SpL w B b N s la lc mb) (hb : Below w.heap.size w w') : SpL w' B b N s la lc mb :=
  ⟨h.hB, h.row.below hb h.row.lt, fun k hk => (h.log k hk).below hb, fun k hk => ⟨(h.mat k hk).1.below hb (h.mat k hk).1.lt, (h.mat k hk).2⟩, h.ne⟩
theorem SpAt.below (h : SpAt w B b N s) (hb : Below w.heap.size w w') : SpAt w' B b N s := by obtain ⟨la, lc, mb, h⟩ := h; exact ⟨la, lc, mb, h.below hb⟩
theorem SpL.apart (h : SpL w B b N s la lc mb) {k : Nat} (hk : k < N) : mb k ≠ b := by
  obtain ⟨cs, hr, _⟩ := h.row
  exact row_apart (h.mat k hk).1 hr (by decide)
theorem SpL.logs (h : SpL w B b N s la lc mb) (i : Nat) (v : Value) {k : Nat} (hk : k < N) : LogR (w.setCell ⟨b, i, none⟩ v) (la k) (lc k) (s k).lg := by
  obtain ⟨cs, hr, _⟩ := h.row
  exact (h.log k hk).far fun g ds hg => hg.other _ _ (row_apart hg hr (by decide))
/-- one cell of a member is written -/
theorem SpL.put (h : SpL w B b N s la lc mb) {k i : Nat} (m : Mb) (v : Value) (hi : i < 6) (he : m.lg = (s k).lg ∧ m.mt = (s k).mt)
    (hk : ∀ j, j < 6 → mbF la lc mb N (putM s k m) (k * 6 + j) = if j = i then v else mbF la lc mb N s (k * 6 + j)) : SpL (w.setCell ⟨b, k * 6 + i, none⟩ v) B b N (putM s k m) la lc mb := by
  refine ⟨h.hB, (h.row.set (k * 6 + i) v).congr fun p _ => mbF_put hi hk (fun j hj => ⟨rfl, rfl, rfl, putM_ne _ _ _ hj⟩) p, fun j hj => ?_, fun j hj => ?_, h.ne⟩
  · have := h.logs (k * 6 + i) v hj
    by_cases e : j = k
    · subst e; rw [putM_self, he.1]; exact this
    · rw [putM_ne _ _ _ e]; exact this
  · obtain ⟨q1, q2, q3⟩ := h.mat j hj
    have q := q1.other ⟨b, k * 6 + i, none⟩ v (h.apart hj)
    by_cases e : j = k
    · subst e; rw [putM_self, he.2]; exact ⟨q, q2, q3⟩
    · rw [putM_ne _ _ _ e]; exact ⟨q, q2, q3⟩
theorem six {P : Nat → Prop} (h0 : P 0) (h1 : P 1) (h2 : P 2) (h3 : P 3) (h4 : P 4) (h5 : P 5) : ∀ j, j < 6 → P j := by
  intro j hj
  rcases (by omega : j = 0 ∨ j = 1 ∨ j = 2 ∨ j = 3 ∨ j = 4 ∨ j = 5) with rfl | rfl | rfl | rfl | rfl | rfl <;> assumption
theorem SpL.setTm (h : SpL w B b N s la lc mb) (k : Nat) (x : Int) : SpL (w.setCell ⟨b, k * 6, none⟩ (.int .i64 x)) B b N (putM s k { s k with tm := x }) la lc mb := by
  refine h.put (i := 0) _ _ (by omega) ⟨rfl, rfl⟩ (six ?_ ?_ ?_ ?_ ?_ ?_) <;> simp [mbF0, mbF1, mbF2, mbF3, mbF4, mbF5, putM_self]
theorem SpL.setVt (h : SpL w B b N s la lc mb) (k : Nat) (x : Int) : SpL (w.setCell ⟨b, k * 6 + 1, none⟩ (.int .i64 x)) B b N (putM s k { s k with vt := x }) la lc mb := by
  refine h.put (i := 1) _ _ (by omega) ⟨rfl, rfl⟩ (six ?_ ?_ ?_ ?_ ?_ ?_) <;> simp [mbF0, mbF1, mbF2, mbF3, mbF4, mbF5, putM_self]
theorem SpL.setLd (h : SpL w B b N s la lc mb) (k : Nat) (x : Bool) : SpL (w.setCell ⟨b, k * 6 + 2, none⟩ (.bool x)) B b N (putM s k { s k with ld := x }) la lc mb := by
  refine h.put (i := 2) _ _ (by omega) ⟨rfl, rfl⟩ (six ?_ ?_ ?_ ?_ ?_ ?_) <;> simp [mbF0, mbF1, mbF2, mbF3, mbF4, mbF5, putM_self]
theorem SpL.setCm (h : SpL w B b N s la lc mb) (k : Nat) (x : Nat) : SpL (w.setCell ⟨b, k * 6 + 3, none⟩ (.int .i64 (x : Int))) B b N (putM s k { s k with cm := x }) la lc mb := by
  refine h.put (i := 3) _ _ (by omega) ⟨rfl, rfl⟩ (six ?_ ?_ ?_ ?_ ?_ ?_) <;> simp [mbF0, mbF1, mbF2, mbF3, mbF4, mbF5, putM_self]
theorem mbF_row {la la' : Nat → Option Addr} {lc lc' mb mb' : Nat → Nat} {s s' : Gst} {j : Nat} (h1 : la' j = la j) (h2 : lc' j = lc j) (h3 : mb' j = mb j) (h4 : s' j = s j) (i : Nat) (hi : i < 6) : mbF la' lc' mb' N s' (j * 6 + i) = mbF la lc mb N s (j * 6 + i) := by
  unfold mbF
  rw [show (j * 6 + i) / 6 = j by omega, h1, h2, h3, h4]
/-- a log is put in the place of another one -/
theorem SpL.setLg (h : SpL w B b N s la lc mb) (k : Nat) (a : Option Addr) (c : Nat) (L : List Ge) (hL : LogR w a c L) :
    SpL (w.setCell ⟨b, k * 6 + 4, none⟩ (.slice a L.length c)) B b N (putM s k { s k with lg := L }) (fun j => if j = k then a else la j) (fun j => if j = k then c else lc j) mb := by
  refine ⟨h.hB, (h.row.set (k * 6 + 4) _).congr fun p _ => mbF_put (by omega) (six ?_ ?_ ?_ ?_ ?_ ?_) (fun j hj => ⟨if_neg hj, if_neg hj, rfl, putM_ne _ _ _ hj⟩) p, fun j hj => ?_, fun j hj => ?_, h.ne⟩
  iterate 6 simp [mbF0, mbF1, mbF2, mbF3, mbF4, mbF5, putM_self]
  · obtain ⟨cs, hr, _⟩ := h.row
    by_cases e : j = k
    · subst e
      rw [putM_self, if_pos rfl, if_pos rfl]
      exact hL.far fun g ds hg => hg.other _ _ (row_apart hg hr (by decide))
    · rw [putM_ne _ _ _ e, if_neg e, if_neg e]
      exact h.logs _ _ hj
  · obtain ⟨q1, q2, q3⟩ := h.mat j hj
    have q := q1.other ⟨b, k * 6 + 4, none⟩ (.slice a L.length c) (h.apart hj)
    by_cases e : j = k
    · subst e; rw [putM_self]; exact ⟨q, q2, q3⟩
    · rw [putM_ne _ _ _ e]; exact ⟨q, q2, q3⟩
/-- a new Match, in a block of its own -/
theorem SpL.setMt (h : SpL w B b N s la lc mb) (k g : Nat) (M : List Int) (hg : RowAt w g 2 (ints .i64 M)) (hl : M.length = N) (hBg : B ≤ g) (hne : ∀ j, j < N → mb j ≠ g) :
    SpL (w.setCell ⟨b, k * 6 + 5, none⟩ (.slice (some ⟨g, 0, none⟩) N N)) B b N (putM s k { s k with mt := M }) la lc (fun j => if j = k then g else mb j) := by
  obtain ⟨cs, hr, _⟩ := h.row
  refine ⟨h.hB, (h.row.set (k * 6 + 5) _).congr fun p _ => mbF_put (by omega) (six ?_ ?_ ?_ ?_ ?_ ?_) (fun j hj => ⟨rfl, rfl, if_neg hj, putM_ne _ _ _ hj⟩) p, fun j hj => ?_, fun j hj => ?_, fun i j hi hj hij => ?_⟩
  iterate 6 simp [mbF0, mbF1, mbF2, mbF3, mbF4, mbF5, putM_self]
  · by_cases e : j = k
    · subst e; rw [putM_self]; exact h.logs _ _ hj
    · rw [putM_ne _ _ _ e]; exact h.logs _ _ hj
  · by_cases e : j = k
    · subst e
      rw [putM_self, if_pos rfl]
      exact ⟨hg.other _ _ (row_apart hg hr (by decide)), hBg, hl⟩
    · rw [putM_ne _ _ _ e, if_neg e]
      obtain ⟨q1, q2, q3⟩ := h.mat j hj
      exact ⟨q1.other _ _ (h.apart hj), q2, q3⟩
  · by_cases e : i = k
    · have e2 : j ≠ k := fun q => hij (e.trans q.symm)
      rw [if_pos e, if_neg e2]
      exact (hne j hj).symm
    · rw [if_neg e]
      by_cases e2 : j = k
      · rw [if_pos e2]; exact hne i hi
      · rw [if_neg e2]; exact h.ne i j hi hj hij
theorem ints_set (M : List Int) (i : Nat) (x : Int) : (ints .i64 M).setIfInBounds i (.int .i64 x) = ints .i64 (M.set i x) := by
  apply Array.ext'
  simp [ints, List.map_set]
/-- a number of a Match is written -/
theorem SpL.putMt (h : SpL w B b N s la lc mb) (k : Nat) (hk : k < N) (i : Nat) (x : Int) :
    SpL (w.setCell ⟨mb k, i, none⟩ (.int .i64 x)) B b N (putM s k { s k with mt := (s k).mt.set i x }) la lc mb := by
  refine ⟨h.hB, (h.row.other ⟨mb k, i, none⟩ _ (fun e => h.apart hk e.symm)).congr fun p _ => ?_, fun j hj => ?_, fun j hj => ?_, h.ne⟩
  · unfold mbF putM
    by_cases e : p / 6 = k
    · rw [if_pos e, e]
    · rw [if_neg e]
  · have q := (h.log j hj).far (w' := w.setCell ⟨mb k, i, none⟩ (.int .i64 x)) fun g ds hg => hg.other _ _ (row_apart hg (h.mat k hk).1 (by decide))
    by_cases e : j = k
    · subst e; rw [putM_self]; exact q
    · rw [putM_ne _ _ _ e]; exact q
  · obtain ⟨q1, q2, q3⟩ := h.mat j hj
    by_cases e : j = k
    · subst e
      rw [putM_self]
      refine ⟨?_, q2, by rw [List.length_set]; exact q3⟩
      have := q1.set i (.int .i64 x)
      rw [ints_set] at this
      exact this
    · rw [putM_ne _ _ _ e]
      exact ⟨q1.other _ _ (h.ne j k hj hk e), q2, q3⟩
theorem SpL.cells (h : SpL w B b N s la lc mb) {k : Nat} (hk : k < N) :
    w.cell? ⟨b, k * 6, none⟩ = some (.int .i64 (s k).tm) ∧ w.cell? ⟨b, k * 6 + 1, none⟩ = some (.int .i64 (s k).vt) ∧ w.cell? ⟨b, k * 6 + 2, none⟩ = some (.bool (s k).ld) ∧ w.cell? ⟨b, k * 6 + 3, none⟩ = some (.int .i64 ((s k).cm : Int)) ∧ w.cell? ⟨b, k * 6 + 4, none⟩ = some (.slice (la k) (s k).lg.length (lc k)) ∧ w.cell? ⟨b, k * 6 + 5, none⟩ = some (.slice (some ⟨mb k, 0, none⟩) N N) := by
  refine ⟨?_, ?_, ?_, ?_, ?_, ?_⟩
  · rw [← mbF0 la lc mb N s k]; exact h.row.cell (by omega)
  · rw [← mbF1 la lc mb N s k]; exact h.row.cell (by omega)
  · rw [← mbF2 la lc mb N s k]; exact h.row.cell (by omega)
  · rw [← mbF3 la lc mb N s k]; exact h.row.cell (by omega)
  · rw [← mbF4 la lc mb N s k]; exact h.row.cell (by omega)
  · rw [← mbF5 la lc mb N s k]; exact h.row.cell (by omega)
end
end Go.Proofs.Ytmhkelfmciepaaa
