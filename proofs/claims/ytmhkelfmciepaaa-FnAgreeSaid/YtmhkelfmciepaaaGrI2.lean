import Derived.Test.YtmhkelfmciepaaaGrI
namespace Go.Proofs.Ytmhkelfmciepaaa
open Go.RowKit
set_option linter.unusedVariables false
/-! The program's members in memory. -/
def gmRow (m : Mb) (aL : Option Addr) (cL mb N k gb : Nat) : Array Value := #[.int .i64 m.tm, .int .i64 m.vt, .bool m.ld, .int .i64 (m.cm : Int), .slice aL m.lg.length cL, .slice (some ⟨mb, 0, none⟩) N N, .int .i64 (k : Int), .slice (some ⟨gb, 0, none⟩) N N]
def ptrs (pb : Nat → Nat) (N : Nat) : Array Value := ((List.range N).map fun k => Value.pointer (some ⟨pb k, 0, none⟩)).toArray
theorem ptrs_at (pb : Nat → Nat) {N k : Nat} (h : k < N) : (ptrs pb N)[k]? = some (.pointer (some ⟨pb k, 0, none⟩)) := by simp [ptrs, h]
structure GpL (w : World) (B gb N : Nat) (s : Gst) (pb : Nat → Nat) (la : Nat → Option Addr) (lc mb : Nat → Nat) : Prop where
  lo : B ≤ gb
  all : RowAt w gb 63 (ptrs pb N)
  mem : ∀ k, k < N → RowAt w (pb k) 65 (gmRow (s k) (la k) (lc k) (mb k) N k gb)
  mlo : ∀ k, k < N → B ≤ pb k
  log : ∀ k, k < N → OwnGe w B (.slice (la k) (s k).lg.length (lc k)) (s k).lg
  mat : ∀ k, k < N → RowAt w (mb k) 2 (ints .i64 (s k).mt) ∧ B ≤ mb k ∧ (s k).mt.length = N
  nep : ∀ i j, i < N → j < N → i ≠ j → pb i ≠ pb j
  nem : ∀ i j, i < N → j < N → i ≠ j → mb i ≠ mb j
  nel : ∀ i j, i < N → j < N → i ≠ j → (Value.slice (la i) (s i).lg.length (lc i)).ownBlock = none ∨ (Value.slice (la i) (s i).lg.length (lc i)).ownBlock ≠ (Value.slice (la j) (s j).lg.length (lc j)).ownBlock
def GpAt (w : World) (B gb N : Nat) (s : Gst) (pb : Nat → Nat) : Prop := ∃ la lc mb, GpL w B gb N s pb la lc mb
theorem OwnGe.keep {w w' : World} {B : Nat} {v : Value} {L : List Ge} (h : OwnGe w B v L) (e : ∀ g cs, v.ownBlock = some g → RowAt w g 46 cs → RowAt w' g 46 cs) : OwnGe w' B v L := by
  refine ⟨h.1, ?_⟩
  rcases h.2 with h0 | ⟨g, cap, cur, he, hb, hr, hnc, hm, hsz, htk⟩
  · exact .inl h0
  · exact .inr ⟨g, cap, cur, he, hb, e g cur (by rw [he]; rfl) hr, hnc, hm, hsz, htk⟩
theorem OwnGe.row {w : World} {B : Nat} {v : Value} {L : List Ge} (h : OwnGe w B v L) {g : Nat} (hg : v.ownBlock = some g) : ∃ cs, RowAt w g 46 cs := by
  rcases h.2 with ⟨rfl, _⟩ | ⟨g2, cap, cur, rfl, _, hh, _⟩
  · cases hg
  · obtain rfl : g2 = g := Option.some.inj hg
    exact ⟨cur, hh⟩
section
variable {w w' : World} {B gb N : Nat} {s : Gst} {pb : Nat → Nat} {la : Nat → Option Addr} {lc mb : Nat → Nat}
theorem GpL.rows (h : GpL w B gb N s pb la lc mb) (e : ∀ g t cs, RowAt w g t cs → t = 63 ∨ t = 65 ∨ t = 46 ∨ t = 2 → RowAt w' g t cs) : GpL w' B gb N s pb la lc mb :=
  ⟨h.lo, e _ _ _ h.all (.inl rfl), fun k hk => e _ _ _ (h.mem k hk) (.inr (.inl rfl)), h.mlo, fun k hk => (h.log k hk).keep fun g cs _ hr => e _ _ _ hr (.inr (.inr (.inl rfl))), fun k hk => ⟨e _ _ _ (h.mat k hk).1 (.inr (.inr (.inr rfl))), (h.mat k hk).2⟩, h.nep, h.nem, h.nel⟩
theorem GpL.below (h : GpL w B gb N s pb la lc mb) (hb : Below w.heap.size w w') : GpL w' B gb N s pb la lc mb := h.rows fun _ _ _ hr _ => hr.below hb hr.lt
/-- one of a member's first four cells is written -/
theorem GpL.put (h : GpL w B gb N s pb la lc mb) {k i : Nat} (hk : k < N) (m : Mb) (v : Value) (he : m.lg = (s k).lg ∧ m.mt = (s k).mt)
    (hc : (gmRow (s k) (la k) (lc k) (mb k) N k gb).setIfInBounds i v = gmRow m (la k) (lc k) (mb k) N k gb) : GpL (w.setCell ⟨pb k, i, none⟩ v) B gb N (putM s k m) pb la lc mb := by
  have ho : ∀ {g t cs}, RowAt w g t cs → t ≠ 65 → RowAt (w.setCell ⟨pb k, i, none⟩ v) g t cs := fun hr ht => hr.other _ _ (row_apart hr (h.mem k hk) ht)
  have hl : ∀ j, j < N → (putM s k m j).lg = (s j).lg := fun j _ => by
    by_cases e : j = k
    · rw [e, putM_self, he.1]
    · rw [putM_ne _ _ _ e]
  have hm : ∀ j, j < N → (putM s k m j).mt = (s j).mt := fun j _ => by
    by_cases e : j = k
    · rw [e, putM_self, he.2]
    · rw [putM_ne _ _ _ e]
  refine ⟨h.lo, ho h.all (by decide), fun j hj => ?_, h.mlo, fun j hj => ?_, fun j hj => ?_, h.nep, h.nem, fun i' j hi hj hij => ?_⟩
  · by_cases e : j = k
    · rw [e, putM_self, ← hc]
      exact (h.mem k hk).set i v
    · rw [putM_ne _ _ _ e]
      exact (h.mem j hj).other _ _ (h.nep j k hj hk e)
  · rw [hl j hj]
    exact (h.log j hj).keep fun g cs _ hr => ho hr (by decide)
  · rw [hm j hj]
    exact ⟨ho (h.mat j hj).1 (by decide), (h.mat j hj).2⟩
  · rw [hl i' hi, hl j hj]
    exact h.nel i' j hi hj hij
theorem GpL.setTm (h : GpL w B gb N s pb la lc mb) {k : Nat} (hk : k < N) (x : Int) : GpL (w.setCell ⟨pb k, 0, none⟩ (.int .i64 x)) B gb N (putM s k { s k with tm := x }) pb la lc mb := h.put hk _ _ ⟨rfl, rfl⟩ rfl
theorem GpL.setVt (h : GpL w B gb N s pb la lc mb) {k : Nat} (hk : k < N) (x : Int) : GpL (w.setCell ⟨pb k, 1, none⟩ (.int .i64 x)) B gb N (putM s k { s k with vt := x }) pb la lc mb := h.put hk _ _ ⟨rfl, rfl⟩ rfl
theorem GpL.setLd (h : GpL w B gb N s pb la lc mb) {k : Nat} (hk : k < N) (x : Bool) : GpL (w.setCell ⟨pb k, 2, none⟩ (.bool x)) B gb N (putM s k { s k with ld := x }) pb la lc mb := h.put hk _ _ ⟨rfl, rfl⟩ rfl
theorem GpL.setCm (h : GpL w B gb N s pb la lc mb) {k : Nat} (hk : k < N) (x : Nat) : GpL (w.setCell ⟨pb k, 3, none⟩ (.int .i64 (x : Int))) B gb N (putM s k { s k with cm := x }) pb la lc mb := h.put hk _ _ ⟨rfl, rfl⟩ rfl
/-- a number of a Match is written -/
theorem GpL.putMt (h : GpL w B gb N s pb la lc mb) {k : Nat} (hk : k < N) (i : Nat) (x : Int) : GpL (w.setCell ⟨mb k, i, none⟩ (.int .i64 x)) B gb N (putM s k { s k with mt := (s k).mt.set i x }) pb la lc mb := by
  have ho : ∀ {g t cs}, RowAt w g t cs → t ≠ 2 → RowAt (w.setCell ⟨mb k, i, none⟩ (.int .i64 x)) g t cs := fun hr ht => hr.other _ _ (row_apart hr (h.mat k hk).1 ht)
  have hl : ∀ j, (putM s k { s k with mt := (s k).mt.set i x } j).lg = (s j).lg := fun j => by
    by_cases e : j = k
    · rw [e, putM_self]
    · rw [putM_ne _ _ _ e]
  refine ⟨h.lo, ho h.all (by decide), fun j hj => ?_, h.mlo, fun j hj => ?_, fun j hj => ?_, h.nep, h.nem, fun i' j hi hj hij => ?_⟩
  · have q := ho (h.mem j hj) (by decide)
    by_cases e : j = k
    · subst e; rw [putM_self]; exact q
    · rw [putM_ne _ _ _ e]; exact q
  · rw [hl j]
    exact (h.log j hj).keep fun g cs _ hr => ho hr (by decide)
  · by_cases e : j = k
    · subst e
      rw [putM_self]
      refine ⟨?_, (h.mat j hj).2.1, by rw [List.length_set]; exact (h.mat j hj).2.2⟩
      have := (h.mat j hj).1.set i (.int .i64 x)
      rw [ints_set] at this
      exact this
    · rw [putM_ne _ _ _ e]
      exact ⟨(h.mat j hj).1.other _ _ (h.nem j k hj hk e), (h.mat j hj).2⟩
  · rw [hl i', hl j]
    exact h.nel i' j hi hj hij
/-- rows of other kinds than the program's members', their numbers' and their logs' are as they were -/
structure Kq (w w' : World) : Prop where
  size : w.heap.size ≤ w'.heap.size
  row : ∀ g t cs, t ≠ 65 → t ≠ 2 → t ≠ 46 → RowAt w g t cs → RowAt w' g t cs
theorem Kq.refl (w : World) : Kq w w := ⟨Nat.le_refl _, fun _ _ _ _ _ _ h => h⟩
theorem Kq.trans {w1 w2 w3 : World} (h : Kq w1 w2) (h' : Kq w2 w3) : Kq w1 w3 := ⟨Nat.le_trans h.size h'.size, fun g t cs a b c r => h'.row g t cs a b c (h.row g t cs a b c r)⟩
theorem Kq.below {W W' : World} (h : Kq w W) (hb : Below W.heap.size W W') : Kq w W' := ⟨Nat.le_trans h.size hb.size, fun g t cs a b c r => (h.row g t cs a b c r).below hb (h.row g t cs a b c r).lt⟩
theorem Kq.drew {W : World} (h : Kq w W) : Kq w W.drew := ⟨h.size, h.row⟩
theorem Kq.set {W : World} {a : Addr} {t : TypeId} {cs : Array Value} (h : Kq w W) (v : Value) (hr : RowAt W a.block t cs) (ht : t = 65 ∨ t = 2) : Kq w (W.setCell a v) := by
  refine ⟨by simp [World.setCell]; exact h.size, fun g t2 c2 a2 b2 e2 r => ?_⟩
  have q := h.row g t2 c2 a2 b2 e2 r
  refine q.other _ _ ?_
  rcases ht with rfl | rfl
  · exact row_apart q hr a2
  · exact row_apart q hr b2
end
set_option maxRecDepth 20000 in
set_option maxHeartbeats 1000000 in
theorem iEnter (B gb N k : Nat) (hk : k < N) (s : Gst) (pb : Nat → Nat) (la : Nat → Option Addr) (lc mb : Nat → Nat) (x : Int) (w : World) (h : GpL w B gb N s pb la lc mb) :
    Calls Try.prog 35 #[.pointer (some ⟨pb k, 0, none⟩), .int .i64 x] w fun e w' => e = .returned (.tuple #[]) ∧ GpL w' B gb N (putM s k { s k with tm := x, vt := -1, ld := false }) pb la lc mb ∧ w.grownBy w' (some (pb k)) := by
  have r := h.mem k hk
  obtain ⟨W, hW⟩ : ∃ W, W = ((w.setCell ⟨pb k, 0, none⟩ (.int .i64 x)).setCell ⟨pb k, 1, none⟩ (.int .i64 (-1))).setCell ⟨pb k, 2, none⟩ (.bool false) := ⟨_, rfl⟩
  have G : Hid (GpL W B gb N (putM s k { s k with tm := x, vt := -1, ld := false }) pb la lc mb) := by
    have q := ((h.setTm hk x).setVt hk (-1)).setLd hk false
    simp only [putM_self, putM_putM] at q
    rw [hW]
    exact q
  have GG : Hid (w.grownBy W (some (pb k))) := by rw [hW]; exact grown_trans (grown_trans grown_set grown_set) grown_set
  have HW := hid hW
  have c0 := r.cell 0
  have c1 := r.cell 1
  have c2 := r.cell 2
  have f0 := r.free 0
  have f1 := r.free 1
  have f2 := r.free 2
  have e0 : (gmRow (s k) (la k) (lc k) (mb k) N k gb)[0]? = some (.int .i64 (s k).tm) := rfl
  have e1 : (gmRow (s k) (la k) (lc k) (mb k) N k gb)[1]? = some (.int .i64 (s k).vt) := rfl
  have e2 : (gmRow (s k) (la k) (lc k) (mb k) N k gb)[2]? = some (.bool (s k).ld) := rfl
  rw [e0] at c0
  rw [e1] at c1
  rw [e2] at c2
  generalize pb k = p at *
  clear r h e0 e1 e2 hW
  go_enter Try.func35, Try.ntmps35
  go_wp2
  go_end0
  rw [← HW.out]
  exact ⟨rfl, G.out, GG.out⟩
end Go.Proofs.Ytmhkelfmciepaaa
