import Derived.Test.YtmfhkhhdcmnpdaaRunGroupCore
import Derived.Deep.SlicePairs
import Derived.Deep.Strs
import Derived.ChangeSlices
import Derived.Lib.SmallJoins
namespace Go.Proofs.Ytmfhkhhdcmnpdaa
open Go.RowKit
set_option linter.unusedVariables false
/-! FnExactRunGroup; operations of a group as a row hands them in. -/
def IsGops (w : World) (a : Option Addr) (n cap : Nat) (o : Nat → Gop) (pa : Nat → Option Addr) (pc : Nat → Nat) : Prop :=
  Gops w a n cap o pa pc ∧ n ≤ maxLen ∧ ∀ k, k < n → (o k).pe.length ≤ maxLen ∧ (o k).tx.size ≤ maxLen
theorem fnExactRunGroup_walk {w : World} (mem : Int) (_wm : (Lit.int .i64 mem).wf = true) (a : Option Addr) (n cap : Nat) (o : Nat → Gop) (pa : Nat → Option Addr) (pc : Nat → Nat) (h : IsGops w a n cap o pa pc) :
    Calls Try.prog 5 #[.int .i64 mem, .slice a n cap] w fun e w' => e = .returned (.bool true) ∧ Below w.heap.size w w' :=
  fnExactRunGroup_core mem a n cap o pa pc (by have := h.2.1; unfold maxLen at this; omega) (fun k hk => by have := h.2.2 k hk; unfold maxLen at this; omega) w h.1
instance : Inhabited Gop := ⟨⟨0, 0, 0, [], ⟨#[]⟩⟩⟩
section
variable {H : Type} {enc : TypeId × Value → H} {P : Program} {w : World} {base : Nat} {spare : Nat → Bool} {held : Bool}
structure GopTy (P : Program) (e : TypeId) : Prop where
  st : ∃ f0 f1 f2 f3 f4 : Field, P.underlying e = some (.struct #[f0, f1, f2, f3, f4]) ∧ (f0.offset = 0 ∧ f1.offset = 1 ∧ f2.offset = 2 ∧ f3.offset = 3 ∧ f4.offset = 4) ∧ (P.cellsOf f0.type = 1 ∧ P.cellsOf f1.type = 1 ∧ P.cellsOf f2.type = 1 ∧ P.cellsOf f3.type = 1 ∧ P.cellsOf f4.type = 1) ∧ P.underlying f0.type = some (.int .i64) ∧ P.underlying f1.type = some (.int .i64) ∧ P.underlying f2.type = some (.int .i64) ∧ (∃ c, P.underlying f3.type = some (.slice c) ∧ P.underlying c = some (.int .i64) ∧ P.cellsOf c = 1) ∧ P.underlying f4.type = some .string
  ce : P.cellsOf e = 5
theorem addGop (b off : Nat) (i : Nat) : (⟨b, off, none⟩ : Addr).add i = ⟨b, off + i, none⟩ := by unfold Addr.add; split <;> simp_all
theorem ints_take {x : Addr} {l c : Nat} {zs : List Int} (h1 : l ≤ c) (h2 : l ≤ zs.length) (hcell : ∀ i, i < zs.length → w.cell? (x.add i) = some (.int .i64 (zs.getD i 0))) : Ints .i64 w (some x) l c (zs.take l) := by
  refine ⟨by rw [List.length_take]; omega, h1, ?_⟩
  by_cases h0 : l = 0
  · exact Or.inl h0
  · right
    obtain ⟨b, off, spot⟩ := x
    have hc := hcell 0 (by omega)
    have hspot : spot = none := by simpa [Addr.add] using World.cell?_spot hc
    subst hspot
    refine ⟨b, off, rfl, ?_, fun i hi => ?_⟩
    · have := World.block_lt_of_cell? w _ hc; rw [addGop] at this; exact this
    · have := hcell i (by omega)
      rw [addGop] at this
      rw [this, List.getD_eq_getElem?_getD, List.getD_eq_getElem?_getD, List.getElem?_take, if_pos hi]
theorem open_gops {t e : TypeId} {fuel : Nat} {cs : List Value} {x : DataW H × List MemPlace} (ht : P.underlying t = some (.slice e)) (hE : GopTy P e) (h : DataW.trod enc P w base spare held fuel t cs = some x) :
    ∃ a len cap o pa pc, cs = [.slice a len cap] ∧ IsGops w a len cap o pa pc := by
  obtain ⟨⟨f0, f1, f2, f3, f4, he, ⟨o0, o1, o2, o3, o4⟩, ⟨c0, c1, c2, c3, c4⟩, u0, u1, u2, ⟨e3, u3, v3, k3⟩, u4⟩, ce⟩ := hE
  rcases Go.Deep.open_slice ht h with ⟨h0, _⟩ | ⟨a, len, cap, m, n, D, Pl, rfl, hb, hl, hm, hmm, rfl, hx⟩
  · exact ⟨none, 0, 0, fun _ => default, fun _ => none, fun _ => 0, h0, ⟨Nat.le_refl _, .inl rfl⟩, Nat.zero_le _, fun i hi => absurd hi (by omega)⟩
  have hlm : len ≤ m := by rw [hmm]; split <;> omega
  have each : ∀ i, i < len → ∃ q : Gop × Option Addr × Nat, (w.cell? (a.add (i * 5)) = some (.int .i64 q.1.kd) ∧ w.cell? (a.add (i * 5 + 1)) = some (.int .i64 q.1.mb) ∧ w.cell? (a.add (i * 5 + 2)) = some (.int .i64 q.1.dt) ∧ w.cell? (a.add (i * 5 + 3)) = some (.slice q.2.1 q.1.pe.length q.2.2) ∧ w.cell? (a.add (i * 5 + 4)) = some (.string q.1.tx)) ∧ Ints .i64 w q.2.1 q.1.pe.length q.2.2 q.1.pe ∧ q.1.pe.length ≤ maxLen ∧ q.1.tx.size ≤ maxLen := by
    intro i hi
    obtain ⟨cs', h1, h2⟩ := hx i (by omega)
    rw [ce] at h1
    obtain ⟨_, hlen, hcell⟩ := World.cells?_some h1
    obtain ⟨xs, n', _, _, _, hxs, hf⟩ := DataW.trod_struct he h2
    match xs, hxs with
    | [y0, y1, y2, y3, y4], _ =>
      have g0 := hf 0 f0 rfl
      have g1 := hf 1 f1 rfl
      have g2 := hf 2 f2 rfl
      have g3 := hf 3 f3 rfl
      have g4 := hf 4 f4 rfl
      match cs', hlen with
      | [v0, v1, v2, w3, v4], _ =>
        simp [o0, c0, o1, c1, o2, c2, o3, c3, o4, c4] at g0 g1 g2 g3 g4
        obtain ⟨b0, e0, _, _⟩ := DataW.trod_int u0 g0
        obtain ⟨b1, e1, _, _⟩ := DataW.trod_int u1 g1
        obtain ⟨b2, e2, _, _⟩ := DataW.trod_int u2 g2
        obtain ⟨b4, e4, _, l4⟩ := DataW.trod_string u4 g4
        obtain ⟨pa, pl, pc, pe, i3, q3, l3⟩ : ∃ pa pl pc pe, w3 = .slice pa pl pc ∧ Ints .i64 w pa pl pc pe ∧ pl ≤ maxLen := by
          rcases Go.ChangeShapes.open_ints u3 v3 k3 g3 with ⟨hcs, _⟩ | ⟨x, l, c, zs, hcs, _, hl', hm', hz, _, hc', hwz⟩
          · simp at hcs
            exact ⟨none, 0, 0, [], hcs, Ints.of_isRow (zs := []) (.inl ⟨rfl, rfl, rfl, rfl⟩), Nat.zero_le _⟩
          · simp at hcs
            exact ⟨some x, l, c, zs.take l, hcs, ints_take hl' (by rw [hz]; split <;> omega) hc', Nat.le_trans hl' hm'⟩
        have hpl : pe.length = pl := q3.1
        subst hpl
        simp at e0 e1 e2 e4
        have z0 := hcell 0 (by omega)
        have z1 := hcell 1 (by omega)
        have z2 := hcell 2 (by omega)
        have z3 := hcell 3 (by omega)
        have z4 := hcell 4 (by omega)
        rw [Go.Deep.add_add] at z0 z1 z2 z3 z4
        exact ⟨(⟨b0, b1, b2, pe, b4⟩, pa, pc), ⟨by simpa [e0] using z0, by simpa [e1] using z1, by simpa [e2] using z2, by simpa [i3] using z3, by simpa [e4] using z4⟩, q3, l3, l4⟩
  obtain ⟨o, ho⟩ := Go.Deep.choose_lt each
  refine ⟨some a, len, cap, fun i => (o i).1, fun i => (o i).2.1, fun i => (o i).2.2, rfl, ⟨hl, ?_⟩, Nat.le_trans hl hm, fun i hi => (ho i hi).2.2⟩
  by_cases h0 : len = 0
  · exact .inl h0
  · right
    obtain ⟨b, off, spot⟩ := a
    have hc := (ho 0 (by omega)).1.1
    have hspot : spot = none := by simpa [Addr.add] using World.cell?_spot hc
    subst hspot
    refine ⟨b, off, rfl, ?_, fun i hi => ?_⟩
    · have := World.block_lt_of_cell? w _ hc; rw [addGop] at this; exact this
    · obtain ⟨q0, q1, q2, q3, q4⟩ := (ho i hi).1
      rw [addGop] at q0 q1 q2 q3 q4
      exact ⟨q0, by rw [Nat.add_assoc]; exact q1, by rw [Nat.add_assoc]; exact q2, by rw [Nat.add_assoc]; exact q3, by rw [Nat.add_assoc]; exact q4, (ho i hi).2.1⟩
end
end Go.Proofs.Ytmfhkhhdcmnpdaa
