import Derived.Test.YtngkiokibldfjaaGreatDoorQE
import Derived.Deep.SlicePairs
import Derived.Deep.Strs
import Derived.Lib.SmallJoins
namespace Go.Proofs.YtngkiokibldfjaaGreatDoor
open Go.RowKit
set_option linter.unusedVariables false
/-! Slices of operations as a row hands them in (by openrow.py). -/
abbrev Ops (w : World) (a : Option Addr) (n cap : Nat) (o : Nat → Op) : Prop := Exs w a n cap o
section
variable {H : Type} {enc : TypeId × Value → H} {P : Program} {w : World} {base : Nat} {spare : Nat → Bool} {held : Bool}
instance : Inhabited Op := ⟨op0⟩
/-- the shape of the type -/
structure OpTy (P : Program) (e : TypeId) : Prop where
  st : ∃ f0 f1 f2 f3 f4 f5 : Field, P.underlying e = some (.struct #[f0, f1, f2, f3, f4, f5]) ∧ (f0.offset = 0 ∧ f1.offset = 1 ∧ f2.offset = 2 ∧ f3.offset = 3 ∧ f4.offset = 4 ∧ f5.offset = 5) ∧ (P.cellsOf f0.type = 1 ∧ P.cellsOf f1.type = 1 ∧ P.cellsOf f2.type = 1 ∧ P.cellsOf f3.type = 1 ∧ P.cellsOf f4.type = 1 ∧ P.cellsOf f5.type = 1) ∧ P.underlying f0.type = some (.int .i64) ∧ P.underlying f1.type = some .string ∧ P.underlying f2.type = some .string ∧ P.underlying f3.type = some (.int .i64) ∧ P.underlying f4.type = some (.int .i64) ∧ P.underlying f5.type = some (.int .i64)
  ce : P.cellsOf e = 6
def IsOps (w : World) (a : Option Addr) (len cap : Nat) (o : Nat → Op) : Prop :=
  Ops w a len cap o ∧ cap ≤ maxLen ∧ ∀ i, i < len → (o i).ky.size ≤ maxLen ∧ (o i).dt.size ≤ maxLen
theorem addOp (b off : Nat) (i : Nat) : (⟨b, off, none⟩ : Addr).add i = ⟨b, off + i, none⟩ := by unfold Addr.add; split <;> simp_all
theorem open_ops {t e : TypeId} {fuel : Nat} {cs : List Value} {x : DataW H × List MemPlace} (ht : P.underlying t = some (.slice e)) (hE : OpTy P e) (h : DataW.trod enc P w base spare held fuel t cs = some x) :
    ∃ a len cap o, cs = [.slice a len cap] ∧ IsOps w a len cap o := by
  obtain ⟨⟨f0, f1, f2, f3, f4, f5, he, ⟨o0, o1, o2, o3, o4, o5⟩, ⟨c0, c1, c2, c3, c4, c5⟩, u0, u1, u2, u3, u4, u5⟩, ce⟩ := hE
  rcases Go.Deep.open_slice ht h with ⟨h0, _⟩ | ⟨a, len, cap, m, n, D, Pl, rfl, hb, hl, hm, hmm, rfl, hx⟩
  · exact ⟨none, 0, 0, fun _ => op0, h0, ⟨Nat.le_refl _, .inl rfl⟩, Nat.zero_le _, fun i hi => absurd hi (by omega)⟩
  have hlm : len ≤ m := by rw [hmm]; split <;> omega
  have each : ∀ i, i < len → ∃ q : Op, (w.cell? (a.add (i * 6)) = some (.int .i64 q.kd) ∧ w.cell? (a.add (i * 6 + 1)) = some (.string q.ky) ∧ w.cell? (a.add (i * 6 + 2)) = some (.string q.dt) ∧ w.cell? (a.add (i * 6 + 3)) = some (.int .i64 q.kp) ∧ w.cell? (a.add (i * 6 + 4)) = some (.int .i64 q.at_) ∧ w.cell? (a.add (i * 6 + 5)) = some (.int .i64 q.tn)) ∧ q.ky.size ≤ maxLen ∧ q.dt.size ≤ maxLen := by
    intro i hi
    obtain ⟨cs', h1, h2⟩ := hx i (by omega)
    rw [ce] at h1
    obtain ⟨_, hlen, hcell⟩ := World.cells?_some h1
    obtain ⟨xs, n', _, _, _, hxs, hf⟩ := DataW.trod_struct he h2
    match xs, hxs with
    | [y0, y1, y2, y3, y4, y5], _ =>
      have g0 := hf 0 f0 rfl
      have g1 := hf 1 f1 rfl
      have g2 := hf 2 f2 rfl
      have g3 := hf 3 f3 rfl
      have g4 := hf 4 f4 rfl
      have g5 := hf 5 f5 rfl
      match cs', hlen with
      | [v0, v1, v2, v3, v4, v5], _ =>
        simp [o0, c0, o1, c1, o2, c2, o3, c3, o4, c4, o5, c5] at g0 g1 g2 g3 g4 g5
        obtain ⟨b0, e0, _, _⟩ := DataW.trod_int u0 g0
        obtain ⟨b1, e1, _, l1⟩ := DataW.trod_string u1 g1
        obtain ⟨b2, e2, _, l2⟩ := DataW.trod_string u2 g2
        obtain ⟨b3, e3, _, _⟩ := DataW.trod_int u3 g3
        obtain ⟨b4, e4, _, _⟩ := DataW.trod_int u4 g4
        obtain ⟨b5, e5, _, _⟩ := DataW.trod_int u5 g5
        simp at e0 e1 e2 e3 e4 e5
        have z0 := hcell 0 (by omega)
        have z1 := hcell 1 (by omega)
        have z2 := hcell 2 (by omega)
        have z3 := hcell 3 (by omega)
        have z4 := hcell 4 (by omega)
        have z5 := hcell 5 (by omega)
        rw [Go.Deep.add_add] at z0 z1 z2 z3 z4 z5
        exact ⟨⟨b0, b1, b2, b3, b4, b5⟩, ⟨by simpa [e0] using z0, by simpa [e1] using z1, by simpa [e2] using z2, by simpa [e3] using z3, by simpa [e4] using z4, by simpa [e5] using z5⟩, l1, l2⟩
  obtain ⟨o, ho⟩ := Go.Deep.choose_lt each
  refine ⟨some a, len, cap, o, rfl, ⟨hl, ?_⟩, hm, fun i hi => (ho i hi).2⟩
  by_cases h0 : len = 0
  · exact .inl h0
  · right
    obtain ⟨b, off, spot⟩ := a
    have hc := (ho 0 (by omega)).1.1
    have hspot : spot = none := by simpa [Addr.add] using World.cell?_spot hc
    subst hspot
    refine ⟨b, off, rfl, ?_, fun i hi => ?_⟩
    · have := World.block_lt_of_cell? w _ hc; rw [addOp] at this; exact this
    · obtain ⟨q0, q1, q2, q3, q4, q5⟩ := (ho i hi).1
      rw [addOp] at q0 q1 q2 q3 q4 q5
      exact ⟨q0, by rw [Nat.add_assoc]; exact q1, by rw [Nat.add_assoc]; exact q2, by rw [Nat.add_assoc]; exact q3, by rw [Nat.add_assoc]; exact q4, by rw [Nat.add_assoc]; exact q5⟩
end
end Go.Proofs.YtngkiokibldfjaaGreatDoor
