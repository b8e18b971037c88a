import Derived.Test.YtekdphfifdfmbaaISeqs2
import Derived.Deep.SlicePairs
import Derived.Lib.SmallJoins
namespace Go.Proofs.Ytekdphfifdfmbaa
open Go.RowKit
/-! Entries and runs as a row hands them in. -/
instance : Inhabited En := ⟨⟨⟨#[]⟩, 0, false, ⟨#[]⟩⟩⟩
def IsEns (w : World) (a : Option Addr) (len cap : Nat) (o : Nat → En) : Prop :=
  Ens w a len cap o ∧ cap ≤ maxLen ∧ ∀ i, i < len → (o i).ky.size ≤ maxLen ∧ (o i).tx.size ≤ maxLen
section
variable {H : Type} {enc : TypeId × Value → H} {P : Program} {w : World} {base : Nat} {spare : Nat → Bool} {held : Bool}
/-- the shape of a type of entries -/
structure EnTy (P : Program) (e : TypeId) : Prop where
  st : ∃ f0 f1 f2 f3 : Field, P.underlying e = some (.struct #[f0, f1, f2, f3]) ∧ (f0.offset = 0 ∧ f1.offset = 1 ∧ f2.offset = 2 ∧ f3.offset = 3) ∧ (P.cellsOf f0.type = 1 ∧ P.cellsOf f1.type = 1 ∧ P.cellsOf f2.type = 1 ∧ P.cellsOf f3.type = 1) ∧ P.underlying f0.type = some .string ∧ P.underlying f1.type = some (.int .i64) ∧ P.underlying f2.type = some .bool ∧ P.underlying f3.type = some .string
  ce : P.cellsOf e = 4
theorem arr1 {α : Type} {cs : Array α} (h : cs.size = 1) : ∃ c, cs = #[c] := by
  obtain ⟨l⟩ := cs
  match l, h with
  | [c], _ => exact ⟨c, rfl⟩
theorem addE (b off : Nat) (i : Nat) : (⟨b, off, none⟩ : Addr).add i = ⟨b, off + i, none⟩ := by unfold Addr.add; split <;> simp_all
theorem open_ens {t e : TypeId} {fuel : Nat} {cs : List Value} {x : DataW H × List MemPlace} (ht : P.underlying t = some (.slice e)) (hE : EnTy P e) (h : DataW.trod enc P w base spare held fuel t cs = some x) :
    ∃ a len cap o, cs = [.slice a len cap] ∧ IsEns w a len cap o := by
  obtain ⟨⟨f0, f1, f2, f3, he, ⟨o0, o1, o2, o3⟩, ⟨c0, c1, c2, c3⟩, u0, u1, u2, u3⟩, ce⟩ := hE
  rcases Go.Deep.open_slice ht h with ⟨h0, _⟩ | ⟨a, len, cap, m, n, D, Pl, rfl, hb, hl, hm, hmm, rfl, hx⟩
  · exact ⟨none, 0, 0, fun _ => default, h0, ⟨Nat.le_refl _, .inl rfl⟩, Nat.zero_le _, fun i hi => absurd hi (by omega)⟩
  have hlm : len ≤ m := by rw [hmm]; split <;> omega
  have each : ∀ i, i < len → ∃ q : En, (w.cell? (a.add (i * 4)) = some (.string q.ky) ∧ w.cell? (a.add (i * 4 + 1)) = some (.int .i64 q.sq) ∧ w.cell? (a.add (i * 4 + 2)) = some (.bool q.gn) ∧ w.cell? (a.add (i * 4 + 3)) = some (.string q.tx)) ∧ q.ky.size ≤ maxLen ∧ q.tx.size ≤ maxLen := by
    intro i hi
    obtain ⟨cs', h1, h2⟩ := hx i (by omega)
    rw [ce] at h1
    obtain ⟨_, hlen, hcell⟩ := World.cells?_some h1
    obtain ⟨y0, y1, y2, y3, _, _, _, g0, g1, g2, g3⟩ := Go.Joins.trod_struct4 he h2
    match cs', hlen with
    | [v0, v1, v2, v3], _ =>
      simp [o0, o1, o2, o3, c0, c1, c2, c3] at g0 g1 g2 g3
      obtain ⟨k, e0, _, l0⟩ := DataW.trod_string u0 g0
      obtain ⟨s, e1, _, _⟩ := DataW.trod_int u1 g1
      obtain ⟨b, e2, _⟩ := DataW.trod_bool u2 g2
      obtain ⟨tx, e3, _, l3⟩ := DataW.trod_string u3 g3
      simp at e0 e1 e2 e3
      have z0 := hcell 0 (by omega)
      have z1 := hcell 1 (by omega)
      have z2 := hcell 2 (by omega)
      have z3 := hcell 3 (by omega)
      rw [Go.Deep.add_add] at z0 z1 z2 z3
      refine ⟨⟨k, s, b, tx⟩, ⟨by simpa [e0] using z0, by simpa [e1] using z1, by simpa [e2] using z2, by simpa [e3] using z3⟩, l0, l3⟩
  obtain ⟨o, ho⟩ := Go.Deep.choose_lt each
  refine ⟨some a, len, cap, o, rfl, ⟨hl, ?_⟩, hm, fun i hi => (ho i hi).2⟩
  by_cases h0 : len = 0
  · exact .inl h0
  · right
    obtain ⟨b, off, spot⟩ := a
    have hc := (ho 0 (by omega)).1.1
    have hspot : spot = none := by simpa [Addr.add] using World.cell?_spot hc
    subst hspot
    refine ⟨b, off, rfl, ?_, fun i hi => ?_⟩
    · have := World.block_lt_of_cell? w _ hc; rw [addE] at this; exact this
    · obtain ⟨q0, q1, q2, q3⟩ := (ho i hi).1
      rw [addE] at q0 q1 q2 q3
      exact ⟨q0, by rw [Nat.add_assoc]; exact q1, by rw [Nat.add_assoc]; exact q2, by rw [Nat.add_assoc]; exact q3⟩
end
end Go.Proofs.Ytekdphfifdfmbaa
