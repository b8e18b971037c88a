import Derived.Test.YtgjkhjpkdkcnfabDoorLawRq2
import Derived.Deep.SlicePairs
import Derived.Deep.Strs
import Derived.Lib.SmallJoins
namespace Go.Proofs.YtgjkhjpkdkcnfabDoor
open Go.RowKit
/-! Requests, and pairs of texts, as a row hands them in. -/
instance : Inhabited Hp := ⟨hp0⟩
theorem arr5 {α : Type} {cs : Array α} (h : cs.size = 5) : ∃ a b c d e, cs = #[a, b, c, d, e] := by
  match cs with
  | ⟨[a, b, c, d, e]⟩ => exact ⟨a, b, c, d, e, rfl⟩
section
variable {H : Type} {enc : TypeId × Value → H} {P : Program} {w : World} {base : Nat} {spare : Nat → Bool} {held : Bool}
structure HpTy (P : Program) (e : TypeId) : Prop where
  st : ∃ f0 f1 : Field, P.underlying e = some (.struct #[f0, f1]) ∧ (f0.offset = 0 ∧ f1.offset = 1) ∧ (P.cellsOf f0.type = 1 ∧ P.cellsOf f1.type = 1) ∧ P.underlying f0.type = some .string ∧ P.underlying f1.type = some .string
  ce : P.cellsOf e = 2
structure RqTy (P : Program) (e : TypeId) : Prop where
  st : ∃ f0 f1 f2 f3 f4 : Field, P.underlying e = some (.struct #[f0, f1, f2, f3, f4]) ∧ (f0.offset = 0 ∧ f1.offset = 1 ∧ f2.offset = 2 ∧ f3.offset = 3 ∧ f4.offset = 4) ∧ (P.cellsOf f0.type = 1 ∧ P.cellsOf f1.type = 1 ∧ P.cellsOf f2.type = 1 ∧ P.cellsOf f3.type = 1 ∧ P.cellsOf f4.type = 1) ∧ P.underlying f0.type = some .string ∧ P.underlying f1.type = some .string ∧ (∃ c, P.underlying f2.type = some (.slice c) ∧ HpTy P c) ∧ (∃ c, P.underlying f3.type = some (.slice c) ∧ HpTy P c) ∧ P.underlying f4.type = some .string
theorem addH (b off : Nat) (i : Nat) : (⟨b, off, none⟩ : Addr).add i = ⟨b, off + i, none⟩ := by unfold Addr.add; split <;> simp_all
theorem open_hps {t e : TypeId} {fuel : Nat} {cs : List Value} {x : DataW H × List MemPlace} (ht : P.underlying t = some (.slice e)) (hE : HpTy P e) (h : DataW.trod enc P w base spare held fuel t cs = some x) :
    ∃ s : PS, cs = [.slice s.ad s.n s.cap] ∧ Hps w s.ad s.n s.cap s.o ∧ PSB s maxLen := by
  obtain ⟨⟨f0, f1, he, ⟨o0, o1⟩, ⟨c0, c1⟩, u0, u1⟩, ce⟩ := hE
  rcases Go.Deep.open_slice ht h with ⟨h0, _⟩ | ⟨a, len, cap, m, n, D, Pl, rfl, hb, hl, hm, hmm, rfl, hx⟩
  · exact ⟨⟨none, 0, 0, fun _ => hp0⟩, h0, ⟨Nat.le_refl _, .inl rfl⟩, Nat.zero_le _, fun i hi => absurd hi (by simp)⟩
  have hlm : len ≤ m := by rw [hmm]; split <;> omega
  have each : ∀ i, i < len → ∃ q : Hp, (w.cell? (a.add (i * 2)) = some (.string q.nm) ∧ w.cell? (a.add (i * 2 + 1)) = some (.string q.vl)) ∧ q.nm.size ≤ maxLen ∧ q.vl.size ≤ maxLen := by
    intro i hi
    obtain ⟨cs', h1, h2⟩ := hx i (by omega)
    rw [ce] at h1
    obtain ⟨_, hlen, hcell⟩ := World.cells?_some h1
    obtain ⟨xs, n', _, _, _, hxs, hf⟩ := DataW.trod_struct he h2
    match xs, hxs with
    | [y0, y1], _ =>
      have g0 := hf 0 f0 rfl
      have g1 := hf 1 f1 rfl
      match cs', hlen with
      | [v0, v1], _ =>
        simp [o0, o1, c0, c1] at g0 g1
        obtain ⟨nm, e0, _, l0⟩ := DataW.trod_string u0 g0
        obtain ⟨vl, e1, _, l1⟩ := DataW.trod_string u1 g1
        simp at e0 e1
        have z0 := hcell 0 (by omega)
        have z1 := hcell 1 (by omega)
        rw [Go.Deep.add_add] at z0 z1
        exact ⟨⟨nm, vl⟩, ⟨by simpa [e0] using z0, by simpa [e1] using z1⟩, l0, l1⟩
  obtain ⟨o, ho⟩ := Go.Deep.choose_lt each
  refine ⟨⟨some a, len, cap, o⟩, rfl, ⟨hl, ?_⟩, by show len ≤ maxLen; omega, fun i hi => (ho i hi).2⟩
  by_cases h0 : len = 0
  · exact .inl h0
  · right
    obtain ⟨b, off, spot⟩ := a
    have hc := (ho 0 (by omega)).1.1
    have hspot : spot = none := by simpa [Addr.add] using World.cell?_spot hc
    subst hspot
    refine ⟨b, off, rfl, ?_, fun i hi => ?_⟩
    · have := World.block_lt_of_cell? w _ hc; rw [addH] at this; exact this
    · obtain ⟨q0, q1⟩ := (ho i hi).1
      rw [addH] at q0 q1
      exact ⟨q0, by rw [Nat.add_assoc]; exact q1⟩
theorem open_rq {t : TypeId} {fuel : Nat} {v0 v1 v2 v3 v4 : Value} {x : DataW H × List MemPlace} (hE : RqTy P t) (h : DataW.trod enc P w base spare held fuel t [v0, v1, v2, v3, v4] = some x) :
    ∃ r : Rq, (v0 = .string r.mt ∧ v1 = .string r.pt ∧ v2 = .slice r.qs.ad r.qs.n r.qs.cap ∧ v3 = .slice r.hs.ad r.hs.n r.hs.cap ∧ v4 = .string r.bd) ∧ RqIn w r ∧ RqB r 9223372036854775807 := by
  obtain ⟨f0, f1, f2, f3, f4, he, ⟨o0, o1, o2, o3, o4⟩, ⟨c0, c1, c2, c3, c4⟩, u0, u1, ⟨ca, u2, ua⟩, ⟨cb, u3, ub⟩, u4⟩ := hE.st
  obtain ⟨xs, n', _, _, _, hxs, hf⟩ := DataW.trod_struct he h
  match xs, hxs with
  | [y0, y1, y2, y3, y4], _ =>
    have g0 := hf 0 f0 rfl
    have g1 := hf 1 f1 rfl
    have g2 := hf 2 f2 rfl
    have g3 := hf 3 f3 rfl
    have g4 := hf 4 f4 rfl
    simp [o0, o1, o2, o3, o4, c0, c1, c2, c3, c4] at g0 g1 g2 g3 g4
    obtain ⟨mt, e0, _, l0⟩ := DataW.trod_string u0 g0
    obtain ⟨pt, e1, _, l1⟩ := DataW.trod_string u1 g1
    obtain ⟨s2, e2, i2, b2⟩ := open_hps u2 ua g2
    obtain ⟨s3, e3, i3, b3⟩ := open_hps u3 ub g3
    obtain ⟨bd, e4, _, l4⟩ := DataW.trod_string u4 g4
    simp at e0 e1 e2 e3 e4
    have hM : maxLen = 9223372036854775807 := rfl
    rw [hM] at l0 l1 l4 b2 b3
    exact ⟨⟨mt, pt, s2, s3, bd⟩, ⟨e0, e1, e2, e3, e4⟩, ⟨i2, i3⟩, ⟨l0, l1, b2, b3, l4⟩⟩
end
end Go.Proofs.YtgjkhjpkdkcnfabDoor
