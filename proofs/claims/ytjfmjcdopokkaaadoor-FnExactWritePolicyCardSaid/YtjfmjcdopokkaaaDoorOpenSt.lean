import Derived.Test.YtjfmjcdopokkaaaDoorPolicyFaultWalk
import Derived.Deep.SlicePairs
import Derived.Deep.Strs
import Derived.Lib.SmallJoins
namespace Go.Proofs.YtjfmjcdopokkaaaDoor
open Go.RowKit
/-! Statements as a row hands them in. -/
instance : Inhabited Cn := ⟨cn0⟩
instance : Inhabited St := ⟨st0⟩
section
variable {H : Type} {enc : TypeId × Value → H} {P : Program} {w : World} {base : Nat} {spare : Nat → Bool} {held : Bool}
structure CnTy (P : Program) (e : TypeId) : Prop where
  st : ∃ f0 f1 f2 : Field, P.underlying e = some (.struct #[f0, f1, f2]) ∧ (f0.offset = 0 ∧ f1.offset = 1 ∧ f2.offset = 2) ∧ (P.cellsOf f0.type = 1 ∧ P.cellsOf f1.type = 1 ∧ P.cellsOf f2.type = 1) ∧ P.underlying f0.type = some (.int .i64) ∧ P.underlying f1.type = some .string ∧ P.underlying f2.type = some (.int .i64)
  ce : P.cellsOf e = 3
structure SsTy (P : Program) (t : TypeId) : Prop where
  st : ∃ e, P.underlying t = some (.slice e) ∧ P.underlying e = some .string ∧ P.cellsOf e = 1
structure StTy (P : Program) (e : TypeId) : Prop where
  st : ∃ f0 f1 f2 f3 f4 : Field, P.underlying e = some (.struct #[f0, f1, f2, f3, f4]) ∧ (f0.offset = 0 ∧ f1.offset = 1 ∧ f2.offset = 2 ∧ f3.offset = 3 ∧ f4.offset = 4) ∧ (P.cellsOf f0.type = 1 ∧ P.cellsOf f1.type = 1 ∧ P.cellsOf f2.type = 1 ∧ P.cellsOf f3.type = 1 ∧ P.cellsOf f4.type = 1) ∧ P.underlying f0.type = some (.int .i64) ∧ SsTy P f1.type ∧ SsTy P f2.type ∧ SsTy P f3.type ∧ ∃ c, P.underlying f4.type = some (.slice c) ∧ CnTy P c
  ce : P.cellsOf e = 5
theorem addC (b off : Nat) (i : Nat) : (⟨b, off, none⟩ : Addr).add i = ⟨b, off + i, none⟩ := by unfold Addr.add; split <;> simp_all
theorem open_ss {t : TypeId} {fuel : Nat} {cs : List Value} {x : DataW H × List MemPlace} (hT : SsTy P t) (h : DataW.trod enc P w base spare held fuel t cs = some x) :
    ∃ s : SS, cs = [.slice s.ad s.n s.cap] ∧ Strs w s.ad s.n s.cap s.ts ∧ SSB s maxLen := by
  obtain ⟨e, ht, he, hc⟩ := hT.st
  have fin : ∀ a len cap ts, IsStrs w a len cap ts → Strs w a len cap ts ∧ SSB ⟨a, len, cap, ts⟩ maxLen := fun a len cap ts hi => ⟨Strs.of_is hi, hi.len⟩
  rcases Go.Deep.open_strs ht he hc h with ⟨h0, _⟩ | ⟨a, len, cap, m, Sx, rfl, hb, hl, hm, hmm, _, hx⟩
  · exact ⟨⟨none, 0, 0, fun _ => ⟨#[]⟩⟩, h0, fin _ _ _ _ (.inl ⟨rfl, rfl, rfl⟩)⟩
  · have hlm : len ≤ m := by rw [hmm]; split <;> omega
    exact ⟨⟨some a, len, cap, Sx⟩, rfl, fin _ _ _ _ (.inr ⟨a, rfl, hl, hm, fun i hi => hx i (by have h1 : i < len := hi; omega)⟩)⟩
theorem open_cs {t e : TypeId} {fuel : Nat} {cs : List Value} {x : DataW H × List MemPlace} (ht : P.underlying t = some (.slice e)) (hE : CnTy P e) (h : DataW.trod enc P w base spare held fuel t cs = some x) :
    ∃ s : CS, cs = [.slice s.ad s.n s.cap] ∧ Cns w s.ad s.n s.cap s.o ∧ CSB s maxLen := by
  obtain ⟨⟨f0, f1, f2, he, ⟨o0, o1, o2⟩, ⟨c0, c1, c2⟩, u0, u1, u2⟩, ce⟩ := hE
  rcases Go.Deep.open_slice ht h with ⟨h0, _⟩ | ⟨a, len, cap, m, n, D, Pl, rfl, hb, hl, hm, hmm, rfl, hx⟩
  · exact ⟨⟨none, 0, 0, fun _ => cn0⟩, h0, ⟨Nat.le_refl _, .inl rfl⟩, Nat.zero_le _, fun i hi => absurd hi (by simp)⟩
  have hlm : len ≤ m := by rw [hmm]; split <;> omega
  have each : ∀ i, i < len → ∃ q : Cn, (w.cell? (a.add (i * 3)) = some (.int .i64 q.kd) ∧ w.cell? (a.add (i * 3 + 1)) = some (.string q.tx) ∧ w.cell? (a.add (i * 3 + 2)) = some (.int .i64 q.tm)) ∧ q.tx.size ≤ maxLen := by
    intro i hi
    obtain ⟨cs', h1, h2⟩ := hx i (by omega)
    rw [ce] at h1
    obtain ⟨_, hlen, hcell⟩ := World.cells?_some h1
    obtain ⟨y0, y1, y2, _, _, _, g0, g1, g2⟩ := Go.Deep.trod_struct3 he h2
    match cs', hlen with
    | [v0, v1, v2], _ =>
      simp [o0, o1, o2, c0, c1, c2] at g0 g1 g2
      obtain ⟨k, e0, _, _⟩ := DataW.trod_int u0 g0
      obtain ⟨tx, e1, _, l1⟩ := DataW.trod_string u1 g1
      obtain ⟨tm, e2, _, _⟩ := DataW.trod_int u2 g2
      simp at e0 e1 e2
      have z0 := hcell 0 (by omega)
      have z1 := hcell 1 (by omega)
      have z2 := hcell 2 (by omega)
      rw [Go.Deep.add_add] at z0 z1 z2
      refine ⟨⟨k, tx, tm⟩, ⟨by simpa [e0] using z0, by simpa [e1] using z1, by simpa [e2] using z2⟩, l1⟩
  obtain ⟨o, ho⟩ := Go.Deep.choose_lt each
  refine ⟨⟨some a, len, cap, o⟩, rfl, ⟨hl, ?_⟩, by show len ≤ maxLen; omega, fun i hi => (ho i hi).2⟩
  by_cases h0 : len = 0
  · exact .inl h0
  · right
    obtain ⟨b, off, spot⟩ := a
    have hc := (ho 0 (by omega)).1.1
    have hspot : spot = none := by simpa [Addr.add] using World.cell?_spot hc
    subst hspot
    refine ⟨b, off, rfl, ?_, fun i hi => ?_⟩
    · have := World.block_lt_of_cell? w _ hc; rw [addC] at this; exact this
    · obtain ⟨q0, q1, q2⟩ := (ho i hi).1
      rw [addC] at q0 q1 q2
      exact ⟨q0, by rw [Nat.add_assoc]; exact q1, by rw [Nat.add_assoc]; exact q2⟩
theorem open_sts {t e : TypeId} {fuel : Nat} {cs : List Value} {x : DataW H × List MemPlace} (ht : P.underlying t = some (.slice e)) (hE : StTy P e) (h : DataW.trod enc P w base spare held fuel t cs = some x) :
    ∃ a len cap R, cs = [.slice a len cap] ∧ IsSts w a len cap R := by
  obtain ⟨⟨f0, f1, f2, f3, f4, he, ⟨o0, o1, o2, o3, o4⟩, ⟨c0, c1, c2, c3, c4⟩, u0, u1, u2, u3, cc, u4, uc⟩, ce⟩ := hE
  rcases Go.Deep.open_slice ht h with ⟨h0, _⟩ | ⟨a, len, cap, m, n, D, Pl, rfl, hb, hl, hm, hmm, rfl, hx⟩
  · exact ⟨none, 0, 0, fun _ => st0, h0, ⟨Nat.le_refl _, .inl rfl, fun k hk => absurd hk (by omega)⟩, Nat.zero_le _, fun k hk => absurd hk (by omega)⟩
  have hlm : len ≤ m := by rw [hmm]; split <;> omega
  have each : ∀ i, i < len → ∃ q : St, (w.cell? (a.add (i * 5)) = some (.int .i64 q.ef) ∧ w.cell? (a.add (i * 5 + 1)) = some (.slice q.wo.ad q.wo.n q.wo.cap) ∧ w.cell? (a.add (i * 5 + 2)) = some (.slice q.wa.ad q.wa.n q.wa.cap) ∧ w.cell? (a.add (i * 5 + 3)) = some (.slice q.wi.ad q.wi.n q.wi.cap) ∧ w.cell? (a.add (i * 5 + 4)) = some (.slice q.cs.ad q.cs.n q.cs.cap)) ∧ StIn w q ∧ StB q maxLen := by
    intro i hi
    obtain ⟨cs', h1, h2⟩ := hx i (by omega)
    rw [ce] at h1
    obtain ⟨_, hlen, hcell⟩ := World.cells?_some h1
    obtain ⟨xs, n', _, _, _, hxs, hf⟩ := DataW.trod_struct he h2
    match xs, hxs with
    | [y0, y1, y2, y3, y4], _ =>
      have g0 := hf 0 f0 rfl
      have g1 := hf 1 f1 rfl
      have g2 := hf 2 f2 rfl
      have g3 := hf 3 f3 rfl
      have g4 := hf 4 f4 rfl
      match cs', hlen with
      | [v0, v1, v2, v3, v4], _ =>
        simp [o0, o1, o2, o3, o4, c0, c1, c2, c3, c4] at g0 g1 g2 g3 g4
        obtain ⟨k, e0, _, _⟩ := DataW.trod_int u0 g0
        obtain ⟨s1, e1, i1, b1⟩ := open_ss u1 g1
        obtain ⟨s2, e2, i2, b2⟩ := open_ss u2 g2
        obtain ⟨s3, e3, i3, b3⟩ := open_ss u3 g3
        obtain ⟨s4, e4, i4, b4⟩ := open_cs u4 uc g4
        simp at e0 e1 e2 e3 e4
        have z0 := hcell 0 (by omega)
        have z1 := hcell 1 (by omega)
        have z2 := hcell 2 (by omega)
        have z3 := hcell 3 (by omega)
        have z4 := hcell 4 (by omega)
        rw [Go.Deep.add_add] at z0 z1 z2 z3 z4
        refine ⟨⟨k, s1, s2, s3, s4⟩, ⟨by simpa [e0] using z0, by simpa [e1] using z1, by simpa [e2] using z2, by simpa [e3] using z3, by simpa [e4] using z4⟩, ⟨i1, i2, i3, i4⟩, ⟨b1, b2, b3, b4⟩⟩
  obtain ⟨R, hR⟩ := Go.Deep.choose_lt each
  refine ⟨some a, len, cap, R, rfl, ⟨hl, ?_, fun k hk => (hR k hk).2.1⟩, by omega, fun k hk => (hR k hk).2.2⟩
  by_cases h0 : len = 0
  · exact .inl h0
  · right
    obtain ⟨b, off, spot⟩ := a
    have hc := (hR 0 (by omega)).1.1
    have hspot : spot = none := by simpa [Addr.add] using World.cell?_spot hc
    subst hspot
    refine ⟨b, off, rfl, ?_, fun i hi => ?_⟩
    · have := World.block_lt_of_cell? w _ hc; rw [addC] at this; exact this
    · obtain ⟨q0, q1, q2, q3, q4⟩ := (hR i hi).1
      rw [addC] at q0 q1 q2 q3 q4
      exact ⟨q0, by rw [Nat.add_assoc]; exact q1, by rw [Nat.add_assoc]; exact q2, by rw [Nat.add_assoc]; exact q3, by rw [Nat.add_assoc]; exact q4⟩
end
end Go.Proofs.YtjfmjcdopokkaaaDoor
