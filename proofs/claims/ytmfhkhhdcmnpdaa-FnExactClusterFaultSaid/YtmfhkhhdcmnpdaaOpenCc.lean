import Derived.Test.YtmfhkhhdcmnpdaaClusterFaultWalk
import Derived.Deep.SlicePairs
import Derived.Lib.SmallJoins
namespace Go.Proofs.Ytmfhkhhdcmnpdaa
open Go.RowKit
/-! A ClusterConfig as a row hands it in. -/
theorem arr5 {α : Type} {cs : Array α} (h : cs.size = 5) : ∃ a b c d e, cs = #[a, b, c, d, e] := by
  match cs with
  | ⟨[a, b, c, d, e]⟩ => exact ⟨a, b, c, d, e, rfl⟩
section
variable {H : Type} {enc : TypeId × Value → H} {P : Program} {w : World} {base : Nat} {spare : Nat → Bool} {held : Bool}
structure NdTy (P : Program) (e : TypeId) : Prop where
  st : ∃ f0 f1 : Field, P.underlying e = some (.struct #[f0, f1]) ∧ (f0.offset = 0 ∧ f1.offset = 1) ∧ (P.cellsOf f0.type = 1 ∧ P.cellsOf f1.type = 1) ∧ P.underlying f0.type = some (.int .i64) ∧ P.underlying f1.type = some (.int .i64)
  ce : P.cellsOf e = 2
theorem open_nds {t e : TypeId} {fuel : Nat} {cs : List Value} {x : DataW H × List MemPlace} (ht : P.underlying t = some (.slice e)) (hE : NdTy P e) (h : DataW.trod enc P w base spare held fuel t cs = some x) :
    ∃ a len cap ys zs, cs = [.slice a len cap] ∧ IsPairs w a len cap ys zs := by
  obtain ⟨⟨f0, f1, he, ⟨o0, o1⟩, ⟨c0, c1⟩, u0, u1⟩, ce⟩ := hE
  rcases Go.Deep.open_slice ht h with ⟨h0, _⟩ | ⟨a, len, cap, m, n, D, Pl, rfl, hb, hl, hm, hmm, rfl, hx⟩
  · exact ⟨none, 0, 0, fun _ => 0, fun _ => 0, h0, .inl ⟨rfl, rfl, rfl⟩⟩
  have hlm : len ≤ m := by rw [hmm]; split <;> omega
  have each : ∀ i, i < len → ∃ q : Int × Int, w.cell? (a.add (i * 2)) = some (.int .i64 q.1) ∧ w.cell? (a.add (i * 2 + 1)) = some (.int .i64 q.2) ∧ (Lit.int .i64 q.1).wf = true ∧ (Lit.int .i64 q.2).wf = true := by
    intro i hi
    obtain ⟨cs', h1, h2⟩ := hx i (by omega)
    rw [ce] at h1
    obtain ⟨_, hlen, hcell⟩ := World.cells?_some h1
    obtain ⟨xs, n', _, _, _, hxs, hf⟩ := DataW.trod_struct he h2
    match xs, hxs with
    | [y0, y1], _ =>
      have g0 := hf 0 f0 rfl
      have g1 := hf 1 f1 rfl
      match cs', hlen with
      | [v0, v1], _ =>
        simp [o0, c0, o1, c1] at g0 g1
        obtain ⟨b0, e0, _, l0⟩ := DataW.trod_int u0 g0
        obtain ⟨b1, e1, _, l1⟩ := DataW.trod_int u1 g1
        simp at e0 e1
        have z0 := hcell 0 (by omega)
        have z1 := hcell 1 (by omega)
        rw [Go.Deep.add_add] at z0 z1
        exact ⟨(b0, b1), by simpa [e0] using z0, by simpa [e1] using z1, l0, l1⟩
  obtain ⟨o, ho⟩ := Go.Deep.choose_lt each
  exact ⟨some a, len, cap, fun i => (o i).1, fun i => (o i).2, rfl, .inr ⟨a, rfl, hl, hm, fun i hi => ho i hi⟩⟩
structure CcTy (P : Program) (e : TypeId) : Prop where
  st : ∃ f0 f1 f2 : Field, P.underlying e = some (.struct #[f0, f1, f2]) ∧ (f0.offset = 0 ∧ f1.offset = 1 ∧ f2.offset = 4) ∧ (P.cellsOf f0.type = 1 ∧ P.cellsOf f1.type = 3 ∧ P.cellsOf f2.type = 1) ∧ (∃ c, P.underlying f0.type = some (.slice c) ∧ NdTy P c) ∧ (∃ d0 d1 d2 : Field, P.underlying f1.type = some (.struct #[d0, d1, d2]) ∧ (d0.offset = 0 ∧ d1.offset = 1 ∧ d2.offset = 2) ∧ (P.cellsOf d0.type = 1 ∧ P.cellsOf d1.type = 1 ∧ P.cellsOf d2.type = 1) ∧ P.underlying d0.type = some (.int .i64) ∧ P.underlying d1.type = some (.int .i64) ∧ P.underlying d2.type = some (.int .i64)) ∧ P.underlying f2.type = some (.int .i64)
theorem open_cc {t : TypeId} {fuel : Nat} {v0 v1 v2 v3 v4 : Value} {x : DataW H × List MemPlace} (hE : CcTy P t) (h : DataW.trod enc P w base spare held fuel t [v0, v1, v2, v3, v4] = some x) :
    ∃ a len cap ys zs k m g u, (v0 = .slice a len cap ∧ v1 = .int .i64 k ∧ v2 = .int .i64 m ∧ v3 = .int .i64 g ∧ v4 = .int .i64 u) ∧ IsPairs w a len cap ys zs := by
  obtain ⟨⟨f0, f1, f2, he, ⟨o0, o1, o2⟩, ⟨c0, c1, c2⟩, ⟨e0, u0, E0⟩, ⟨d0, d1, d2, he1, ⟨p0, p1, p2⟩, ⟨r0, r1, r2⟩, s0, s1, s2⟩, u2⟩⟩ := hE
  obtain ⟨xs, n', _, _, _, hxs, hf⟩ := DataW.trod_struct he h
  match xs, hxs with
  | [y0, y1, y2], _ =>
    have g0 := hf 0 f0 rfl
    have g1 := hf 1 f1 rfl
    have g2 := hf 2 f2 rfl
    simp [o0, o1, o2, c0, c1, c2] at g0 g1 g2
    obtain ⟨a, len, cap, ys, zs, i0, h0⟩ := open_nds u0 E0 g0
    obtain ⟨xs', n'', _, _, _, hxs', hf'⟩ := DataW.trod_struct he1 g1
    obtain ⟨b2, i2, _, _⟩ := DataW.trod_int u2 g2
    match xs', hxs' with
    | [t0, t1, t2], _ =>
      have q0 := hf' 0 d0 rfl
      have q1 := hf' 1 d1 rfl
      have q2 := hf' 2 d2 rfl
      simp [p0, p1, p2, r0, r1, r2] at q0 q1 q2
      obtain ⟨k, j0, _, _⟩ := DataW.trod_int s0 q0
      obtain ⟨m, j1, _, _⟩ := DataW.trod_int s1 q1
      obtain ⟨g, j2, _, _⟩ := DataW.trod_int s2 q2
      simp at i0 i2 j0 j1 j2
      exact ⟨a, len, cap, ys, zs, k, m, g, b2, ⟨i0, j0, j1, j2, i2⟩, h0⟩
end
end Go.Proofs.Ytmfhkhhdcmnpdaa
