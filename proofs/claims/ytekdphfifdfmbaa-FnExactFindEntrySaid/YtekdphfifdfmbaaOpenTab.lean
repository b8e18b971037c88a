import Derived.Test.YtekdphfifdfmbaaTableFaultWalk
namespace Go.Proofs.Ytekdphfifdfmbaa
open Go.RowKit
/-! Slices of runs as a row hands them in. -/
instance : Inhabited Rn := ⟨⟨none, 0, 0, fun _ => default⟩⟩
section
variable {H : Type} {enc : TypeId × Value → H} {P : Program} {w : World} {base : Nat} {spare : Nat → Bool} {held : Bool}
theorem open_run {r e : TypeId} {f0 : Field} {fuel : Nat} {v : Value} {x : DataW H × List MemPlace} (hr : P.underlying r = some (.struct #[f0])) (o0 : f0.offset = 0) (c0 : P.cellsOf f0.type = 1) (hf : P.underlying f0.type = some (.slice e)) (hE : EnTy P e) (h : DataW.trod enc P w base spare held fuel r [v] = some x) :
    ∃ a len cap o, v = .slice a len cap ∧ IsEns w a len cap o := by
  obtain ⟨_, _, _, _, g⟩ := Go.ChangeShapes.trod_struct1 hr h
  rw [o0, c0] at g
  obtain ⟨a, len, cap, o, i, q⟩ := open_ens hf hE g
  simp at i
  exact ⟨a, len, cap, o, i, q⟩
theorem open_rns {t r e : TypeId} {f0 : Field} {fuel : Nat} {cs : List Value} {x : DataW H × List MemPlace} (ht : P.underlying t = some (.slice r)) (cr : P.cellsOf r = 1) (hr : P.underlying r = some (.struct #[f0])) (o0 : f0.offset = 0) (c0 : P.cellsOf f0.type = 1) (hf : P.underlying f0.type = some (.slice e)) (hE : EnTy P e) (h : DataW.trod enc P w base spare held fuel t cs = some x) :
    ∃ a m cap R, cs = [.slice a m cap] ∧ IsRns w a m cap R := by
  rcases Go.Deep.open_slice1 ht cr h with ⟨h0, _⟩ | ⟨a, len, cap, m, n, V, D, Pl, rfl, hb, hl, hm, hmm, rfl, hx⟩
  · exact ⟨none, 0, 0, fun _ => default, h0, ⟨Nat.le_refl _, .inl rfl, fun k hk => absurd hk (by omega)⟩, Nat.zero_le _, fun k hk => absurd hk (by omega)⟩
  have hlm : len ≤ m := by rw [hmm]; split <;> omega
  have each : ∀ i, i < len → ∃ q : Rn, w.cell? (a.add i) = some (.slice q.ad q.n q.cap) ∧ IsEns w q.ad q.n q.cap q.o := fun i hi => by
    obtain ⟨h1, h2⟩ := hx i (by omega)
    obtain ⟨a', len', cap', o', e', q'⟩ := open_run hr o0 c0 hf hE h2
    exact ⟨⟨a', len', cap', o'⟩, by rw [h1, e'], q'⟩
  obtain ⟨R, hR⟩ := Go.Deep.choose_lt each
  refine ⟨some a, len, cap, R, rfl, ⟨hl, ?_, fun k hk => (hR k hk).2.1⟩, hm, fun k hk => (hR k hk).2⟩
  by_cases h0 : len = 0
  · exact .inl h0
  · right
    obtain ⟨b, off, spot⟩ := a
    have hc := (hR 0 (by omega)).1
    have hspot : spot = none := by simpa [Addr.add] using World.cell?_spot hc
    subst hspot
    refine ⟨b, off, rfl, ?_, fun i hi => ?_⟩
    · have := World.block_lt_of_cell? w _ hc; rw [addE] at this; exact this
    · have := (hR i hi).1
      rw [addE] at this
      exact this
end
end Go.Proofs.Ytekdphfifdfmbaa
