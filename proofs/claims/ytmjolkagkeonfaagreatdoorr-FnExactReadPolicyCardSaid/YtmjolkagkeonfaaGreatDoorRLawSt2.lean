import Derived.Test.YtmjolkagkeonfaaGreatDoorRLawSt
namespace Go.Proofs.YtmjolkagkeonfaaGreatDoorR
open Go.RowKit
/-! Statements made anew. -/
structure Made (w : World) (lo : Nat) (s : St) : Prop where
  wo : ∃ g, s.wo.ad = some ⟨g, 0, none⟩ ∧ s.wo.cap = s.wo.n ∧ lo ≤ g ∧ FRow w g 9 s.wo.n (fun i => .string (s.wo.ts i))
  wa : ∃ g, s.wa.ad = some ⟨g, 0, none⟩ ∧ s.wa.cap = s.wa.n ∧ lo ≤ g ∧ FRow w g 9 s.wa.n (fun i => .string (s.wa.ts i))
  wi : ∃ g, s.wi.ad = some ⟨g, 0, none⟩ ∧ s.wi.cap = s.wi.n ∧ lo ≤ g ∧ FRow w g 9 s.wi.n (fun i => .string (s.wi.ts i))
  cs : ∃ g, s.cs.ad = some ⟨g, 0, none⟩ ∧ s.cs.cap = s.cs.n ∧ lo ≤ g ∧ FRow w g 55 (s.cs.n * 3) (cnF s.cs.o)
theorem Made.below {w w' : World} {lo : Nat} {s : St} (h : Made w lo s) (hb : Below w.heap.size w w') : Made w' lo s := by
  obtain ⟨⟨g1, a1, b1, c1, d1⟩, ⟨g2, a2, b2, c2, d2⟩, ⟨g3, a3, b3, c3, d3⟩, ⟨g4, a4, b4, c4, d4⟩⟩ := h
  exact ⟨⟨g1, a1, b1, c1, d1.below hb d1.lt⟩, ⟨g2, a2, b2, c2, d2.below hb d2.lt⟩, ⟨g3, a3, b3, c3, d3.below hb d3.lt⟩, ⟨g4, a4, b4, c4, d4.below hb d4.lt⟩⟩
theorem Made.other {w : World} {lo b o : Nat} {s : St} (h : Made w lo s) (v : Value) (hb : b < lo) : Made (w.setCell ⟨b, o, none⟩ v) lo s := by
  obtain ⟨⟨g1, a1, b1, c1, d1⟩, ⟨g2, a2, b2, c2, d2⟩, ⟨g3, a3, b3, c3, d3⟩, ⟨g4, a4, b4, c4, d4⟩⟩ := h
  exact ⟨⟨g1, a1, b1, c1, d1.other _ _ (by dsimp only; omega)⟩, ⟨g2, a2, b2, c2, d2.other _ _ (by dsimp only; omega)⟩, ⟨g3, a3, b3, c3, d3.other _ _ (by dsimp only; omega)⟩, ⟨g4, a4, b4, c4, d4.other _ _ (by dsimp only; omega)⟩⟩
theorem Made.mono {w : World} {lo lo' : Nat} {s : St} (h : Made w lo s) (hb : lo' ≤ lo) : Made w lo' s := by
  obtain ⟨⟨g1, a1, b1, c1, d1⟩, ⟨g2, a2, b2, c2, d2⟩, ⟨g3, a3, b3, c3, d3⟩, ⟨g4, a4, b4, c4, d4⟩⟩ := h
  exact ⟨⟨g1, a1, b1, by omega, d1⟩, ⟨g2, a2, b2, by omega, d2⟩, ⟨g3, a3, b3, by omega, d3⟩, ⟨g4, a4, b4, by omega, d4⟩⟩
theorem Made.in {w : World} {lo : Nat} {s : St} (h : Made w lo s) : StIn w s := by
  obtain ⟨f, ⟨a1, n1, c1, t1⟩, ⟨a2, n2, c2, t2⟩, ⟨a3, n3, c3, t3⟩, ⟨a4, n4, c4, o4⟩⟩ := s
  obtain ⟨⟨g1, x1, y1, _, d1⟩, ⟨g2, x2, y2, _, d2⟩, ⟨g3, x3, y3, _, d3⟩, ⟨g4, x4, y4, _, d4⟩⟩ := h
  dsimp only at x1 y1 d1 x2 y2 d2 x3 y3 d3 x4 y4 d4
  subst x1 y1 x2 y2 x3 y3 x4 y4
  exact ⟨d1.strs, d2.strs, d3.strs, Cns.of_row d4⟩
theorem frow_setRow {w : World} {b : Nat} {t : TypeId} {n : Nat} {f : Nat → Value} (h : FRow w b t n f) {g : Nat} (c : Array Value) (hn : b ≠ g) : FRow (w.setRow g c) b t n f := by
  obtain ⟨cs, h1, h2, h3⟩ := h; exact ⟨cs, h1.otherRow g c hn, h2, h3⟩
/-! Slices of statements. -/
/-- the cells of a row of them -/
def stF (R : Nat → St) (p : Nat) : Value :=
  if p % 5 = 0 then .int .i64 (R (p / 5)).ef else if p % 5 = 1 then .slice (R (p / 5)).wo.ad (R (p / 5)).wo.n (R (p / 5)).wo.cap else if p % 5 = 2 then .slice (R (p / 5)).wa.ad (R (p / 5)).wa.n (R (p / 5)).wa.cap else if p % 5 = 3 then .slice (R (p / 5)).wi.ad (R (p / 5)).wi.n (R (p / 5)).wi.cap else .slice (R (p / 5)).cs.ad (R (p / 5)).cs.n (R (p / 5)).cs.cap
theorem stF0 (R : Nat → St) (k : Nat) : stF R (k * 5) = .int .i64 (R k).ef := by unfold stF; rw [if_pos (by omega), show (k * 5) / 5 = k by omega]
theorem stF1 (R : Nat → St) (k : Nat) : stF R (k * 5 + 1) = .slice (R k).wo.ad (R k).wo.n (R k).wo.cap := by unfold stF; rw [if_neg (by omega), if_pos (by omega), show (k * 5 + 1) / 5 = k by omega]
theorem stF2 (R : Nat → St) (k : Nat) : stF R (k * 5 + 2) = .slice (R k).wa.ad (R k).wa.n (R k).wa.cap := by unfold stF; rw [if_neg (by omega), if_neg (by omega), if_pos (by omega), show (k * 5 + 2) / 5 = k by omega]
theorem stF3 (R : Nat → St) (k : Nat) : stF R (k * 5 + 3) = .slice (R k).wi.ad (R k).wi.n (R k).wi.cap := by unfold stF; rw [if_neg (by omega), if_neg (by omega), if_neg (by omega), if_pos (by omega), show (k * 5 + 3) / 5 = k by omega]
theorem stF4 (R : Nat → St) (k : Nat) : stF R (k * 5 + 4) = .slice (R k).cs.ad (R k).cs.n (R k).cs.cap := by unfold stF; rw [if_neg (by omega), if_neg (by omega), if_neg (by omega), if_neg (by omega), show (k * 5 + 4) / 5 = k by omega]
/-- the cells of one -/
def StCell (w : World) (b o : Nat) (s : St) : Prop :=
  w.cell? ⟨b, o, none⟩ = some (.int .i64 s.ef) ∧ w.cell? ⟨b, o + 1, none⟩ = some (.slice s.wo.ad s.wo.n s.wo.cap) ∧ w.cell? ⟨b, o + 2, none⟩ = some (.slice s.wa.ad s.wa.n s.wa.cap) ∧ w.cell? ⟨b, o + 3, none⟩ = some (.slice s.wi.ad s.wi.n s.wi.cap) ∧ w.cell? ⟨b, o + 4, none⟩ = some (.slice s.cs.ad s.cs.n s.cs.cap)
def Sts (w : World) (a : Option Addr) (m cap : Nat) (R : Nat → St) : Prop :=
  m ≤ cap ∧ (m = 0 ∨ ∃ b off, a = some ⟨b, off, none⟩ ∧ b < w.heap.size ∧ ∀ k, k < m → StCell w b (off + k * 5) (R k)) ∧ ∀ k, k < m → StIn w (R k)
theorem StCell.below {w w' : World} {b o : Nat} {s : St} (h : StCell w b o s) (hb : Below w.heap.size w w') (hl : b < w.heap.size) : StCell w' b o s :=
  ⟨(hb.cell (p := ⟨b, o, none⟩) hl).trans h.1, (hb.cell (p := ⟨b, o + 1, none⟩) hl).trans h.2.1, (hb.cell (p := ⟨b, o + 2, none⟩) hl).trans h.2.2.1, (hb.cell (p := ⟨b, o + 3, none⟩) hl).trans h.2.2.2.1, (hb.cell (p := ⟨b, o + 4, none⟩) hl).trans h.2.2.2.2⟩
theorem Sts.below {w w' : World} {a : Option Addr} {m cap : Nat} {R : Nat → St} (h : Sts w a m cap R) (hb : Below w.heap.size w w') : Sts w' a m cap R := by
  refine ⟨h.1, ?_, fun k hk => (h.2.2 k hk).below hb⟩
  rcases h.2.1 with h0 | ⟨b, off, rfl, hl, hc⟩
  · exact .inl h0
  · exact .inr ⟨b, off, rfl, Nat.lt_of_lt_of_le hl hb.size, fun k hk => (hc k hk).below hb hl⟩
theorem StCell.of_row {w : World} {b : Nat} {t : TypeId} {m k : Nat} {R : Nat → St} (h : FRow w b t (m * 5) (stF R)) (hk : k < m) : StCell w b (0 + k * 5) (R k) := by
  have g0 := h.cell (p := k * 5) (by omega)
  have g1 := h.cell (p := k * 5 + 1) (by omega)
  have g2 := h.cell (p := k * 5 + 2) (by omega)
  have g3 := h.cell (p := k * 5 + 3) (by omega)
  have g4 := h.cell (p := k * 5 + 4) (by omega)
  rw [stF0] at g0
  rw [stF1] at g1
  rw [stF2] at g2
  rw [stF3] at g3
  rw [stF4] at g4
  simp only [Nat.zero_add]
  exact ⟨g0, g1, g2, g3, g4⟩
end Go.Proofs.YtmjolkagkeonfaaGreatDoorR
