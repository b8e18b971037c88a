import Derived.Test.YtokjfffcciddhaaGreatDoorPairs
import Derived.Deep.SlicePairs
import Derived.Lib.SmallJoins
import Derived.OpenShut
import Derived.Test.YtokjfffcciddhaaGreatDoorLawBk
import Derived.Deep.Strs
namespace Go.Proofs.YtokjfffcciddhaaGreatDoor
open Go.RowKit
/-! A ClusterConfig as a row hands it in (cut out of OpenCc). -/
section
variable {H : Type} {enc : TypeId × Value → H} {P : Program} {w : World} {base : Nat} {spare : Nat → Bool} {held : Bool}
structure NdTy (P : Program) (e : TypeId) : Prop where
  st : ∃ f0 f1 : Field, P.underlying e = some (.struct #[f0, f1]) ∧ (f0.offset = 0 ∧ f1.offset = 1) ∧ (P.cellsOf f0.type = 1 ∧ P.cellsOf f1.type = 1) ∧ P.underlying f0.type = some (.int .i64) ∧ P.underlying f1.type = some (.int .i64)
  ce : P.cellsOf e = 2
theorem open_nds {t e : TypeId} {fuel : Nat} {cs : List Value} {x : DataW H × List MemPlace} (ht : P.underlying t = some (.slice e)) (hE : NdTy P e) (h : DataW.trod enc P w base spare held fuel t cs = some x) :
    ∃ a len cap ys zs, cs = [.slice a len cap] ∧ IsPairs w a len cap ys zs := by
  obtain ⟨⟨f0, f1, he, ⟨o0, o1⟩, ⟨c0, c1⟩, u0, u1⟩, ce⟩ := hE
  rcases Go.Deep.open_slice ht h with ⟨h0, _⟩ | ⟨a, len, cap, m, n, D, Pl, rfl, hb, hl, hm, hmm, rfl, hx⟩
  · exact ⟨none, 0, 0, fun _ => 0, fun _ => 0, h0, .inl ⟨rfl, rfl, rfl⟩⟩
  have hlm : len ≤ m := by rw [hmm]; split <;> omega
  have each : ∀ i, i < len → ∃ q : Int × Int, w.cell? (a.add (i * 2)) = some (.int .i64 q.1) ∧ w.cell? (a.add (i * 2 + 1)) = some (.int .i64 q.2) ∧ (Lit.int .i64 q.1).wf = true ∧ (Lit.int .i64 q.2).wf = true := by
    intro i hi
    obtain ⟨cs', h1, h2⟩ := hx i (by omega)
    rw [ce] at h1
    obtain ⟨_, hlen, hcell⟩ := World.cells?_some h1
    obtain ⟨xs, n', _, _, _, hxs, hf⟩ := DataW.trod_struct he h2
    match xs, hxs with
    | [y0, y1], _ =>
      have g0 := hf 0 f0 rfl
      have g1 := hf 1 f1 rfl
      match cs', hlen with
      | [v0, v1], _ =>
        simp [o0, c0, o1, c1] at g0 g1
        obtain ⟨b0, e0, _, l0⟩ := DataW.trod_int u0 g0
        obtain ⟨b1, e1, _, l1⟩ := DataW.trod_int u1 g1
        simp at e0 e1
        have z0 := hcell 0 (by omega)
        have z1 := hcell 1 (by omega)
        rw [Go.Deep.add_add] at z0 z1
        exact ⟨(b0, b1), by simpa [e0] using z0, by simpa [e1] using z1, l0, l1⟩
  obtain ⟨o, ho⟩ := Go.Deep.choose_lt each
  exact ⟨some a, len, cap, fun i => (o i).1, fun i => (o i).2, rfl, .inr ⟨a, rfl, hl, hm, fun i hi => ho i hi⟩⟩
structure CcTy (P : Program) (e : TypeId) : Prop where
  st : ∃ f0 f1 f2 : Field, P.underlying e = some (.struct #[f0, f1, f2]) ∧ (f0.offset = 0 ∧ f1.offset = 1 ∧ f2.offset = 4) ∧ (P.cellsOf f0.type = 1 ∧ P.cellsOf f1.type = 3 ∧ P.cellsOf f2.type = 1) ∧ (∃ c, P.underlying f0.type = some (.slice c) ∧ NdTy P c) ∧ (∃ d0 d1 d2 : Field, P.underlying f1.type = some (.struct #[d0, d1, d2]) ∧ (d0.offset = 0 ∧ d1.offset = 1 ∧ d2.offset = 2) ∧ (P.cellsOf d0.type = 1 ∧ P.cellsOf d1.type = 1 ∧ P.cellsOf d2.type = 1) ∧ P.underlying d0.type = some (.int .i64) ∧ P.underlying d1.type = some (.int .i64) ∧ P.underlying d2.type = some (.int .i64)) ∧ P.underlying f2.type = some (.int .i64)
theorem open_cc {t : TypeId} {fuel : Nat} {v0 v1 v2 v3 v4 : Value} {x : DataW H × List MemPlace} (hE : CcTy P t) (h : DataW.trod enc P w base spare held fuel t [v0, v1, v2, v3, v4] = some x) :
    ∃ a len cap ys zs k m g u, (v0 = .slice a len cap ∧ v1 = .int .i64 k ∧ v2 = .int .i64 m ∧ v3 = .int .i64 g ∧ v4 = .int .i64 u) ∧ IsPairs w a len cap ys zs := by
  obtain ⟨⟨f0, f1, f2, he, ⟨o0, o1, o2⟩, ⟨c0, c1, c2⟩, ⟨e0, u0, E0⟩, ⟨d0, d1, d2, he1, ⟨p0, p1, p2⟩, ⟨r0, r1, r2⟩, s0, s1, s2⟩, u2⟩⟩ := hE
  obtain ⟨xs, n', _, _, _, hxs, hf⟩ := DataW.trod_struct he h
  match xs, hxs with
  | [y0, y1, y2], _ =>
    have g0 := hf 0 f0 rfl
    have g1 := hf 1 f1 rfl
    have g2 := hf 2 f2 rfl
    simp [o0, o1, o2, c0, c1, c2] at g0 g1 g2
    obtain ⟨a, len, cap, ys, zs, i0, h0⟩ := open_nds u0 E0 g0
    obtain ⟨xs', n'', _, _, _, hxs', hf'⟩ := DataW.trod_struct he1 g1
    obtain ⟨b2, i2, _, _⟩ := DataW.trod_int u2 g2
    match xs', hxs' with
    | [t0, t1, t2], _ =>
      have q0 := hf' 0 d0 rfl
      have q1 := hf' 1 d1 rfl
      have q2 := hf' 2 d2 rfl
      simp [p0, p1, p2, r0, r1, r2] at q0 q1 q2
      obtain ⟨k, j0, _, _⟩ := DataW.trod_int s0 q0
      obtain ⟨m, j1, _, _⟩ := DataW.trod_int s1 q1
      obtain ⟨g, j2, _, _⟩ := DataW.trod_int s2 q2
      simp at i0 i2 j0 j1 j2
      exact ⟨a, len, cap, ys, zs, k, m, g, b2, ⟨i0, j0, j1, j2, i2⟩, h0⟩
end
end Go.Proofs.YtokjfffcciddhaaGreatDoor
namespace Go.Proofs.YtokjfffcciddhaaGreatDoor
open Go.RowKit
/-! Buckets as a row hands them in (by openrow.py). -/
theorem arr5 {α : Type} {cs : Array α} (h : cs.size = 5) : ∃ a b c d e, cs = #[a, b, c, d, e] := by
  match cs with
  | ⟨[a, b, c, d, e]⟩ => exact ⟨a, b, c, d, e, rfl⟩
section
variable {H : Type} {enc : TypeId × Value → H} {P : Program} {w : World} {base : Nat} {spare : Nat → Bool} {held : Bool}
instance : Inhabited Lr := ⟨lr0⟩
/-- the shape of the type -/
structure LrTy (P : Program) (e : TypeId) : Prop where
  st : ∃ f0 f1 f2 : Field, P.underlying e = some (.struct #[f0, f1, f2]) ∧ (f0.offset = 0 ∧ f1.offset = 1 ∧ f2.offset = 2) ∧ (P.cellsOf f0.type = 1 ∧ P.cellsOf f1.type = 1 ∧ P.cellsOf f2.type = 1) ∧ P.underlying f0.type = some (.int .i64) ∧ P.underlying f1.type = some .string ∧ P.underlying f2.type = some (.int .i64)
  ce : P.cellsOf e = 3
def IsLrs (w : World) (a : Option Addr) (len cap : Nat) (o : Nat → Lr) : Prop :=
  Lrs w a len cap o ∧ cap ≤ maxLen ∧ ∀ i, i < len → (o i).px.size ≤ maxLen
theorem addLr (b off : Nat) (i : Nat) : (⟨b, off, none⟩ : Addr).add i = ⟨b, off + i, none⟩ := by unfold Addr.add; split <;> simp_all
theorem open_lrs {t e : TypeId} {fuel : Nat} {cs : List Value} {x : DataW H × List MemPlace} (ht : P.underlying t = some (.slice e)) (hE : LrTy P e) (h : DataW.trod enc P w base spare held fuel t cs = some x) :
    ∃ a len cap o, cs = [.slice a len cap] ∧ IsLrs w a len cap o := by
  obtain ⟨⟨f0, f1, f2, he, ⟨o0, o1, o2⟩, ⟨c0, c1, c2⟩, u0, u1, u2⟩, ce⟩ := hE
  rcases Go.Deep.open_slice ht h with ⟨h0, _⟩ | ⟨a, len, cap, m, n, D, Pl, rfl, hb, hl, hm, hmm, rfl, hx⟩
  · exact ⟨none, 0, 0, fun _ => lr0, h0, ⟨Nat.le_refl _, .inl rfl⟩, Nat.zero_le _, fun i hi => absurd hi (by omega)⟩
  have hlm : len ≤ m := by rw [hmm]; split <;> omega
  have each : ∀ i, i < len → ∃ q : Lr, (w.cell? (a.add (i * 3)) = some (.int .i64 q.kd) ∧ w.cell? (a.add (i * 3 + 1)) = some (.string q.px) ∧ w.cell? (a.add (i * 3 + 2)) = some (.int .i64 q.ag)) ∧ q.px.size ≤ maxLen := by
    intro i hi
    obtain ⟨cs', h1, h2⟩ := hx i (by omega)
    rw [ce] at h1
    obtain ⟨_, hlen, hcell⟩ := World.cells?_some h1
    obtain ⟨xs, n', _, _, _, hxs, hf⟩ := DataW.trod_struct he h2
    match xs, hxs with
    | [y0, y1, y2], _ =>
      have g0 := hf 0 f0 rfl
      have g1 := hf 1 f1 rfl
      have g2 := hf 2 f2 rfl
      match cs', hlen with
      | [v0, v1, v2], _ =>
        simp [o0, c0, o1, c1, o2, c2] at g0 g1 g2
        obtain ⟨b0, e0, _, _⟩ := DataW.trod_int u0 g0
        obtain ⟨b1, e1, _, l1⟩ := DataW.trod_string u1 g1
        obtain ⟨b2, e2, _, _⟩ := DataW.trod_int u2 g2
        simp at e0 e1 e2
        have z0 := hcell 0 (by omega)
        have z1 := hcell 1 (by omega)
        have z2 := hcell 2 (by omega)
        rw [Go.Deep.add_add] at z0 z1 z2
        exact ⟨⟨b0, b1, b2⟩, ⟨by simpa [e0] using z0, by simpa [e1] using z1, by simpa [e2] using z2⟩, l1⟩
  obtain ⟨o, ho⟩ := Go.Deep.choose_lt each
  refine ⟨some a, len, cap, o, rfl, ⟨hl, ?_⟩, hm, fun i hi => (ho i hi).2⟩
  by_cases h0 : len = 0
  · exact .inl h0
  · right
    obtain ⟨b, off, spot⟩ := a
    have hc := (ho 0 (by omega)).1.1
    have hspot : spot = none := by simpa [Addr.add] using World.cell?_spot hc
    subst hspot
    refine ⟨b, off, rfl, ?_, fun i hi => ?_⟩
    · have := World.block_lt_of_cell? w _ hc; rw [addLr] at this; exact this
    · obtain ⟨q0, q1, q2⟩ := (ho i hi).1
      rw [addLr] at q0 q1 q2
      exact ⟨q0, by rw [Nat.add_assoc]; exact q1, by rw [Nat.add_assoc]; exact q2⟩
instance : Inhabited Ve := ⟨ve0⟩
/-- the shape of the type -/
structure VeTy (P : Program) (e : TypeId) : Prop where
  st : ∃ f0 f1 f2 f3 f4 f5 f6 : Field, P.underlying e = some (.struct #[f0, f1, f2, f3, f4, f5, f6]) ∧ (f0.offset = 0 ∧ f1.offset = 1 ∧ f2.offset = 2 ∧ f3.offset = 3 ∧ f4.offset = 4 ∧ f5.offset = 5 ∧ f6.offset = 6) ∧ (P.cellsOf f0.type = 1 ∧ P.cellsOf f1.type = 1 ∧ P.cellsOf f2.type = 1 ∧ P.cellsOf f3.type = 1 ∧ P.cellsOf f4.type = 1 ∧ P.cellsOf f5.type = 1 ∧ P.cellsOf f6.type = 1) ∧ P.underlying f0.type = some .string ∧ P.underlying f1.type = some (.int .i64) ∧ P.underlying f2.type = some .bool ∧ P.underlying f3.type = some .string ∧ P.underlying f4.type = some (.int .i64) ∧ P.underlying f5.type = some (.int .i64) ∧ P.underlying f6.type = some .bool
  ce : P.cellsOf e = 7
def IsVes (w : World) (a : Option Addr) (len cap : Nat) (o : Nat → Ve) : Prop :=
  Ves w a len cap o ∧ cap ≤ maxLen ∧ ∀ i, i < len → (o i).ky.size ≤ maxLen ∧ (o i).dt.size ≤ maxLen
theorem addVe (b off : Nat) (i : Nat) : (⟨b, off, none⟩ : Addr).add i = ⟨b, off + i, none⟩ := by unfold Addr.add; split <;> simp_all
theorem open_ves {t e : TypeId} {fuel : Nat} {cs : List Value} {x : DataW H × List MemPlace} (ht : P.underlying t = some (.slice e)) (hE : VeTy P e) (h : DataW.trod enc P w base spare held fuel t cs = some x) :
    ∃ a len cap o, cs = [.slice a len cap] ∧ IsVes w a len cap o := by
  obtain ⟨⟨f0, f1, f2, f3, f4, f5, f6, he, ⟨o0, o1, o2, o3, o4, o5, o6⟩, ⟨c0, c1, c2, c3, c4, c5, c6⟩, u0, u1, u2, u3, u4, u5, u6⟩, ce⟩ := hE
  rcases Go.Deep.open_slice ht h with ⟨h0, _⟩ | ⟨a, len, cap, m, n, D, Pl, rfl, hb, hl, hm, hmm, rfl, hx⟩
  · exact ⟨none, 0, 0, fun _ => ve0, h0, ⟨Nat.le_refl _, .inl rfl⟩, Nat.zero_le _, fun i hi => absurd hi (by omega)⟩
  have hlm : len ≤ m := by rw [hmm]; split <;> omega
  have each : ∀ i, i < len → ∃ q : Ve, (w.cell? (a.add (i * 7)) = some (.string q.ky) ∧ w.cell? (a.add (i * 7 + 1)) = some (.int .i64 q.id) ∧ w.cell? (a.add (i * 7 + 2)) = some (.bool q.mr) ∧ w.cell? (a.add (i * 7 + 3)) = some (.string q.dt) ∧ w.cell? (a.add (i * 7 + 4)) = some (.int .i64 q.tm) ∧ w.cell? (a.add (i * 7 + 5)) = some (.int .i64 q.un) ∧ w.cell? (a.add (i * 7 + 6)) = some (.bool q.ho)) ∧ q.ky.size ≤ maxLen ∧ q.dt.size ≤ maxLen := by
    intro i hi
    obtain ⟨cs', h1, h2⟩ := hx i (by omega)
    rw [ce] at h1
    obtain ⟨_, hlen, hcell⟩ := World.cells?_some h1
    obtain ⟨xs, n', _, _, _, hxs, hf⟩ := DataW.trod_struct he h2
    match xs, hxs with
    | [y0, y1, y2, y3, y4, y5, y6], _ =>
      have g0 := hf 0 f0 rfl
      have g1 := hf 1 f1 rfl
      have g2 := hf 2 f2 rfl
      have g3 := hf 3 f3 rfl
      have g4 := hf 4 f4 rfl
      have g5 := hf 5 f5 rfl
      have g6 := hf 6 f6 rfl
      match cs', hlen with
      | [v0, v1, v2, v3, v4, v5, v6], _ =>
        simp [o0, c0, o1, c1, o2, c2, o3, c3, o4, c4, o5, c5, o6, c6] at g0 g1 g2 g3 g4 g5 g6
        obtain ⟨b0, e0, _, l0⟩ := DataW.trod_string u0 g0
        obtain ⟨b1, e1, _, _⟩ := DataW.trod_int u1 g1
        obtain ⟨b2, e2, _⟩ := DataW.trod_bool u2 g2
        obtain ⟨b3, e3, _, l3⟩ := DataW.trod_string u3 g3
        obtain ⟨b4, e4, _, _⟩ := DataW.trod_int u4 g4
        obtain ⟨b5, e5, _, _⟩ := DataW.trod_int u5 g5
        obtain ⟨b6, e6, _⟩ := DataW.trod_bool u6 g6
        simp at e0 e1 e2 e3 e4 e5 e6
        have z0 := hcell 0 (by omega)
        have z1 := hcell 1 (by omega)
        have z2 := hcell 2 (by omega)
        have z3 := hcell 3 (by omega)
        have z4 := hcell 4 (by omega)
        have z5 := hcell 5 (by omega)
        have z6 := hcell 6 (by omega)
        rw [Go.Deep.add_add] at z0 z1 z2 z3 z4 z5 z6
        exact ⟨⟨b0, b1, b2, b3, b4, b5, b6⟩, ⟨by simpa [e0] using z0, by simpa [e1] using z1, by simpa [e2] using z2, by simpa [e3] using z3, by simpa [e4] using z4, by simpa [e5] using z5, by simpa [e6] using z6⟩, l0, l3⟩
  obtain ⟨o, ho⟩ := Go.Deep.choose_lt each
  refine ⟨some a, len, cap, o, rfl, ⟨hl, ?_⟩, hm, fun i hi => (ho i hi).2⟩
  by_cases h0 : len = 0
  · exact .inl h0
  · right
    obtain ⟨b, off, spot⟩ := a
    have hc := (ho 0 (by omega)).1.1
    have hspot : spot = none := by simpa [Addr.add] using World.cell?_spot hc
    subst hspot
    refine ⟨b, off, rfl, ?_, fun i hi => ?_⟩
    · have := World.block_lt_of_cell? w _ hc; rw [addVe] at this; exact this
    · obtain ⟨q0, q1, q2, q3, q4, q5, q6⟩ := (ho i hi).1
      rw [addVe] at q0 q1 q2 q3 q4 q5 q6
      exact ⟨q0, by rw [Nat.add_assoc]; exact q1, by rw [Nat.add_assoc]; exact q2, by rw [Nat.add_assoc]; exact q3, by rw [Nat.add_assoc]; exact q4, by rw [Nat.add_assoc]; exact q5, by rw [Nat.add_assoc]; exact q6⟩
structure BkTy (P : Program) (e : TypeId) : Prop where
  st : ∃ f0 f1 f2 f3 f4 : Field, P.underlying e = some (.struct #[f0, f1, f2, f3, f4]) ∧ (f0.offset = 0 ∧ f1.offset = 1 ∧ f2.offset = 2 ∧ f3.offset = 3 ∧ f4.offset = 4) ∧ (P.cellsOf f0.type = 1 ∧ P.cellsOf f1.type = 1 ∧ P.cellsOf f2.type = 1 ∧ P.cellsOf f3.type = 1 ∧ P.cellsOf f4.type = 1) ∧ P.underlying f0.type = some (.int .i64) ∧ P.underlying f1.type = some .bool ∧ P.underlying f2.type = some (.int .i64) ∧ (∃ c, P.underlying f3.type = some (.slice c) ∧ LrTy P c) ∧ (∃ c, P.underlying f4.type = some (.slice c) ∧ VeTy P c)
theorem open_bk {t : TypeId} {fuel : Nat} {v0 v1 v2 v3 v4 : Value} {x : DataW H × List MemPlace} (hE : BkTy P t) (h : DataW.trod enc P w base spare held fuel t [v0, v1, v2, v3, v4] = some x) :
    ∃ ni kp q a0 n0 c0 o0 a m cap o, (v0 = .int .i64 ni ∧ v1 = .bool kp ∧ v2 = .int .i64 q ∧ v3 = .slice a0 n0 c0 ∧ v4 = .slice a m cap) ∧ IsLrs w a0 n0 c0 o0 ∧ IsVes w a m cap o := by
  obtain ⟨⟨f0, f1, f2, f3, f4, he, ⟨o0, o1, o2, o3, o4⟩, ⟨c0, c1, c2, c3, c4⟩, u0, u1, u2, ⟨e3, u3, E3⟩, ⟨e4, u4, E4⟩⟩⟩ := hE
  obtain ⟨xs, n', _, _, _, hxs, hf⟩ := DataW.trod_struct he h
  match xs, hxs with
  | [y0, y1, y2, y3, y4], _ =>
    have g0 := hf 0 f0 rfl
    have g1 := hf 1 f1 rfl
    have g2 := hf 2 f2 rfl
    have g3 := hf 3 f3 rfl
    have g4 := hf 4 f4 rfl
    simp [o0, o1, o2, o3, o4, c0, c1, c2, c3, c4] at g0 g1 g2 g3 g4
    obtain ⟨b0, e0, _, _⟩ := DataW.trod_int u0 g0
    obtain ⟨b1, e1, _⟩ := DataW.trod_bool u1 g1
    obtain ⟨b2, e2, _, _⟩ := DataW.trod_int u2 g2
    obtain ⟨a3, n3, k3, p3, i3, h3⟩ := open_lrs u3 E3 g3
    obtain ⟨a4, n4, k4, p4, i4, h4⟩ := open_ves u4 E4 g4
    simp at e0 e1 e2 i3 i4
    exact ⟨b0, b1, b2, a3, n3, k3, p3, a4, n4, k4, p4, ⟨e0, e1, e2, i3, i4⟩, h3, h4⟩
end
end Go.Proofs.YtokjfffcciddhaaGreatDoor
