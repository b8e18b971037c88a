import Derived.Test.YtmjolkagkeonfaaGreatDoorRLawPm
namespace Go.Proofs.YtmjolkagkeonfaaGreatDoorR
open Go.RowKit
set_option linter.unusedVariables false
/-! Statements: their slices, one behind the other, marked one by one. -/
structure Sl where
  ad : Option Addr
  n : Nat
  cap : Nat
  cn : Bool
def slS (s : St) (r : Nat) : Sl := if r = 0 then ⟨s.wo.ad, s.wo.n, s.wo.cap, false⟩ else if r = 1 then ⟨s.wa.ad, s.wa.n, s.wa.cap, false⟩ else if r = 2 then ⟨s.wi.ad, s.wi.n, s.wi.cap, false⟩ else ⟨s.cs.ad, s.cs.n, s.cs.cap, true⟩
def slQ (R : Nat → St) (q : Nat) : Sl := slS (R (q / 4)) (q % 4)
theorem slQ0 (R : Nat → St) (i : Nat) : slQ R (4 * i) = ⟨(R i).wo.ad, (R i).wo.n, (R i).wo.cap, false⟩ := by unfold slQ slS; rw [show 4 * i / 4 = i by omega, if_pos (by omega)]
theorem slQ1 (R : Nat → St) (i : Nat) : slQ R (4 * i + 1) = ⟨(R i).wa.ad, (R i).wa.n, (R i).wa.cap, false⟩ := by unfold slQ slS; rw [show (4 * i + 1) / 4 = i by omega, if_neg (by omega), if_pos (by omega)]
theorem slQ2 (R : Nat → St) (i : Nat) : slQ R (4 * i + 2) = ⟨(R i).wi.ad, (R i).wi.n, (R i).wi.cap, false⟩ := by unfold slQ slS; rw [show (4 * i + 2) / 4 = i by omega, if_neg (by omega), if_neg (by omega), if_pos (by omega)]
theorem slQ3 (R : Nat → St) (i : Nat) : slQ R (4 * i + 3) = ⟨(R i).cs.ad, (R i).cs.n, (R i).cs.cap, true⟩ := by unfold slQ slS; rw [show (4 * i + 3) / 4 = i by omega, if_neg (by omega), if_neg (by omega), if_neg (by omega)]
def kS (k0 : Nat) (R : Nat → St) : Nat → Nat
  | 0 => k0
  | i + 1 => kS k0 R i + 1 + (R i).wo.n + (R i).wa.n + (R i).wi.n + (R i).cs.n * 3
def kQ (k0 : Nat) (R : Nat → St) (q : Nat) : Nat := kS k0 R (q / 4) + 1 + (if q % 4 = 0 then 0 else if q % 4 = 1 then (R (q / 4)).wo.n else if q % 4 = 2 then (R (q / 4)).wo.n + (R (q / 4)).wa.n else (R (q / 4)).wo.n + (R (q / 4)).wa.n + (R (q / 4)).wi.n)
theorem kQ0 (k0 : Nat) (R : Nat → St) (i : Nat) : kQ k0 R (4 * i) = kS k0 R i + 1 := by unfold kQ; rw [show 4 * i / 4 = i by omega, if_pos (by omega)]
theorem kQ1 (k0 : Nat) (R : Nat → St) (i : Nat) : kQ k0 R (4 * i + 1) = kS k0 R i + 1 + (R i).wo.n := by unfold kQ; rw [show (4 * i + 1) / 4 = i by omega, if_neg (by omega), if_pos (by omega)]
theorem kQ2 (k0 : Nat) (R : Nat → St) (i : Nat) : kQ k0 R (4 * i + 2) = kS k0 R i + 1 + (R i).wo.n + (R i).wa.n := by unfold kQ; rw [show (4 * i + 2) / 4 = i by omega, if_neg (by omega), if_neg (by omega), if_pos (by omega)]; omega
theorem kQ3 (k0 : Nat) (R : Nat → St) (i : Nat) : kQ k0 R (4 * i + 3) = kS k0 R i + 1 + (R i).wo.n + (R i).wa.n + (R i).wi.n := by unfold kQ; rw [show (4 * i + 3) / 4 = i by omega, if_neg (by omega), if_neg (by omega), if_neg (by omega)]; omega
theorem kS_ge (k0 : Nat) (R : Nat → St) : ∀ i, k0 ≤ kS k0 R i
  | 0 => Nat.le_refl _
  | i + 1 => by have := kS_ge k0 R i; rw [kS]; omega
/-- bounds of the lengths -/
def lnB (R : Nat → St) (m : Nat) : Prop := ∀ i, i < m → (R i).wo.n ≤ 1048576 ∧ (R i).wa.n ≤ 1048576 ∧ (R i).wi.n ≤ 1048576 ∧ (R i).cs.n ≤ 1048576
theorem kS_le {k0 m : Nat} {R : Nat → St} (h : lnB R m) : ∀ i, i ≤ m → kS k0 R i ≤ k0 + i * 6291457
  | 0, _ => by rw [kS]; omega
  | i + 1, hi => by have := kS_le h i (by omega) (k0 := k0); have := h i (by omega); rw [kS]; omega
/-- a slice that is not marked yet; one that is -/
def UnS (w : World) (s : Sl) : Prop := s.n = 0 ∨ ∃ (g : Nat) (f : Nat → Value), s.ad = some ⟨g, 0, none⟩ ∧ s.n ≤ s.cap ∧ (s.cn = false → FRow w g 9 s.cap f) ∧ (s.cn = true → FRow w g 55 (s.cap * 3) f ∧ ∀ i, i < s.n → (∃ x : Int, f (i * 3) = .int .i64 x) ∧ (∃ t : ByteArray, f (i * 3 + 1) = .string t) ∧ ∃ x : Int, f (i * 3 + 2) = .int .i64 x)
def MkS (w : World) (s : Sl) (k : Nat) : Prop := s.n = 0 ∨ ∃ (g : Nat) (f : Nat → Value), s.ad = some ⟨g, 0, none⟩ ∧ s.n ≤ s.cap ∧ (s.cn = false → FRow w g 9 s.cap (fun i => if i < s.n then .string (markB (k + i)) else f i)) ∧ (s.cn = true → FRow w g 55 (s.cap * 3) (upC k (s.n * 3) f))
theorem UnS.far {w w' : World} {s : Sl} {x : Nat} (h : UnS w s) (hg : w.grownBy w' (some x)) (hx : s.n ≠ 0 → s.ad ≠ some ⟨x, 0, none⟩) : UnS w' s := by
  rcases h with h0 | ⟨g, f, ha, hn, h1, h2⟩
  · exact .inl h0
  · by_cases e : s.n = 0
    · exact .inl e
    · have hne : some g ≠ some x := fun q => hx e (by rw [ha, Option.some.inj q])
      exact .inr ⟨g, f, ha, hn, fun q => (h1 q).far hg hne, fun q => ⟨(h2 q).1.far hg hne, (h2 q).2⟩⟩
theorem MkS.far {w w' : World} {s : Sl} {x k : Nat} (h : MkS w s k) (hg : w.grownBy w' (some x)) (hx : s.n ≠ 0 → s.ad ≠ some ⟨x, 0, none⟩) : MkS w' s k := by
  rcases h with h0 | ⟨g, f, ha, hn, h1, h2⟩
  · exact .inl h0
  · by_cases e : s.n = 0
    · exact .inl e
    · have hne : some g ≠ some x := fun q => hx e (by rw [ha, Option.some.inj q])
      exact .inr ⟨g, f, ha, hn, fun q => (h1 q).far hg hne, fun q => (h2 q).far hg hne⟩
theorem MkS.below {w w' : World} {s : Sl} {k : Nat} (h : MkS w s k) (hb : Below w.heap.size w w') : MkS w' s k := by
  rcases h with h0 | ⟨g, f, ha, hn, h1, h2⟩
  · exact .inl h0
  · exact .inr ⟨g, f, ha, hn, fun q => (h1 q).below hb (h1 q).lt, fun q => (h2 q).below hb (h2 q).lt⟩
/-- the first q slices are marked -/
structure MdQ (w : World) (R : Nat → St) (m q k0 : Nat) : Prop where
  done : ∀ j, j < 4 * m → j < q → MkS w (slQ R j) (kQ k0 R j)
  left : ∀ j, j < 4 * m → q ≤ j → UnS w (slQ R j)
/-- what does not hang on the world -/
structure DsQ (R : Nat → St) (m B g : Nat) : Prop where
  lo : ∀ j x, j < 4 * m → (slQ R j).n ≠ 0 → (slQ R j).ad = some ⟨x, 0, none⟩ → B ≤ x ∧ x ≠ g
  ne : ∀ j j' x, j < 4 * m → j' < 4 * m → j ≠ j' → (slQ R j).n ≠ 0 → (slQ R j').n ≠ 0 → (slQ R j).ad = some ⟨x, 0, none⟩ → (slQ R j').ad ≠ some ⟨x, 0, none⟩
theorem MdQ.outer {w w' : World} {R : Nat → St} {m q k0 B g : Nat} (h : MdQ w R m q k0) (hd : DsQ R m B g) (hg : w.grownBy w' (some g)) : MdQ w' R m q k0 :=
  ⟨fun j hj hq => (h.done j hj hq).far hg fun hn ha => (hd.lo j g hj hn ha).2 rfl, fun j hj hq => (h.left j hj hq).far hg fun hn ha => (hd.lo j g hj hn ha).2 rfl⟩
theorem MdQ.below {w w' : World} {R : Nat → St} {m k0 : Nat} (h : MdQ w R m (4 * m) k0) (hb : Below w.heap.size w w') : MdQ w' R m (4 * m) k0 :=
  ⟨fun j hj hq => (h.done j hj hq).below hb, fun j hj hq => absurd hq (by omega)⟩
theorem MdQ.step0 {w : World} {R : Nat → St} {m q k0 : Nat} (h : MdQ w R m q k0) (h0 : (slQ R q).n = 0) : MdQ w R m (q + 1) k0 :=
  ⟨fun j hj hq => by
    by_cases e : j = q
    · subst e; exact .inl h0
    · exact h.done j hj (by omega), fun j hj hq => h.left j hj (by omega)⟩
theorem MdQ.step {w w' : World} {R : Nat → St} {m q k0 B g x : Nat} (h : MdQ w R m q k0) (hd : DsQ R m B g) (hq : q < 4 * m) (h0 : (slQ R q).n ≠ 0) (ha : (slQ R q).ad = some ⟨x, 0, none⟩) (hg : w.grownBy w' (some x)) (hM : MkS w' (slQ R q) (kQ k0 R q)) : MdQ w' R m (q + 1) k0 :=
  ⟨fun j hj hjq => by
    by_cases e : j = q
    · subst e; exact hM
    · exact (h.done j hj (by omega)).far hg fun hn => hd.ne q j x hq hj (fun z => e z.symm) h0 hn ha,
   fun j hj hjq => (h.left j hj (by omega)).far hg fun hn => hd.ne q j x hq hj (by omega) h0 hn ha⟩
/-- rows of other kinds stay -/
def KT (w w' : World) : Prop := ∀ y t cs, t ≠ 9 → t ≠ 55 → t ≠ 45 → RowAt w y t cs → RowAt w' y t cs
theorem KT.refl (w : World) : KT w w := fun _ _ _ _ _ _ h => h
theorem KT.trans {a b c : World} (h : KT a b) (k : KT b c) : KT a c := fun y t cs h1 h2 h3 hr => k y t cs h1 h2 h3 (h y t cs h1 h2 h3 hr)
theorem KT.below {w w' : World} (hb : Below w.heap.size w w') : KT w w' := fun _ _ _ _ _ _ h => h.below hb h.lt
theorem KT.grown {w w' : World} {x : Nat} {u : TypeId} {ds : Array Value} (hg : w.grownBy w' (some x)) (hr : RowAt w x u ds) (hu : u = 9 ∨ u = 55 ∨ u = 45) : KT w w' := fun y t cs h1 h2 h3 h =>
  (hg.block y h.lt fun e => by
    have e := Option.some.inj e
    exact rowApart h hr (by rcases hu with rfl | rfl | rfl <;> assumption) e).trans h
theorem markQs (R : Nat → St) (m q k0 B g : Nat) (hd : DsQ R m B g) (hq : q < 4 * m) (hc : (slQ R q).cn = false) (hk1 : 1 ≤ k0) (hkb : kQ k0 R q ≤ 536870912) (hl : (slQ R q).n ≤ 1048576) (w : World) (hBw : B ≤ w.heap.size) (h : MdQ w R m q k0) :
    Calls Tryz.prog 57 #[.slice (slQ R q).ad (slQ R q).n (slQ R q).cap, .int .i64 (kQ k0 R q : Nat)] w fun e w' => e = .returned (.int .i64 ((kQ k0 R q + (slQ R q).n : Nat) : Int)) ∧ MdQ w' R m (q + 1) k0 ∧ Below B w w' ∧ (∀ t cs, RowAt w g t cs → RowAt w' g t cs) ∧ KT w w' := by
  have hk : 1 ≤ kQ k0 R q := by unfold kQ; omega
  by_cases h0 : (slQ R q).n = 0
  · rw [h0]
    exact (markStr0 _ _ _ w).mono fun e w' ⟨q1, q2⟩ => ⟨q1, by rw [q2]; exact h.step0 h0, by rw [q2]; exact Below.refl _ _, by rw [q2]; exact fun _ _ z => z, by rw [q2]; exact KT.refl _⟩
  · rcases h.left q hq (Nat.le_refl _) with z | ⟨x, f, ha, hn, h1, _⟩
    · exact absurd z h0
    · have hlo := hd.lo q x hq h0 ha
      rw [ha]
      refine (markStr x (slQ R q).n (slQ R q).cap (slQ R q).cap (kQ k0 R q) 9 hn f hk hl hkb w (h1 hc)).mono fun e w' ⟨q1, q2, q3⟩ => ⟨q1, ?_, ?_, ?_, ?_⟩
      · exact h.step hd hq h0 ha q3 (.inr ⟨x, f, ha, hn, fun _ => q2, fun z => Bool.noConfusion (hc.symm.trans z)⟩)
      · exact (Below.refl _ _).grown q3 hBw (fun y hy => by cases hy; exact hlo.1)
      · intro t cs hr
        exact (q3.block g hr.lt (fun z => hlo.2 (Option.some.inj z).symm)).trans hr
      · obtain ⟨ds, hds, _⟩ := h1 hc
        exact KT.grown q3 hds (.inl rfl)
theorem markQc (R : Nat → St) (m q k0 B g : Nat) (hd : DsQ R m B g) (hq : q < 4 * m) (hc : (slQ R q).cn = true) (hk1 : 1 ≤ k0) (hkb : kQ k0 R q ≤ 536870912) (hl : (slQ R q).n ≤ 1048576) (w : World) (hBw : B ≤ w.heap.size) (h : MdQ w R m q k0) :
    Calls Tryz.prog 58 #[.slice (slQ R q).ad (slQ R q).n (slQ R q).cap, .int .i64 (kQ k0 R q : Nat)] w fun e w' => e = .returned (.int .i64 ((kQ k0 R q + (slQ R q).n * 3 : Nat) : Int)) ∧ MdQ w' R m (q + 1) k0 ∧ Below B w w' ∧ (∀ t cs, RowAt w g t cs → RowAt w' g t cs) ∧ KT w w' := by
  have hk : 1 ≤ kQ k0 R q := by unfold kQ; omega
  by_cases h0 : (slQ R q).n = 0
  · rw [h0]
    exact (markCn0 _ _ _ w).mono fun e w' ⟨q1, q2⟩ => ⟨q1, by rw [q2]; exact h.step0 h0, by rw [q2]; exact Below.refl _ _, by rw [q2]; exact fun _ _ z => z, by rw [q2]; exact KT.refl _⟩
  · rcases h.left q hq (Nat.le_refl _) with z | ⟨x, f, ha, hn, _, h1⟩
    · exact absurd z h0
    · have hlo := hd.lo q x hq h0 ha
      obtain ⟨h1a, h1b⟩ := h1 hc
      rw [ha]
      refine (markCn x (slQ R q).n (slQ R q).cap (kQ k0 R q) f hk (by omega) hn h1b w h1a).mono fun e w' ⟨q1, q2, q3⟩ => ⟨q1, ?_, ?_, ?_, ?_⟩
      · exact h.step hd hq h0 ha q3 (.inr ⟨x, f, ha, hn, fun z => Bool.noConfusion (hc.symm.trans z), fun _ => q2⟩)
      · exact (Below.refl _ _).grown q3 hBw (fun y hy => by cases hy; exact hlo.1)
      · intro t cs hr
        exact (q3.block g hr.lt (fun z => hlo.2 (Option.some.inj z).symm)).trans hr
      · obtain ⟨ds, hds, _⟩ := h1a
        exact KT.grown q3 hds (.inr (.inl rfl))
theorem heldQs (R : Nat → St) (m q k0 : Nat) (hq : q < 4 * m) (hc : (slQ R q).cn = false) (hk1 : 1 ≤ k0) (hkb : kQ k0 R q ≤ 536870912) (hl : (slQ R q).n ≤ 1048576) (w : World) (h : MdQ w R m (4 * m) k0) :
    Calls Tryz.prog 59 #[.slice (slQ R q).ad (slQ R q).n (slQ R q).cap, .int .i64 (kQ k0 R q : Nat)] w fun e w' => e = .returned (.int .i64 ((kQ k0 R q + (slQ R q).n : Nat) : Int)) ∧ Below w.heap.size w w' := by
  have hk : 1 ≤ kQ k0 R q := by unfold kQ; omega
  rcases h.done q hq hq with h0 | ⟨x, f, ha, hn, h1, _⟩
  · exact heldStr _ _ _ _ hk hl hkb w ⟨by rw [h0]; exact Nat.zero_le _, .inl h0⟩
  · rw [ha]
    refine heldStr _ _ _ _ hk hl hkb w ⟨hn, .inr ⟨x, 0, rfl, (h1 hc).lt, fun i hi => ?_⟩⟩
    have := (h1 hc).cell (p := i) (by omega)
    rw [if_pos hi] at this
    rw [Nat.zero_add]
    exact this
theorem heldQc (R : Nat → St) (m q k0 : Nat) (hq : q < 4 * m) (hc : (slQ R q).cn = true) (hk1 : 1 ≤ k0) (hkb : kQ k0 R q ≤ 536870912) (hl : (slQ R q).n ≤ 1048576) (w : World) (h : MdQ w R m (4 * m) k0) :
    Calls Tryz.prog 60 #[.slice (slQ R q).ad (slQ R q).n (slQ R q).cap, .int .i64 (kQ k0 R q : Nat)] w fun e w' => e = .returned (.int .i64 ((kQ k0 R q + (slQ R q).n * 3 : Nat) : Int)) ∧ Below w.heap.size w w' := by
  have hk : 1 ≤ kQ k0 R q := by unfold kQ; omega
  by_cases h0 : (slQ R q).n = 0
  · rw [h0]
    exact (heldCn0 _ _ _ w).mono fun e w' ⟨q1, q2⟩ => ⟨q1, by rw [q2]; exact Below.refl _ _⟩
  · rcases h.done q hq hq with z | ⟨x, f, ha, hn, _, h1⟩
    · exact absurd z h0
    · rw [ha]
      exact heldCn x _ _ _ f hk (by omega) hn w (h1 hc)
/-! The whole row. -/
def upS (k0 : Nat) (R : Nat → St) (f : Nat → Value) (i p : Nat) : Value := if p < i * 5 ∧ p % 5 = 0 then .int .i64 ((kS k0 R (p / 5) : Nat) : Int) else f p
theorem upS_put (k0 : Nat) (R : Nat → St) (f : Nat → Value) (i p : Nat) : putF (upS k0 R f i) (i * 5) (.int .i64 ((kS k0 R i : Nat) : Int)) p = upS k0 R f (i + 1) p := by
  unfold putF upS
  by_cases e : p = i * 5
  · rw [if_pos e, if_pos (by omega), show p / 5 = i by omega]
  · rw [if_neg e]
    by_cases h : p < i * 5 ∧ p % 5 = 0
    · rw [if_pos h, if_pos (by omega)]
    · rw [if_neg h, if_neg (by omega)]
theorem upS_r (k0 : Nat) (R : Nat → St) (f : Nat → Value) (j i r : Nat) (hr : 0 < r) (hr5 : r < 5) : upS k0 R f j (i * 5 + r) = f (i * 5 + r) := by unfold upS; rw [if_neg (by omega)]
structure MdP (w : World) (B g c : Nat) (R : Nat → St) (m i k0 : Nat) (f : Nat → Value) : Prop where
  row : FRow w g 45 (c * 5) (upS k0 R f i)
  sl : MdQ w R m (4 * i) k0
structure MdS (B g c : Nat) (R : Nat → St) (m : Nat) (f : Nat → Value) : Prop where
  lo : B ≤ g
  cap : m ≤ c
  fs : ∀ p, p < m * 5 → f p = stF R p
  ds : DsQ R m B g
  ln : lnB R m
  mb : m ≤ 50
set_option maxRecDepth 20000 in
set_option maxHeartbeats 8000000 in
theorem markSts (B g c k0 : Nat) (R : Nat → St) (m : Nat) (f : Nat → Value) (hA : MdS B g c R m f) (hk1 : 1 ≤ k0) (hk : k0 ≤ 1000) (w : World) (hBw : B ≤ w.heap.size) (h : MdP w B g c R m 0 k0 f) :
    Calls Tryz.prog 39 #[.slice (some ⟨g, 0, none⟩) m c, .int .i64 (k0 : Int)] w fun e w' => e = .returned (.int .i64 ((kS k0 R m : Nat) : Int)) ∧ MdP w' B g c R m m k0 f ∧ Below B w w' ∧ KT w w' := by
  have H0 := hid h
  have HA := hid hA
  have HBw := hid hBw
  have hcap := hA.cap
  have hmb := hA.mb
  clear h hA hBw
  go_enter Tryz.func39, Tryz.ntmps39
  go_wp2_with fail
  go_loopw [1, 5] (fun y1 y5 wr => ∃ i : Nat, i ≤ m ∧ y5 = .int .i64 (i : Int) ∧ y1 = .int .i64 ((kS k0 R i : Nat) : Int) ∧ MdP wr B g c R m i k0 f ∧ Below B w wr ∧ KT w wr) (fun _ y5 _ => m - (intOf y5).toNat)
  case atStart => exact ⟨0, Nat.zero_le _, rfl, rfl, H0.out, Below.refl _ _, KT.refl _⟩
  case round =>
    obtain ⟨i, hi, rfl, rfl, hI, hB, hKT⟩ := hrel
    have II := hid hI
    have BB := hid hB
    have TT := hid hKT
    clear hI hB hKT H0
    by_cases hlt : i < m
    · have hlt' : (i : Int) < (m : Int) := by omega
      have i0 : (0 : Int) ≤ (i : Int) := by omega
      obtain ⟨K, hK⟩ : ∃ K, K = kS k0 R i := ⟨_, rfl⟩
      rw [← hK]
      have kle := kS_le (k0 := k0) HA.out.ln i (by omega)
      have kge := kS_ge k0 R i
      rw [← hK] at kle kge
      obtain ⟨l1, l2, l3, l4⟩ := HA.out.ln i hlt
      have hKb : K ≤ 400000000 := by omega
      have hK1 : 1 ≤ K := by omega
      have k1 := (kQ0 k0 R i).trans (by rw [← hK])
      have k2 := (kQ1 k0 R i).trans (by rw [← hK])
      have k3 := (kQ2 k0 R i).trans (by rw [← hK])
      have k4 := (kQ3 k0 R i).trans (by rw [← hK])
      have KE : Hid (kS k0 R (i + 1) = K + 1 + (R i).wo.n + (R i).wa.n + (R i).wi.n + (R i).cs.n * 3) := by show _ = _; rw [kS, ← hK]
      have R0 := II.out.row
      have c0 : wr.cell? ⟨g, i * 5, none⟩ = some (.int .i64 (R i).ef) := (R0.cell (by omega)).trans (by unfold upS; rw [if_neg (by omega), HA.out.fs _ (by omega), stF0])
      have f0 := R0.free (i * 5)
      obtain ⟨W1, hW1⟩ : ∃ W, W = wr.setCell ⟨g, i * 5, none⟩ (.int .i64 (K : Int)) := ⟨_, rfl⟩
      have g1 : wr.grownBy W1 (some g) := by rw [hW1]; exact grown_set
      have F1 : Hid (FRow W1 g 45 (c * 5) (upS k0 R f (i + 1))) := by
        rw [hW1]
        refine (R0.set (i * 5) _).congr fun p _ => ?_
        rw [hK]
        exact upS_put k0 R f i p
      have M1 : Hid (MdQ W1 R m (4 * i) k0) := II.out.sl.outer HA.out.ds g1
      have B1 : Hid (Below B w W1) := BB.out.grown g1 (Nat.le_trans HBw.out BB.out.size) (fun x hx => by cases hx; exact HA.out.lo)
      have T1 : Hid (KT w W1) := by
        obtain ⟨ds, hds, _⟩ := R0
        exact TT.out.trans (KT.grown g1 hds (.inr (.inr rfl)))
      have s0 := slQ0 R i
      have s1 := slQ1 R i
      have s2 := slQ2 R i
      have s3 := slQ3 R i
      have N1 := fun (wx : World) (hb : B ≤ wx.heap.size) (h : MdQ wx R m (4 * i) k0) => hid (markQs R m (4 * i) k0 B g HA.out.ds (by omega) (by rw [s0]) hk1 (by rw [k1]; omega) (by rw [s0]; exact l1) wx hb h)
      have N2 := fun (wx : World) (hb : B ≤ wx.heap.size) (h : MdQ wx R m (4 * i + 1) k0) => hid (markQs R m (4 * i + 1) k0 B g HA.out.ds (by omega) (by rw [s1]) hk1 (by rw [k2]; omega) (by rw [s1]; exact l2) wx hb h)
      have N3 := fun (wx : World) (hb : B ≤ wx.heap.size) (h : MdQ wx R m (4 * i + 2) k0) => hid (markQs R m (4 * i + 2) k0 B g HA.out.ds (by omega) (by rw [s2]) hk1 (by rw [k3]; omega) (by rw [s2]; exact l3) wx hb h)
      have N4 := fun (wx : World) (hb : B ≤ wx.heap.size) (h : MdQ wx R m (4 * i + 3) k0) => hid (markQc R m (4 * i + 3) k0 B g HA.out.ds (by omega) (by rw [s3]) hk1 (by rw [k4]; omega) (by rw [s3]; exact l4) wx hb h)
      have CE : Hid (∀ wx, FRow wx g 45 (c * 5) (upS k0 R f (i + 1)) → wx.cell? ⟨g, i * 5 + 1, none⟩ = some (.slice (R i).wo.ad (R i).wo.n (R i).wo.cap) ∧ wx.cell? ⟨g, i * 5 + 2, none⟩ = some (.slice (R i).wa.ad (R i).wa.n (R i).wa.cap) ∧ wx.cell? ⟨g, i * 5 + 3, none⟩ = some (.slice (R i).wi.ad (R i).wi.n (R i).wi.cap) ∧ wx.cell? ⟨g, i * 5 + 4, none⟩ = some (.slice (R i).cs.ad (R i).cs.n (R i).cs.cap)) := fun wx hx =>
        ⟨(hx.cell (by omega)).trans (by rw [upS_r _ _ _ _ _ _ (by omega) (by omega), HA.out.fs _ (by omega), stF1]), (hx.cell (by omega)).trans (by rw [upS_r _ _ _ _ _ _ (by omega) (by omega), HA.out.fs _ (by omega), stF2]), (hx.cell (by omega)).trans (by rw [upS_r _ _ _ _ _ _ (by omega) (by omega), HA.out.fs _ (by omega), stF3]), (hx.cell (by omega)).trans (by rw [upS_r _ _ _ _ _ _ (by omega) (by omega), HA.out.fs _ (by omega), stF4])⟩
      rw [s0, k1] at N1
      rw [s1, k2] at N2
      rw [s2, k3] at N3
      rw [s3, k4] at N4
      have HMI : Hid (∀ wx, FRow wx g 45 (c * 5) (upS k0 R f (i + 1)) → MdQ wx R m (4 * i + 4) k0 → MdP wx B g c R m (i + 1) k0 f) := fun wx h1 h2 => ⟨h1, by rw [show 4 * (i + 1) = 4 * i + 4 by omega]; exact h2⟩
      obtain ⟨QF, hQF⟩ : ∃ F : Nat → Value, F = upS k0 R f (i + 1) := ⟨_, rfl⟩
      rw [← hQF] at F1 CE HMI
      obtain ⟨MQ, hMQ⟩ : ∃ F : World → Nat → Prop, F = fun wx q => MdQ wx R m q k0 := ⟨_, rfl⟩
      have M1' : Hid (MQ W1 (4 * i)) := by rw [hMQ]; exact M1.out
      have HMI' : Hid (∀ wx, FRow wx g 45 (c * 5) QF → MQ wx (4 * i + 4) → MdP wx B g c R m (i + 1) k0 f) := by rw [hMQ]; exact HMI.out
      have N1' : ∀ (wx : World), B ≤ wx.heap.size → MQ wx (4 * i) → Hid (Calls Tryz.prog 57 #[.slice (R i).wo.ad (R i).wo.n (R i).wo.cap, .int .i64 ((K + 1 : Nat) : Int)] wx fun e w' => e = .returned (.int .i64 ((K + 1 + (R i).wo.n : Nat) : Int)) ∧ MQ w' (4 * i + 1) ∧ Below B wx w' ∧ (∀ t cs, RowAt wx g t cs → RowAt w' g t cs) ∧ KT wx w') := by rw [hMQ]; exact N1
      have N2' : ∀ (wx : World), B ≤ wx.heap.size → MQ wx (4 * i + 1) → Hid (Calls Tryz.prog 57 #[.slice (R i).wa.ad (R i).wa.n (R i).wa.cap, .int .i64 ((K + 1 + (R i).wo.n : Nat) : Int)] wx fun e w' => e = .returned (.int .i64 ((K + 1 + (R i).wo.n + (R i).wa.n : Nat) : Int)) ∧ MQ w' (4 * i + 2) ∧ Below B wx w' ∧ (∀ t cs, RowAt wx g t cs → RowAt w' g t cs) ∧ KT wx w') := by rw [hMQ]; exact N2
      have N3' : ∀ (wx : World), B ≤ wx.heap.size → MQ wx (4 * i + 2) → Hid (Calls Tryz.prog 57 #[.slice (R i).wi.ad (R i).wi.n (R i).wi.cap, .int .i64 ((K + 1 + (R i).wo.n + (R i).wa.n : Nat) : Int)] wx fun e w' => e = .returned (.int .i64 ((K + 1 + (R i).wo.n + (R i).wa.n + (R i).wi.n : Nat) : Int)) ∧ MQ w' (4 * i + 3) ∧ Below B wx w' ∧ (∀ t cs, RowAt wx g t cs → RowAt w' g t cs) ∧ KT wx w') := by rw [hMQ]; exact N3
      have N4' : ∀ (wx : World), B ≤ wx.heap.size → MQ wx (4 * i + 3) → Hid (Calls Tryz.prog 58 #[.slice (R i).cs.ad (R i).cs.n (R i).cs.cap, .int .i64 ((K + 1 + (R i).wo.n + (R i).wa.n + (R i).wi.n : Nat) : Int)] wx fun e w' => e = .returned (.int .i64 ((K + 1 + (R i).wo.n + (R i).wa.n + (R i).wi.n + (R i).cs.n * 3 : Nat) : Int)) ∧ MQ w' (4 * i + 4) ∧ Below B wx w' ∧ (∀ t cs, RowAt wx g t cs → RowAt w' g t cs) ∧ KT wx w') := by rw [hMQ]; exact N4
      have HW1 := hid hW1
      clear hMQ hQF N1 N2 N3 N4 HMI M1 II BB k1 k2 k3 k4 s0 s1 s2 s3 kle kge hK hW1 R0 g1
      generalize R i = S at c0 l1 l2 l3 l4 KE CE N1' N2' N3' N4'
      obtain ⟨ef, ⟨a1, n1, e1, t1⟩, ⟨a2, n2, e2, t2⟩, ⟨a3, n3, e3, t3⟩, ⟨a4, n4, e4, o4⟩⟩ := S
      dsimp only at c0 l1 l2 l3 l4 KE CE N1' N2' N3' N4'
      obtain ⟨K2, hK2⟩ : ∃ x, x = K + 1 + n1 := ⟨_, rfl⟩
      rw [← hK2] at N1' N2' N3' N4' KE
      obtain ⟨K3, hK3⟩ : ∃ x, x = K2 + n2 := ⟨_, rfl⟩
      rw [← hK3] at N2' N3' N4' KE
      obtain ⟨K4, hK4⟩ : ∃ x, x = K3 + n3 := ⟨_, rfl⟩
      rw [← hK4] at N3' N4' KE
      obtain ⟨K5, hK5⟩ : ∃ x, x = K4 + n4 * 3 := ⟨_, rfl⟩
      rw [← hK5] at N4' KE
      rw [show ((K + 1 : Nat) : Int) = (K : Int) + 1 by omega] at N1'
      have hb2 : K2 ≤ 500000000 := by omega
      have hb3 : K3 ≤ 500000000 := by omega
      have hb4 : K4 ≤ 500000000 := by omega
      have hb5 : K5 ≤ 500000000 := by omega
      clear hK2 hK3 hK4 hK5
      have KP : Hid (∀ (wx w' : World), FRow wx g 45 (c * 5) QF → (∀ t cs, RowAt wx g t cs → RowAt w' g t cs) → FRow w' g 45 (c * 5) QF) := fun wx w' hx hk => by
        obtain ⟨cs, h1, h2, h3⟩ := hx
        exact ⟨cs, hk _ _ h1, h2, h3⟩
      have bs1 : Hid (B ≤ W1.heap.size) := Nat.le_trans HBw.out B1.out.size
      go_upto_region 5 with fail
      rw [← HW1.out]
      clear HW1 c0 f0
      have x1 := (CE.out _ F1.out).1
      go_wp2_with fail
      refine (N1' W1 bs1.out M1'.out).out.mono ?_
      rintro e w2 ⟨rfl, hm2, hb2', hk2, ht2⟩
      have M2 := hid hm2
      have T2 := hid (T1.out.trans ht2)
      have F2 := hid (KP.out _ _ F1.out hk2)
      have B2 := hid (B1.out.trans hb2')
      have bs2 : Hid (B ≤ w2.heap.size) := Nat.le_trans HBw.out B2.out.size
      clear hm2 hb2' hk2 ht2 T1 x1 F1 B1 M1' N1'
      have x2 := (CE.out _ F2.out).2.1
      go_wp2_with fail
      refine (N2' w2 bs2.out M2.out).out.mono ?_
      rintro e w3 ⟨rfl, hm3, hb3', hk3, ht3⟩
      have M3 := hid hm3
      have T3 := hid (T2.out.trans ht3)
      have F3 := hid (KP.out _ _ F2.out hk3)
      have B3 := hid (B2.out.trans hb3')
      have bs3 : Hid (B ≤ w3.heap.size) := Nat.le_trans HBw.out B3.out.size
      clear hm3 hb3' hk3 ht3 T2 x2 F2 B2 M2 N2'
      have x3 := (CE.out _ F3.out).2.2.1
      go_wp2_with fail
      refine (N3' w3 bs3.out M3.out).out.mono ?_
      rintro e w4 ⟨rfl, hm4, hb4', hk4, ht4⟩
      have M4 := hid hm4
      have T4 := hid (T3.out.trans ht4)
      have F4 := hid (KP.out _ _ F3.out hk4)
      have B4 := hid (B3.out.trans hb4')
      have bs4 : Hid (B ≤ w4.heap.size) := Nat.le_trans HBw.out B4.out.size
      clear hm4 hb4' hk4 ht4 T3 x3 F3 B3 M3 N3'
      have x4 := (CE.out _ F4.out).2.2.2
      go_wp2_with fail
      refine (N4' w4 bs4.out M4.out).out.mono ?_
      rintro e w5 ⟨rfl, hm5, hb5', hk5, ht5⟩
      have M5 := hid (HMI'.out w5 (KP.out _ _ F4.out hk5) hm5)
      have B5 := hid (B4.out.trans hb5')
      have T5 := hid (T4.out.trans ht5)
      clear hm5 hb5' hk5 ht5 x4 F4 B4 M4 N4'
      go_wp2
      go_roundw
      case rel => exact ⟨i + 1, by omega, by go_num, by rw [KE.out], M5.out, B5.out, T5.out⟩
      case measure => simp [intOf]; omega
    · have hlt' : ¬ (i : Int) < (m : Int) := by omega
      have ei : i = m := by omega
      have HE := hid ei
      clear ei
      go_wp2
      go_ret
      exact ⟨by rw [← HE.out]; rfl, by rw [← HE.out] at II ⊢; exact II.out, BB.out, TT.out⟩
end Go.Proofs.YtmjolkagkeonfaaGreatDoorR
