import Derived.Test.YtmjolkagkeonfaaGreatDoorG16
namespace Go.Proofs.YtmjolkagkeonfaaGreatDoor
open Go.RowKit
set_option linter.unusedVariables false
/-! A drawn statement that is changed in one place. -/
/-- what stands wherever only blocks of F were written and new ones were made -/
def Rob (w : World) (F : Nat → Prop) (P : World → Prop) : Prop := ∀ w' : World, w.heap.size ≤ w'.heap.size → (∀ b, b < w.heap.size → ¬ F b → w'.heap[b]? = w.heap[b]?) → P w'
theorem Rob.here {w : World} {F : Nat → Prop} {P : World → Prop} (h : Rob w F P) : P w := h w (Nat.le_refl _) fun _ _ _ => rfl
theorem Rob.grow {w w' : World} {F : Nat → Prop} {P : World → Prop} {o : Option Nat} (h : Rob w F P) (hg : w.grownBy w' o) (ho : ∀ g, o = some g → F g) : Rob w' F P := fun w2 hs hb =>
  h w2 (Nat.le_trans hg.size hs) fun b hb1 hF => (hb b (Nat.lt_of_lt_of_le hb1 hg.size) hF).trans (hg.block b hb1 fun e => hF (ho b e.symm))
theorem Rob.mono {w : World} {F : Nat → Prop} {P P' : World → Prop} (h : Rob w F P) (hp : ∀ x, P x → P' x) : Rob w F P' := fun w2 hs hb => hp _ (h w2 hs hb)
/-- statements that stand whatever is written below B -/
def StDR (w : World) (B : Nat) (v : Value) : Prop := Rob w (fun b => b < B) (fun x => StD x v)
/-- blocks that may be written: those below B (the source's), the statements', a list's own -/
def FB (B gS : Nat) (o : Option Nat) (b : Nat) : Prop := b < B ∨ b = gS ∨ some b = o
theorem Rob.lies {w w' : World} {c gS g : Nat} {P : World → Prop} {o : Option Nat} (h : Rob w (FB c gS o) P) (hg : w.grownBy w' o) (hl : o = some g ∨ w.heap.size ≤ g) : Rob w' (FB c gS (some g)) P := fun w2 hs hb =>
  h w2 (Nat.le_trans hg.size hs) fun b hb1 hF => (hb b (Nat.lt_of_lt_of_le hb1 hg.size) fun e => by
    rcases e with e | e | e
    · exact hF (.inl e)
    · exact hF (.inr (.inl e))
    · rcases hl with hl | hl
      · exact hF (.inr (.inr (e.trans hl.symm)))
      · have := Option.some.inj e
        omega).trans (hg.block b hb1 fun e => hF (.inr (.inr e)))
/-- the statements R, n of them in a row at gS; the source; what stands of the others; e: number k, in parts -/
structure SX (W0 w0 W : World) (c gS cc n k : Nat) (f : Nat → Value) (R : Nat → St) (e : St) (o : Option Nat) : Prop where
  gr : w0.grownBy W (some c)
  row : FRow W gS 73 (cc * 5) f
  eq : ∀ p, p < n * 5 → f p = stF R p
  rob : Rob W (FB w0.heap.size gS o) (fun x => (∀ i, i < n → i ≠ k → StIn x (R i)) ∧ StIn x e)
  b0 : w0.heap.size ≤ gS
  b1 : c < w0.heap.size
  b2 : W0.heap.size ≤ w0.heap.size
  nc : n ≤ cc
theorem SX.grow {W0 w0 W W' : World} {c gS cc n k : Nat} {f : Nat → Value} {R : Nat → St} {e : St} {o : Option Nat} (h : SX W0 w0 W c gS cc n k f R e o) (hg : W.grownBy W' (some c)) : SX W0 w0 W' c gS cc n k f R e o :=
  ⟨grown_trans h.gr hg, h.row.far hg (fun e => by have := Option.some.inj e; have := h.b0; have := h.b1; omega), h.eq, h.rob.grow hg fun g e => .inl (by have := Option.some.inj e; have := h.b1; omega), h.b0, h.b1, h.b2, h.nc⟩
theorem SX.alloc {W0 w0 W : World} {c gS cc n k : Nat} {f : Nat → Value} {R : Nat → St} {e : St} {o : Option Nat} (h : SX W0 w0 W c gS cc n k f R e o) (ob : Obj) : SX W0 w0 (W.alloc ob) c gS cc n k f R e o := h.grow (World.grownBy_alloc _ _ _)
theorem SX.drew {W0 w0 W : World} {c gS cc n k : Nat} {f : Nat → Value} {R : Nat → St} {e : St} {o : Option Nat} (h : SX W0 w0 W c gS cc n k f R e o) : SX W0 w0 W.drew c gS cc n k f R e o := h.grow (grown_drewS _ _)
theorem SX.lies {W0 w0 W W' : World} {c gS cc n k g : Nat} {f : Nat → Value} {R : Nat → St} {e : St} {o : Option Nat} (h : SX W0 w0 W c gS cc n k f R e o) (hg : W.grownBy W' o) (hl : o = some g ∨ W.heap.size ≤ g) (ho : ∀ b, o = some b → w0.heap.size ≤ b ∧ b ≠ gS) : SX W0 w0 W' c gS cc n k f R e (some g) :=
  ⟨grown_own h.gr hg (fun b hb => (ho b hb).1) (Nat.le_refl _), h.row.far hg (fun e => (ho gS e.symm).2 rfl), h.eq, h.rob.lies hg hl, h.b0, h.b1, h.b2, h.nc⟩
theorem SX.cell {W0 w0 W : World} {c gS cc n k : Nat} {f : Nat → Value} {R : Nat → St} {e : St} {o : Option Nat} (h : SX W0 w0 W c gS cc n k f R e o) {p : Nat} (hp : p < n * 5) : W.cell? ⟨gS, p, none⟩ = some (stF R p) := by
  rw [h.row.cell (by have := h.nc; omega), h.eq p hp]
theorem SX.at_ {W0 w0 W : World} {c gS cc n k : Nat} {f : Nat → Value} {R : Nat → St} {e : St} {o : Option Nat} (h : SX W0 w0 W c gS cc n k f R e o) (p : Nat) (hp : p < n * 5) : W.cell? ⟨gS, p, none⟩ = some (stF R p) := h.cell hp
theorem FRow.at_ {w : World} {b : Nat} {t : TypeId} {n : Nat} {f : Nat → Value} (h : FRow w b t n f) (p : Nat) (hp : p < n) : w.cell? ⟨b, p, none⟩ = some (f p) := h.cell hp
/-- a cell is written: the row is that of R' -/
theorem SX.set {W0 w0 W : World} {c gS cc n k : Nat} {f : Nat → Value} {R R' : Nat → St} {e : St} {o : Option Nat} (h : SX W0 w0 W c gS cc n k f R e o) (p : Nat) (v : Value) (hv : stF R' p = v) (hq : ∀ q, q < n * 5 → q ≠ p → stF R' q = stF R q) (hR : ∀ i, i < n → i ≠ k → R' i = R i) : SX W0 w0 (W.setCell ⟨gS, p, none⟩ v) c gS cc n k (putF f p v) R' e o :=
  ⟨grown_far h.gr h.b0 _ _, h.row.set p v, fun q hq2 => by
      unfold putF
      by_cases e : q = p
      · rw [if_pos e, e, hv]
      · rw [if_neg e, hq q hq2 e]; exact h.eq q hq2, (h.rob.grow (grown_setCellF W gS p v) fun g e => .inr (.inl (Option.some.inj e).symm)).mono fun x hx => ⟨fun i hi hk => by rw [hR i hi hk]; exact hx.1 i hi hk, hx.2⟩, h.b0, h.b1, h.b2, h.nc⟩
/-- R with number k another one -/
def stU (R : Nat → St) (k : Nat) (s : St) (i : Nat) : St := if i = k then s else R i
theorem stU_k (R : Nat → St) (k : Nat) (s : St) : stU R k s k = s := if_pos rfl
theorem stU_o (R : Nat → St) (k : Nat) (s : St) {i : Nat} (h : i ≠ k) : stU R k s i = R i := if_neg h
/-- cells of the others -/
theorem stF_o {R R' : Nat → St} {q : Nat} (h : R' (q / 5) = R (q / 5)) : stF R' q = stF R q := by unfold stF; rw [h]
theorem stF_q (R R' : Nat → St) (k j : Nat) (hj : j < 5) (h : ∀ i, i ≠ k → R' i = R i)
    (h0 : j ≠ 0 → (R' k).ef = (R k).ef) (h1 : j ≠ 1 → (R' k).wo = (R k).wo) (h2 : j ≠ 2 → (R' k).wa = (R k).wa) (h3 : j ≠ 3 → (R' k).wi = (R k).wi) (h4 : j ≠ 4 → (R' k).cs = (R k).cs) (q : Nat) (hq : q ≠ k * 5 + j) : stF R' q = stF R q := by
  by_cases e : q / 5 = k
  · subst e
    rcases (by omega : q = q / 5 * 5 ∨ q = q / 5 * 5 + 1 ∨ q = q / 5 * 5 + 2 ∨ q = q / 5 * 5 + 3 ∨ q = q / 5 * 5 + 4) with e | e | e | e | e
    · rw [e, stF0, stF0, h0 (by omega)]
    · rw [e, stF1, stF1, h1 (by omega)]
    · rw [e, stF2, stF2, h2 (by omega)]
    · rw [e, stF3, stF3, h3 (by omega)]
    · rw [e, stF4, stF4, h4 (by omega)]
  · exact stF_o (h _ e)
/-- the end: number k whole -/
theorem SX.std {W0 w0 W : World} {c gS cc n k : Nat} {f : Nat → Value} {R : Nat → St} {e : St} {o : Option Nat} (h : SX W0 w0 W c gS cc n k f R e o) (hk : ∀ x : World, (∀ b, b < W.heap.size → w0.heap.size ≤ b → x.heap[b]? = W.heap[b]?) → StIn x e → StIn x (R k)) (ho : ∀ b, o = some b → w0.heap.size ≤ b) (hB : ∀ i, i < n → StB (R i) 1048576) (hn : n ≤ 50) : StDR W w0.heap.size (.slice (some ⟨gS, 0, none⟩) n cc) := by
  intro x hs hb
  have kp : ∀ b, b < W.heap.size → w0.heap.size ≤ b → x.heap[b]? = W.heap[b]? := fun b h1 h2 => hb b h1 (by omega)
  have hR := h.rob x hs fun b h1 h2 => kp b h1 (by unfold FB at h2; omega)
  have hF : FRow x gS 73 (cc * 5) f := by
    obtain ⟨cs, h1, h2, h3⟩ := h.row
    exact ⟨cs, (kp gS h1.lt h.b0).trans h1, h2, h3⟩
  have hc : ∀ p, p < n * 5 → x.cell? ⟨gS, p, none⟩ = some (stF R p) := fun p hp => by rw [hF.cell (by have := h.nc; omega), h.eq p hp]
  refine ⟨_, n, cc, R, rfl, ⟨h.nc, .inr ⟨gS, 0, rfl, hF.lt, fun i hi => ?_⟩, fun i hi => ?_⟩, hB, hn, fun e => by cases e⟩
  · have q0 := hc (i * 5) (by omega)
    have q1 := hc (i * 5 + 1) (by omega)
    have q2 := hc (i * 5 + 2) (by omega)
    have q3 := hc (i * 5 + 3) (by omega)
    have q4 := hc (i * 5 + 4) (by omega)
    rw [stF0] at q0
    rw [stF1] at q1
    rw [stF2] at q2
    rw [stF3] at q3
    rw [stF4] at q4
    rw [Nat.zero_add]
    exact ⟨q0, q1, q2, q3, q4⟩
  · by_cases e : i = k
    · rw [e]; exact hk x kp hR.2
    · exact hR.1 i hi e
theorem OwnStrs.kp {W x : World} {B : Nat} {a : Option Addr} {n c : Nat} {xs : List ByteArray} (h : OwnStrs W B (.slice a n c) xs) (kp : ∀ b, b < W.heap.size → B ≤ b → x.heap[b]? = W.heap[b]?) : Strs x a n c (atB xs) := (h.keep fun g cs e hr => (kp g hr.lt (h.row e).1).trans hr).strsA.2
theorem OwnCn.kp {W x : World} {B : Nat} {a : Option Addr} {n c : Nat} {xs : List Cn} (h : OwnCn W B (.slice a n c) xs) (kp : ∀ b, b < W.heap.size → B ≤ b → x.heap[b]? = W.heap[b]?) : Cns x a n c (atC xs) := (h.keep fun g cs e hr => (kp g hr.lt (h.row e).1).trans hr).cns.2
theorem PolR.stdR {w : World} {B B' : Nat} {v : Value} {L : List PS} {Rs : List St} {X : Nat → Nat} (h : PolR w B v L Rs X) (hl : L.length ≤ 50) (hb : ∀ i, i < L.length → psB (psA L i)) (hB : B' ≤ B) : StDR w B' v := by
  intro x hs hk
  have kp : ∀ g t cs, B ≤ g → RowAt w g t cs → RowAt x g t cs := fun g t cs h1 hr => (hk g hr.lt (by omega)).trans hr
  have hx : PolR x B v L Rs X := ⟨h.own.keep fun g cs e hr => kp g _ cs (h.own.row e).1 hr, h.len, h.lo, Nat.le_trans h.hi hs, fun i hi => (h.at_ i hi).keep fun g t cs h1 _ _ hr => kp g t cs (by have := h.mono 0 i (by omega) (by omega); have := h.lo; omega) hr⟩
  exact hx.std hl hb
/-! Out of what was read. -/
def ss0 : SS := ⟨none, 0, 0, atB []⟩
def cs0 : CS := ⟨none, 0, 0, atC []⟩
theorem strs0 (w : World) (ts : Nat → ByteArray) : Strs w none 0 0 ts := ⟨Nat.le_refl _, .inl rfl⟩
theorem cns0 (w : World) (ts : Nat → Cn) : Cns w none 0 0 ts := ⟨Nat.le_refl _, .inl rfl⟩
/-- which part of a statement is changed -/
def stE (s : St) : Nat → St
  | 1 => { s with wo := ss0 }
  | 2 => { s with wa := ss0 }
  | 3 => { s with wi := ss0 }
  | 4 => { s with cs := cs0 }
  | _ => s
def stO (s : St) : Nat → Option Nat
  | 1 => (Value.slice s.wo.ad s.wo.n s.wo.cap).ownBlock
  | 2 => (Value.slice s.wa.ad s.wa.n s.wa.cap).ownBlock
  | 3 => (Value.slice s.wi.ad s.wi.n s.wi.cap).ownBlock
  | 4 => (Value.slice s.cs.ad s.cs.n s.cs.cap).ownBlock
  | _ => none
theorem PsAt.own_in {w : World} {lo hi : Nat} {s : St} {p : PS} (h : PsAt w lo hi s p) (j g : Nat) (hg : stO s j = some g) : lo ≤ g ∧ g < hi ∧ ∃ cs t, (t = 9 ∨ t = 83) ∧ RowAt w g t cs := by
  obtain ⟨x1, x2, x3, l1, l2, l3, l4, ⟨a1, b1⟩, ⟨a2, b2⟩, ⟨a3, b3⟩, ⟨a4, b4⟩⟩ := h.mem
  match j, hg with
  | 1, hg => exact ⟨(a1.row hg).1, by have := b1 g hg; omega, let ⟨cs, hr⟩ := (a1.row hg).2.2; ⟨cs, _, .inl rfl, hr⟩⟩
  | 2, hg => exact ⟨by have := (a2.row hg).1; omega, by have := b2 g hg; omega, let ⟨cs, hr⟩ := (a2.row hg).2.2; ⟨cs, _, .inl rfl, hr⟩⟩
  | 3, hg => exact ⟨by have := (a3.row hg).1; omega, by have := b3 g hg; omega, let ⟨cs, hr⟩ := (a3.row hg).2.2; ⟨cs, _, .inl rfl, hr⟩⟩
  | 4, hg => exact ⟨by have := (a4.row hg).1; omega, by have := b4 g hg; omega, let ⟨cs, hr⟩ := (a4.row hg).2.2; ⟨cs, _, .inr rfl, hr⟩⟩
  | 0, hg => cases hg
  | _ + 5, hg => cases hg
theorem PsAt.parts {w w' : World} {lo hi : Nat} {s : St} {p : PS} (h : PsAt w lo hi s p) (j : Nat) (kp : ∀ g t cs, lo ≤ g → g < hi → (t = 9 ∨ t = 83) → RowAt w g t cs → some g ≠ stO s j → RowAt w' g t cs) : StIn w' (stE s j) := by
  obtain ⟨x1, x2, x3, l1, l2, l3, l4, ⟨a1, b1⟩, ⟨a2, b2⟩, ⟨a3, b3⟩, ⟨a4, b4⟩⟩ := h.mem
  have k1 : (∀ g, (Value.slice s.wo.ad s.wo.n s.wo.cap).ownBlock = some g → some g ≠ stO s j) → Strs w' s.wo.ad s.wo.n s.wo.cap s.wo.ts := fun hn => by
    rw [h.t1]; exact (a1.keep fun g cs hg hr => kp g _ cs (a1.row hg).1 (by have := b1 g hg; omega) (.inl rfl) hr (hn g hg)).strsA.2
  have k2 : (∀ g, (Value.slice s.wa.ad s.wa.n s.wa.cap).ownBlock = some g → some g ≠ stO s j) → Strs w' s.wa.ad s.wa.n s.wa.cap s.wa.ts := fun hn => by
    rw [h.t2]; exact (a2.keep fun g cs hg hr => kp g _ cs (by have := (a2.row hg).1; omega) (by have := b2 g hg; omega) (.inl rfl) hr (hn g hg)).strsA.2
  have k3 : (∀ g, (Value.slice s.wi.ad s.wi.n s.wi.cap).ownBlock = some g → some g ≠ stO s j) → Strs w' s.wi.ad s.wi.n s.wi.cap s.wi.ts := fun hn => by
    rw [h.t3]; exact (a3.keep fun g cs hg hr => kp g _ cs (by have := (a3.row hg).1; omega) (by have := b3 g hg; omega) (.inl rfl) hr (hn g hg)).strsA.2
  have k4 : (∀ g, (Value.slice s.cs.ad s.cs.n s.cs.cap).ownBlock = some g → some g ≠ stO s j) → Cns w' s.cs.ad s.cs.n s.cs.cap s.cs.o := fun hn => by
    rw [h.o4]; exact (a4.keep fun g cs hg hr => kp g _ cs (by have := (a4.row hg).1; omega) (by have := b4 g hg; omega) (.inr rfl) hr (hn g hg)).cns.2
  match j with
  | 1 => exact ⟨strs0 _ _, k2 fun g hg e => by have := b1 g e.symm; have := (a2.row hg).1; omega, k3 fun g hg e => by have := b1 g e.symm; have := (a3.row hg).1; omega, k4 fun g hg e => by have := b1 g e.symm; have := (a4.row hg).1; omega⟩
  | 2 => exact ⟨k1 fun g hg e => by have := b1 g hg; have := (a2.row e.symm).1; omega, strs0 _ _, k3 fun g hg e => by have := b2 g e.symm; have := (a3.row hg).1; omega, k4 fun g hg e => by have := b2 g e.symm; have := (a4.row hg).1; omega⟩
  | 3 => exact ⟨k1 fun g hg e => by have := b1 g hg; have := (a3.row e.symm).1; omega, k2 fun g hg e => by have := b2 g hg; have := (a3.row e.symm).1; omega, strs0 _ _, k4 fun g hg e => by have := b3 g e.symm; have := (a4.row hg).1; omega⟩
  | 4 => exact ⟨k1 fun g hg e => by have := b1 g hg; have := (a4.row e.symm).1; omega, k2 fun g hg e => by have := b2 g hg; have := (a4.row e.symm).1; omega, k3 fun g hg e => by have := b3 g hg; have := (a4.row e.symm).1; omega, cns0 _ _⟩
  | 0 => exact ⟨k1 fun g hg e => (by cases e), k2 fun g hg e => (by cases e), k3 fun g hg e => (by cases e), k4 fun g hg e => (by cases e)⟩
  | _ + 5 => exact ⟨k1 fun g hg e => (by cases e), k2 fun g hg e => (by cases e), k3 fun g hg e => (by cases e), k4 fun g hg e => (by cases e)⟩
theorem PolR.sx {W0 w0 w : World} {B c : Nat} {v : Value} {L : List PS} {Rs : List St} {X : Nat → Nat} (h : PolR w B v L Rs X) (hL : L.length ≠ 0) (hg : w0.grownBy w (some c)) (hB : w0.heap.size ≤ B) (hc : c < w0.heap.size) (h0 : W0.heap.size ≤ w0.heap.size) :
    ∃ gS cc f, v = .slice (some ⟨gS, 0, none⟩) L.length cc ∧ ∀ k j, k < L.length → SX W0 w0 w c gS cc L.length k f (stA Rs) (stE (stA Rs k) j) (stO (stA Rs k) j) ∧ ∀ b, stO (stA Rs k) j = some b → w0.heap.size ≤ b ∧ b ≠ gS := by
  have hn := h.len
  obtain ⟨a1, cc, rfl⟩ := h.own.slice
  obtain ⟨gS, f, rfl, hb, hnc, hF, hf⟩ := h.own.frow (by rw [hn]; exact hL)
  have fr := hF.row
  have mo := h.mono
  have lo := h.lo
  refine ⟨gS, cc, f, by rw [hn], fun k j hk => ?_⟩
  have hp := h.at_ k hk
  have ow : ∀ b, stO (stA Rs k) j = some b → X k ≤ b ∧ b < X (k + 1) ∧ b ≠ gS := fun b hb => by
    obtain ⟨q1, q2, cs, t, ht, hr⟩ := hp.own_in j b hb
    exact ⟨q1, q2, rowApart hr fr (by rcases ht with rfl | rfl <;> decide)⟩
  refine ⟨⟨hg, hF, by rw [← hn]; exact hf, fun w' hs hk2 => ?_, by omega, hc, h0, by omega⟩, fun b hb2 => ⟨by have := (ow b hb2).1; have := mo 0 k (by omega) (by omega); omega, (ow b hb2).2.2⟩⟩
  have kp : ∀ i, i < L.length → ∀ g t cs, X i ≤ g → g < X (i + 1) → (t = 9 ∨ t = 83) → RowAt w g t cs → some g ≠ stO (stA Rs k) j → RowAt w' g t cs := fun i hi g t cs h1 h2 ht hr hne => by
    refine (hk2 g hr.lt fun e => ?_).trans hr
    rcases e with e | e | e
    · have := mo 0 i (by omega) (by omega)
      omega
    · exact rowApart hr fr (by rcases ht with rfl | rfl <;> decide) e
    · exact hne e
  refine ⟨fun i hi hik => ?_, hp.parts j fun g t cs h1 h2 ht hr hne => kp k hk g t cs h1 h2 ht hr hne⟩
  exact ((h.at_ i hi).keep fun g t cs h1 h2 ht hr => kp i hi g t cs h1 h2 ht hr fun e => by
    obtain ⟨q1, q2, _⟩ := ow g e.symm
    rcases Nat.lt_or_gt_of_ne hik with q | q
    · have := mo (i + 1) k (by omega) (by omega); omega
    · have := mo (k + 1) i (by omega) (by omega); omega).in
theorem PolR.keepC {w w' : World} {B c : Nat} {v : Value} {L : List PS} {Rs : List St} {X : Nat → Nat} (h : PolR w B v L Rs X) (hg : w.grownBy w' (some c)) (hc : c < B) : PolR w' B v L Rs X :=
  ⟨h.own.keep fun g cs e hr => (hg.block g hr.lt (fun q => by have := (h.own.row e).1; have := Option.some.inj q; omega)).trans hr, h.len, h.lo, Nat.le_trans h.hi hg.size, fun i hi => (h.at_ i hi).keep fun g t cs h1 _ _ hr => (hg.block g hr.lt (fun q => by have := h.mono 0 i (by omega) (by omega); have := h.lo; have := Option.some.inj q; omega)).trans hr⟩
theorem step_append_strE (base : Nat) (w : World) {ops : Array Oper} {op : Oper} {a : Act} {K : Act → World → Prop} {Q : Exit → Act → World → Prop} {E : Prop} (hgd : op.guard = none) (s x : Operand)
    (ho : op.op = .call { callee := .builtin .append, args := #[s, x], argTypes := #[70, 70] })
    (v : Value) (xs : List ByteArray) (y : ByteArray) (hs : a.eval s = v) (hown : OwnStrs w base v xs) (hsz : base ≤ w.heap.size)
    (b : Nat) (R : RowAt w b 9 #[.string y]) (hx : a.eval x = .slice (some ⟨b, 0, none⟩) 1 1) (hlen : xs.length + 1 ≤ 1048576)
    (h : ∀ g cap w', OwnStrs w' base (.slice (some ⟨g, 0, none⟩) (xs.length + 1) cap) (xs ++ [y]) → w.grownBy w' v.ownBlock → (v.ownBlock = some g ∨ g = w.heap.size) → K (a.put op.dst (.slice (some ⟨g, 0, none⟩) (xs.length + 1) cap)) w') :
    if Region.wanted op (yielded ops a.tmps) = true then Oper.wp Tryz.prog op a w K Q else E := by
  obtain ⟨i0, hi, hz0, hz1, hz2⟩ := info_parts Tryz.infoS'
  refine step_append_lies _ hgd s x _ ho base 9 i0 _ 1 16 Tryz.underlying70 hi hz0 hz1 hz2 rfl (by decide) v xs.length (xs.map Value.string) hs hown ⟨b, 0, none⟩ 1 1 [.string y] hx rfl ?_ ?_ (by decide) ?_ ?_ hsz w.heap.size rfl ?_
  · intro j u hj
    have hadd : (⟨b, 0, none⟩ : Addr).add j = ⟨b, j, none⟩ := by unfold Addr.add; split <;> simp_all
    rw [hadd, R.cell]
    match j, hj with
    | 0, hj => exact hj
  · intro u hu; simp at hu; subst hu; rfl
  · unfold maxLen; omega
  · omega
  · intro g cap w' h1 h2 h3 _
    exact h g cap w' (by simpa [OwnStrs] using h1) h2 h3
theorem step_append_cnE (base : Nat) (w : World) {ops : Array Oper} {op : Oper} {a : Act} {K : Act → World → Prop} {Q : Exit → Act → World → Prop} {E : Prop} (hgd : op.guard = none) (s x : Operand)
    (ho : op.op = .call { callee := .builtin .append, args := #[s, x], argTypes := #[71, 71] })
    (v : Value) (xs : List Cn) (y : Cn) (hs : a.eval s = v) (hown : OwnCn w base v xs) (hsz : base ≤ w.heap.size)
    (b : Nat) (R : RowAt w b 83 #[.int .i64 y.kd, .string y.tx, .int .i64 y.tm]) (hx : a.eval x = .slice (some ⟨b, 0, none⟩) 1 1) (hlen : xs.length + 1 ≤ 1048576)
    (h : ∀ g cap w', OwnCn w' base (.slice (some ⟨g, 0, none⟩) (xs.length + 1) cap) (xs ++ [y]) → w.grownBy w' v.ownBlock → (v.ownBlock = some g ∨ g = w.heap.size) → K (a.put op.dst (.slice (some ⟨g, 0, none⟩) (xs.length + 1) cap)) w') :
    if Region.wanted op (yielded ops a.tmps) = true then Oper.wp Tryz.prog op a w K Q else E := by
  obtain ⟨i0, hi, hz0, hz1, hz2⟩ := info_parts Tryz.infoCn2
  refine step_append_lies _ hgd s x _ ho base 83 i0 _ 3 32 Tryz.underlying71 hi hz0 hz1 hz2 rfl (by decide) v xs.length (cnL xs) hs hown ⟨b, 0, none⟩ 1 1 (cnL [y]) hx rfl ?_ ?_ (by decide) ?_ ?_ hsz w.heap.size rfl ?_
  · intro j u hj
    have hadd : (⟨b, 0, none⟩ : Addr).add j = ⟨b, j, none⟩ := by unfold Addr.add; split <;> simp_all
    rw [hadd, R.cell]
    match j, hj with
    | 0, hj => exact hj
    | 1, hj => exact hj
    | 2, hj => exact hj
  · intro u hu; simp [cnL] at hu; rcases hu with rfl | rfl | rfl <;> rfl
  · unfold maxLen; omega
  · omega
  · intro g cap w' h1 h2 h3 _
    exact h g cap w' (by unfold OwnCn; rw [cnL_app, List.length_append]; exact h1) h2 h3
theorem OwnStrs.keptC {w w' : World} {B c : Nat} {v : Value} {L : List ByteArray} (h : OwnStrs w B v L) (hg : w.grownBy w' (some c)) (hc : c < B) : OwnStrs w' B v L := h.keep fun g cs e hr => (hg.block g hr.lt (fun q => by have := (h.row e).1; have := Option.some.inj q; omega)).trans hr
theorem OwnCn.keptC {w w' : World} {B c : Nat} {v : Value} {L : List Cn} (h : OwnCn w B v L) (hg : w.grownBy w' (some c)) (hc : c < B) : OwnCn w' B v L := h.keep fun g cs e hr => (hg.block g hr.lt (fun q => by have := (h.row e).1; have := Option.some.inj q; omega)).trans hr
theorem OwnStrs.setC {w : World} {B b k : Nat} {v u : Value} {L : List ByteArray} (h : OwnStrs w B v L) (hn : ∀ g, v.ownBlock = some g → g ≠ b) : OwnStrs (w.setCell ⟨b, k, none⟩ u) B v L := h.keep fun g cs e hr => ((grown_setCellF w b k u).block g hr.lt (fun q => hn g e (Option.some.inj q))).trans hr
theorem OwnCn.setC {w : World} {B b k : Nat} {v u : Value} {L : List Cn} (h : OwnCn w B v L) (hn : ∀ g, v.ownBlock = some g → g ≠ b) : OwnCn (w.setCell ⟨b, k, none⟩ u) B v L := h.keep fun g cs e hr => ((grown_setCellF w b k u).block g hr.lt (fun q => hn g e (Option.some.inj q))).trans hr
theorem OwnStrs.baseLe {w : World} {B B' : Nat} {v : Value} {L : List ByteArray} (h : OwnStrs w B v L) (hb : B' ≤ B) : OwnStrs w B' v L := by
  refine ⟨h.1, ?_⟩
  rcases h.2 with h0 | ⟨g, cap, cur, he, hb2, r⟩
  · exact .inl h0
  · exact .inr ⟨g, cap, cur, he, by omega, r⟩
theorem OwnCn.baseLe {w : World} {B B' : Nat} {v : Value} {L : List Cn} (h : OwnCn w B v L) (hb : B' ≤ B) : OwnCn w B' v L := by
  refine ⟨h.1, ?_⟩
  rcases h.2 with h0 | ⟨g, cap, cur, he, hb2, r⟩
  · exact .inl h0
  · exact .inr ⟨g, cap, cur, he, by omega, r⟩
end Go.Proofs.YtmjolkagkeonfaaGreatDoor
