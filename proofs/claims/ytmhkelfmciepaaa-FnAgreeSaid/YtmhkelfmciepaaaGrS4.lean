import Derived.Test.YtmhkelfmciepaaaS1
import Derived.Test.YtmhkelfmciepaaaInI
namespace Go.Proofs.Ytmhkelfmciepaaa
open Go.RowKit
set_option linter.unusedVariables false
/-! How the specification's members are kept beside a row of the call's own; the votes. -/
section
variable {w w' : World} {B b N : Nat} {s : Gst} {la : Nat → Option Addr} {lc mb : Nat → Nat}
theorem SpL.rows (h : SpL w B b N s la lc mb) (e : ∀ g t cs, RowAt w g t cs → g = b ∨ t = 46 ∨ (∃ k, k < N ∧ g = mb k) → RowAt w' g t cs) : SpL w' B b N s la lc mb := by
  refine ⟨h.hB, ?_, fun k hk => (h.log k hk).far fun g cs hg => e g _ cs hg (.inr (.inl rfl)), fun k hk => ⟨e _ _ _ (h.mat k hk).1 (.inr (.inr ⟨k, hk, rfl⟩)), (h.mat k hk).2⟩, h.ne⟩
  obtain ⟨cs, h1, h2, h3⟩ := h.row
  exact ⟨cs, e b _ cs h1 (.inl rfl), h2, h3⟩
theorem ownNums_row {H : Nat} {v : Value} {xs : List Int} (h : OwnNums w H 2 .i64 v xs) {g : Nat} (hg : v.ownBlock = some g) : (∃ cs, RowAt w g 2 cs) ∧ H ≤ g := by
  refine ⟨?_, (World.ownsRow.lt h g hg).1⟩
  rcases h.2 with ⟨rfl, _⟩ | ⟨g2, cap, cur, rfl, _, hh, _⟩
  · cases hg
  · obtain rfl : g2 = g := Option.some.inj hg
    exact ⟨cur, hh⟩
/-- a row of numbers of the call's own has grown -/
theorem SpL.own (h : SpL w B b N s la lc mb) {H : Nat} {v : Value} {xs : List Int} (hO : OwnNums w H 2 .i64 v xs) (hm : ∀ k, k < N → mb k < H) (hg : w.grownBy w' v.ownBlock) : SpL w' B b N s la lc mb := by
  refine h.rows fun g t cs hr ho => (hg.block g hr.lt fun e => ?_).trans hr
  obtain ⟨⟨ds, hd⟩, hH⟩ := ownNums_row hO e.symm
  rcases ho with rfl | rfl | ⟨k, hk, rfl⟩
  · obtain ⟨c2, h2, _⟩ := h.row
    exact row_apart h2 hd (by decide) rfl
  · exact row_apart hr hd (by decide) rfl
  · have := hm k hk
    omega
theorem below_own {W0 : World} {H : Nat} {v : Value} {xs : List Int} (hb : Below B W0 w) (hO : OwnNums w H 2 .i64 v xs) (hBH : B ≤ H) (hg : w.grownBy w' v.ownBlock) (hBw : B ≤ w.heap.size) : Below B W0 w' :=
  ⟨hg.os.trans hb.os, hg.tape.trans hb.tape, hg.output.trans hb.output, Nat.le_trans hb.size hg.size, fun k hk => (hg.block k (by omega) fun e => by have := (World.ownsRow.lt hO k e.symm).1; omega).trans (hb.block k hk)⟩
end
/-- rows of other kinds than the members', their numbers' and their logs' are as they were -/
structure Kp (w w' : World) : Prop where
  size : w.heap.size ≤ w'.heap.size
  row : ∀ g t cs, t ≠ 36 → t ≠ 2 → RowAt w g t cs → RowAt w' g t cs
section
variable {w W W' : World} {B b N : Nat} {s : Gst} {la : Nat → Option Addr} {lc mb : Nat → Nat}
theorem Kp.refl (w : World) : Kp w w := ⟨Nat.le_refl _, fun _ _ _ _ _ h => h⟩
theorem Kp.trans {w1 w2 w3 : World} (h : Kp w1 w2) (h' : Kp w2 w3) : Kp w1 w3 := ⟨Nat.le_trans h.size h'.size, fun g t cs a b r => h'.row g t cs a b (h.row g t cs a b r)⟩
theorem Kp.drew (h : Kp w W) : Kp w W.drew := ⟨h.size, h.row⟩
theorem Kp.below (h : Kp w W) (hb : Below W.heap.size W W') : Kp w W' := ⟨Nat.le_trans h.size hb.size, fun g t cs a b r => (h.row g t cs a b r).below hb (h.row g t cs a b r).lt⟩
theorem Kp.grown {r : Option Nat} (h : Kp w W) (hg : W.grownBy W' r) (hr : ∀ g, r = some g → w.heap.size ≤ g ∨ ∃ t cs, RowAt W g t cs ∧ (t = 36 ∨ t = 2)) : Kp w W' := by
  refine ⟨Nat.le_trans h.size hg.size, fun g t cs a b r => ?_⟩
  have q := h.row g t cs a b r
  refine (hg.block g q.lt fun e => ?_).trans q
  rcases hr g e.symm with h1 | ⟨t2, c2, h1, h2⟩
  · have := r.lt
    omega
  · rcases h2 with rfl | rfl
    · exact row_apart q h1 a rfl
    · exact row_apart q h1 b rfl
theorem Kp.set {a : Addr} {t : TypeId} {cs : Array Value} (h : Kp w W) (v : Value) (hr : RowAt W a.block t cs) (ht : t = 36 ∨ t = 2) : Kp w (W.setCell a v) := by
  refine ⟨by simp [World.setCell]; exact h.size, fun g t2 c2 a2 b2 r => ?_⟩
  have q := h.row g t2 c2 a2 b2 r
  refine q.other _ _ ?_
  rcases ht with rfl | rfl
  · exact row_apart q hr a2
  · exact row_apart q hr b2
theorem Kp.setRow (h : Kp w W) {X : Nat} (hX : w.heap.size ≤ X) (c : Array Value) : Kp w (W.setRow X c) :=
  ⟨by rw [setRow_size]; exact h.size, fun g t cs a b r => (h.row g t cs a b r).otherRow _ _ (by have := r.lt; omega)⟩
theorem SpL.keep (h : SpL W B b N s la lc mb) (V : Kp w W) (i : Nat) (v : Value) : Kp w (W.setCell ⟨b, i, none⟩ v) := by
  obtain ⟨cs, hr, _⟩ := h.row
  exact V.set v hr (.inl rfl)
theorem SpL.keepM (h : SpL W B b N s la lc mb) (V : Kp w W) {k : Nat} (hk : k < N) (i : Nat) (v : Value) : Kp w (W.setCell ⟨mb k, i, none⟩ v) := V.set v (h.mat k hk).1 (.inr rfl)
theorem SpL.keepG (h : SpL W B b N s la lc mb) (V : Kp w W) (hg : W.grownBy W' (some b)) : Kp w W' := by
  refine V.grown hg fun g e => ?_
  cases e
  obtain ⟨cs, hr, _⟩ := h.row
  exact .inr ⟨_, cs, hr, .inl rfl⟩
end
theorem gGath_in (k : Nat) (p : Int) (r : List Int) (A : Nat → Bool) (s : Gst) (v : Nat) (h : A p.toNat = true) : gGath k (p :: r) A s v = gGath k r A s v := by rw [gGath, if_pos h]
theorem gGath_out (k : Nat) (p : Int) (r : List Int) (A : Nat → Bool) (s : Gst) (v : Nat) (h : A p.toNat = false) : gGath k (p :: r) A s v = gGath k r (gAsked A p.toNat) (putM s p.toNat (gVote (s k) k (s p.toNat))) (v + (gWill (s k) k (gLate (s k) (s p.toNat))).toNat) := by
  rw [gGath, if_neg (by rw [h]; exact Bool.noConfusion)]
theorem drop_at {pe : List Int} {i : Nat} (h : i < pe.length) : pe.drop i = pe.getD i 0 :: pe.drop (i + 1) := by
  rw [List.drop_eq_getElem_cons h, List.getD_eq_getElem?_getD, List.getElem?_eq_getElem h]
  rfl
theorem gIn_at {pe : List Int} {N : Nat} (h : pe.all (gIn N) = true) {i : Nat} (hi : i < pe.length) : 0 ≤ pe.getD i 0 ∧ pe.getD i 0 < N := by
  have := List.all_eq_true.1 h (pe.getD i 0) (by rw [List.getD_eq_getElem?_getD, List.getElem?_eq_getElem hi]; exact List.getElem_mem hi)
  unfold gIn at this
  simpa using this
theorem gIn_not {pe : List Int} {N : Nat} {i : Nat} (hi : i < pe.length) (h : ¬ (0 ≤ pe.getD i 0 ∧ pe.getD i 0 < N)) : pe.all (gIn N) = false := by
  cases e : pe.all (gIn N) with
  | false => rfl
  | true => exact absurd (gIn_at e hi) h
theorem gIn_all {pe : List Int} {N : Nat} (h : ∀ i, i < pe.length → 0 ≤ pe.getD i 0 ∧ pe.getD i 0 < N) : pe.all (gIn N) = true := by
  rw [List.all_eq_true]
  intro x hx
  obtain ⟨i, hi, rfl⟩ := List.getElem_of_mem hx
  have := h i hi
  rw [List.getD_eq_getElem?_getD, List.getElem?_eq_getElem hi] at this
  unfold gIn
  simpa using this
end Go.Proofs.Ytmhkelfmciepaaa
