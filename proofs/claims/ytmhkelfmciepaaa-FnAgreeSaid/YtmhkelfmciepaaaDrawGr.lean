import Derived.Test.YtmhkelfmciepaaaDrawGr6
import Derived.Deep.CutBlock
namespace Go.Proofs.Ytmhkelfmciepaaa
open Go.RowKit
set_option linter.unusedVariables false
/-! An operation of a group under way in (*l01Src).groupOps. -/
structure GrIt (W0 W1 : World) (c : Nat) (a : Option Addr) (len cap XB : Nat) (w : World) (p : Nat) (kd mbv dt : Int) (aP : Option Addr) (cP : Nat) (xs : List Int) (tx : ByteArray) : Prop where
  src : Src W0 w c a len cap p
  gr : W1.grownBy w (some c)
  box : RowAt w XB 42 #[.int .i64 kd, .int .i64 mbv, .int .i64 dt, .slice aP xs.length cP, .string tx]
  own : OwnNums w W1.heap.size 2 .i64 (.slice aP xs.length cP) xs
theorem OwnNums.nilV (w : World) (base : Nat) (e : TypeId) (k : IntKind) : OwnNums w base e k (.slice none 0 0) [] := ⟨rfl, .inl ⟨rfl, rfl⟩⟩
theorem OwnNums.neG {w : World} {B : Nat} {v : Value} {xs : List Int} {X : Nat} {cs : Array Value} (h : OwnNums w B 2 .i64 v xs) (hr : RowAt w X 42 cs) : some X ≠ v.ownBlock := fun e => by
  rcases h.2 with ⟨h0, _⟩ | ⟨g, cap, cur, h0, _, hg, _⟩
  · rw [h0] at e; cases e
  · rw [h0] at e
    have eb : X = g := Option.some.inj e
    subst eb
    exact rowNeG hr (show RowAt w X 2 cur from hg) (by decide) rfl
section
variable {W0 W1 w w2 : World} {c : Nat} {a : Option Addr} {len cap XB p p2 : Nat} {kd mbv dt : Int} {aP : Option Addr} {cP : Nat} {xs : List Int} {tx : ByteArray}
theorem GrIt.call (h : GrIt W0 W1 c a len cap XB w p kd mbv dt aP cP xs tx) (hc : c < W1.heap.size) (hX : W1.heap.size ≤ XB) (hs : Src W0 w2 c a len cap p2) (hg : w.grownBy w2 (some c)) : GrIt W0 W1 c a len cap XB w2 p2 kd mbv dt aP cP xs tx :=
  ⟨hs, grown_trans h.gr hg, rowF h.box hg (by omega), World.ownsRow.kept h.own hg (by
    cases hv : (Value.slice aP xs.length cP).ownBlock with
    | none => exact .inl rfl
    | some g => exact .inr (fun e => by have := (World.ownsRow.lt h.own g hv).1; have := Option.some.inj e; omega))⟩
theorem GrIt.set (h : GrIt W0 W1 c a len cap XB w p kd mbv dt aP cP xs tx) (hc : c < W1.heap.size) (hX : W1.heap.size ≤ XB) {k : Nat} {v : Value} {kd' mbv' dt' : Int} {tx' : ByteArray} (he : (#[.int .i64 kd, .int .i64 mbv, .int .i64 dt, .slice aP xs.length cP, .string tx] : Array Value).setIfInBounds k v = #[.int .i64 kd', .int .i64 mbv', .int .i64 dt', .slice aP xs.length cP, .string tx']) : GrIt W0 W1 c a len cap XB (w.setCell ⟨XB, k, none⟩ v) p kd' mbv' dt' aP cP xs tx' := by
  refine ⟨h.src.set (by omega) k v, grown_far h.gr hX k v, ?_, ?_⟩
  · have := h.box.set k v
    rw [he] at this
    exact this
  · exact World.ownsRow.kept h.own (grown_setCellF w XB k v) (by
      cases hv : (Value.slice aP xs.length cP).ownBlock with
      | none => exact .inl rfl
      | some g => exact .inr (by rw [← hv]; exact Ne.symm (OwnNums.neG h.own h.box)))
end
/-- an operation under way, its letters left open -/
def GrUp (W0 W1 : World) (c : Nat) (a : Option Addr) (len cap XB P M : Nat) (w : World) : Prop :=
  ∃ (p : Nat) (kd mbv dt : Int) (aP : Option Addr) (cP : Nat) (xs : List Int) (tx : ByteArray), GrIt W0 W1 c a len cap XB w p kd mbv dt aP cP xs tx ∧ p ≤ P ∧ xs.length ≤ M ∧ tx.size ≤ 1001
end Go.Proofs.Ytmhkelfmciepaaa
