import Derived.Test.YtngkiokibldfjaaGreatDoorEB
import Derived.Test.YtngkiokibldfjaaGreatDoorDrawKeyB
namespace Go.Proofs.YtngkiokibldfjaaGreatDoor
open Go.RowKit
/-! DrawKit beside XK (which has a grown_far of its own). What the draws want: slots that may have come up, rows that stay. -/
def sel (b : Bool) (v o : Value) : Value := cond b v o
theorem rowF {w w' : World} {b c : Nat} {t : TypeId} {cs : Array Value} (h : RowAt w b t cs) (hg : w.grownBy w' (some c)) (hn : c < b) : RowAt w' b t cs := (hg.block b h.lt (fun e => by cases e; omega)).trans h
theorem grown_setCellF (w : World) (b k : Nat) (v : Value) : w.grownBy (w.setCell ⟨b, k, none⟩ v) (some b) :=
  ⟨rfl, rfl, rfl, by simp, fun j _ hj => heap_setCell_other w ⟨b, k, none⟩ j v (fun e => hj (by rw [e]))⟩
theorem Src.set {W0 w : World} {c : Nat} {a : Option Addr} {len cap p : Nat} (h : Src W0 w c a len cap p) {b : Nat} (hb : c < b) (k : Nat) (v : Value) : Src W0 (w.setCell ⟨b, k, none⟩ v) c a len cap p :=
  h.far (grown_setCellF w b k v) (fun e => by cases e; omega) (fun g hg => by cases hg; have := h.2.2.2.2; omega)
/-- what grew from X on is not touched by a store into a block that X had not -/
theorem grown_farK {X w : World} {r : Option Nat} (h : X.grownBy w r) {b : Nat} (hb : X.heap.size ≤ b) (k : Nat) (v : Value) : X.grownBy (w.setCell ⟨b, k, none⟩ v) r :=
  ⟨h.os, h.tape, h.output, by simp [h.size], fun j hj hr => (heap_setCell_other w ⟨b, k, none⟩ j v (by simp; omega)).trans (h.block j hj hr)⟩
theorem grown_al {X w : World} {r : Option Nat} (h : X.grownBy w r) (o : Obj) : X.grownBy (w.alloc o) r := grown_trans h (World.grownBy_alloc w o r)
theorem Src.belowD {W0 w w' : World} {c : Nat} {a : Option Addr} {len cap p : Nat} (h : Src W0 w c a len cap p) (hb : Below w.heap.size w w') : Src W0 w' c a len cap p :=
  h.far (below_grown hb none) (by simp) (by intro g hg; cases hg)
theorem RowAt.nxD {X w1 : World} {b : Nat} {t : TypeId} {c : Array Value} (hb : Below X.heap.size X w1) (h : RowAt X b t c) : RowAt w1 b t c := h.below hb h.lt
theorem rowF2 {w w' : World} {b c : Nat} {t : TypeId} {cs : Array Value} (h : RowAt w b t cs) (hg : w.grownBy w' (some c)) (hn : c ≠ b) : RowAt w' b t cs := (hg.block b h.lt (fun e => by cases e; exact hn rfl)).trans h
theorem grown_setRowD {X w : World} {r : Option Nat} (h : X.grownBy w r) {b : Nat} (hb : X.heap.size ≤ b) (c : Array Value) : X.grownBy (w.setRow b c) r :=
  ⟨h.os, h.tape, h.output, by simp [World.setRow, h.size], fun j hj hr => (setRow_other w b j c (by omega)).trans (h.block j hj hr)⟩
theorem Src.setRowD {W0 w : World} {c : Nat} {a : Option Addr} {len cap p : Nat} (h : Src W0 w c a len cap p) {b : Nat} (hb : c < b) (cs : Array Value) : Src W0 (w.setRow b cs) c a len cap p :=
  h.far (r := some b) ⟨rfl, rfl, rfl, by simp [World.setRow], fun j _ hr => setRow_other w b j cs (fun e => hr (by rw [e]))⟩ (fun e => by cases e; omega) (fun g hg => by cases hg; have := h.2.2.2.2; omega)
end Go.Proofs.YtngkiokibldfjaaGreatDoor
namespace Go.Proofs.YtngkiokibldfjaaGreatDoor
open Go.RowKit
theorem sel_t (v o : Value) : sel true v o = v := rfl
theorem sel_f (v o : Value) : sel false v o = o := rfl
end Go.Proofs.YtngkiokibldfjaaGreatDoor
