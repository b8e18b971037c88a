import Derived.Test.YtmjolkagkeonfaaGreatDoorRDecM
import Derived.WalkSmall
namespace Go.Proofs.YtmjolkagkeonfaaGreatDoorR
open Go.RowKit
/-! Texts made of lists; a row that a walk keeps from world to world. -/
def ofL (l : List UInt8) : ByteArray := ⟨l.toArray⟩
theorem ofL_l (l : List UInt8) : (ofL l).data.toList = l := by simp [ofL]
theorem ofL_size (l : List UInt8) : (ofL l).size = l.length := by rw [← baLen, ofL_l]
theorem ba_extL {a b : ByteArray} (h : a.data.toList = b.data.toList) : a = b := by
  cases a
  cases b
  congr 1
  exact Array.toList_inj.1 h
theorem ofL_of {b : ByteArray} {l : List UInt8} (h : b.data.toList = l) : b = ofL l := ba_extL (by rw [h, ofL_l])
theorem ofL_inj {a b : List UInt8} (h : ofL a = ofL b) : a = b := by rw [← ofL_l a, h, ofL_l]
/-- the row b lies in w, and nothing that was there in W has turned -/
def Jn (W w : World) (b : Nat) (t : TypeId) (cs : Array Value) : Prop := RowAt w b t cs ∧ Below W.heap.size W w
theorem Jn.drew {W w : World} {b : Nat} {t : TypeId} {cs : Array Value} (J : Hid (Jn W w b t cs)) : Hid (Jn W w.drew b t cs) := ⟨J.out.1.drew, J.out.2.drew⟩
theorem Jn.drewN {W w : World} {b : Nat} {t : TypeId} {cs : Array Value} (J : Hid (Jn W w b t cs)) (n : Nat) : Hid (Jn W (w.drewN n) b t cs) := ⟨J.out.1.drewN n, below_drewN J.out.2 n⟩
theorem Jn.next {W X w2 : World} {b : Nat} {t : TypeId} {cs : Array Value} (hb : Below X.heap.size X w2) (J : Hid (Jn W X b t cs)) : Hid (Jn W w2 b t cs) :=
  ⟨J.out.1.below hb J.out.1.lt, J.out.2.trans (hb.mono J.out.2.size)⟩
theorem Jn.box (w : World) (t : TypeId) (cs : Array Value) : Hid (Jn w (w.alloc (.cells cs t)) w.heap.size t cs) := ⟨RowAt.new _ _ _, (Below.refl _ _).alloc (Nat.le_refl _) _⟩
end Go.Proofs.YtmjolkagkeonfaaGreatDoorR
