import Derived.Test.YtokjfffcciddhaaGreatDoorProg
import Derived.Test.YtokjfffcciddhaaGreatDoorBase
import Derived.WalkLawsBesides
import Derived.WalkSpells
import Derived.OpenShut
namespace Go.Proofs.YtokjfffcciddhaaGreatDoor
open Go.RowKit
def sumStep (s : Int) (c : UInt8) : Int := (s * 65539 + c.toNat + 1) % 2147483647
def sumL (s0 : Int) (l : List UInt8) : Int := l.foldl sumStep s0
theorem sumL_snoc (s0 : Int) (l : List UInt8) (c : UInt8) : sumL s0 (l ++ [c]) = sumStep (sumL s0 l) c := by simp [sumL]
theorem sumStep_bd (s : Int) (c : UInt8) : 0 ≤ sumStep s c ∧ sumStep s c ≤ 2147483647 := by unfold sumStep; omega
theorem sumL_bd (l : List UInt8) : ∀ s0, 0 ≤ s0 → s0 ≤ 2147483647 → 0 ≤ sumL s0 l ∧ sumL s0 l ≤ 2147483647 := by
  induction l with
  | nil => intro s0 h1 h2; exact ⟨h1, h2⟩
  | cons c l ih => intro s0 h1 h2; exact ih _ (sumStep_bd s0 c).1 (sumStep_bd s0 c).2
def sumOf (s : ByteArray) (seed : Int) : Int := if seed < 0 ∨ 400000 < s.size then 0 else sumL (seed % 2147483647 + 1) s.data.toList
theorem take_snoc (s : ByteArray) (k : Nat) (h : k < s.size) : s.data.toList.take (k + 1) = s.data.toList.take k ++ [s[k]] := by
  rw [List.take_succ_eq_append_getElem (by simpa using h)]; rfl
theorem byte_bd (s : ByteArray) (k : Nat) (h : k < s.size) : 0 ≤ (s[k].toNat : Int) ∧ (s[k].toNat : Int) < 256 := by
  have := s[k].toNat_lt; omega
theorem ret_int {k : IntKind} {a b : Int} (h : a = b) : Ending.returned (.int k a) = .returned (.int k b) := by rw [h]

end Go.Proofs.YtokjfffcciddhaaGreatDoor
