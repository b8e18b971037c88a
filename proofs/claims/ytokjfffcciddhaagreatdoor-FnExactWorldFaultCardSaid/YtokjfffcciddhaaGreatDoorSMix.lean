import Derived.Test.YtokjfffcciddhaaGreatDoorQI
import Derived.Test.YtokjfffcciddhaaGreatDoorSum
import Derived.Test.YtokjfffcciddhaaGreatDoorQA
namespace Go.Proofs.YtokjfffcciddhaaGreatDoor
open Go.RowKit
/-! MixOf. -/
/-- what is mixed of a sum -/
def mixX (x : Int) : Int := bits .xor .i64 (x * 48271 % 2147483647) (x * 48271 % 2147483647 / 65536)
def mixV (key : ByteArray) (node turn : Int) : Int := if node < 0 ∨ turn < 0 ∨ 1000 < key.size then -1 else mixX (sumOf (key ++ putNum node ++ putNum turn) 17)
theorem putL_len8 : ∀ k n, (putL k n).length ≤ k + 1
  | 0, _ => by simp [putL]
  | k + 1, n => by
    unfold putL
    split
    · simp
    · have := putL_len8 k (n / 128); simp; omega
theorem putNum_size (n : Int) : (putNum n).size ≤ 10 := by
  unfold putNum
  split
  · decide
  · rw [strOfNums_size]; have := putL_len8 8 n.toNat; omega
theorem sumOf_bd (s : ByteArray) (hs : s.size ≤ 400000) : 0 ≤ sumOf s 17 ∧ sumOf s 17 ≤ 2147483647 := by
  unfold sumOf
  rw [if_neg (by omega)]
  exact sumL_bd _ _ (by decide) (by decide)
end Go.Proofs.YtokjfffcciddhaaGreatDoor
