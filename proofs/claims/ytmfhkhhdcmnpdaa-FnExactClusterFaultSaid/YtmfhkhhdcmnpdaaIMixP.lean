import Derived.Test.YtmfhkhhdcmnpdaaSNodes
namespace Go.Proofs.Ytmfhkhhdcmnpdaa
open Go.RowKit
/-! The program's own: keySum, mix, MixOf, scoreOf, NodesFault, DiskScore. -/
theorem sumL_append (s0 : Int) (a b : List UInt8) : sumL s0 (a ++ b) = sumL (sumL s0 a) b := by simp [sumL]
/-- the sum of a key -/
def kSum (key : ByteArray) : Int := sumL 18 key.data.toList
theorem kSum_bd (key : ByteArray) : 0 ≤ kSum key ∧ kSum key ≤ 2147483647 := sumL_bd _ _ (by decide) (by decide)
theorem bytes_append (a b : ByteArray) : (a ++ b).data.toList = a.data.toList ++ b.data.toList := by
  rw [ByteArray.data_append, Array.toList_append]
theorem mixV_eq (key : ByteArray) (node turn : Int) (hk : key.size ≤ 1000) (hn : 0 ≤ node) (ht : 0 ≤ turn) :
    mixV key node turn = mixX (sumL (sumL (kSum key) (putNum node).data.toList) (putNum turn).data.toList) := by
  have h1 := putNum_size node
  have h2 := putNum_size turn
  unfold mixV
  rw [if_neg (by omega)]
  unfold sumOf
  rw [if_neg (by simp only [ByteArray.size_append]; omega), bytes_append, bytes_append, sumL_append, sumL_append]
  rfl
end Go.Proofs.Ytmfhkhhdcmnpdaa
