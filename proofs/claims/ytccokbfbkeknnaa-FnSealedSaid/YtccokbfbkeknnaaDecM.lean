import Derived.Test.YtccokbfbkeknnaaRows1
import Derived.Test.YtccokbfbkeknnaaProg
import Derived.Lib.ItoaNum
import Derived.Lib.ConvBytes
import Derived.Deep.RegionWith
namespace Go.Proofs.Ytccokbfbkeknnaa
open Go.RowKit
/-! Numbers as texts: the specification's. -/
theorem ba_app (a b : ByteArray) : (a ++ b).data.toList = a.data.toList ++ b.data.toList := by
  rw [ByteArray.data_append]; simp
theorem baLen (b : ByteArray) : b.data.toList.length = b.size := by simp
theorem sizeApp (a b : ByteArray) : (a ++ b).size = a.size + b.size := ByteArray.size_append ..
end Go.Proofs.Ytccokbfbkeknnaa
