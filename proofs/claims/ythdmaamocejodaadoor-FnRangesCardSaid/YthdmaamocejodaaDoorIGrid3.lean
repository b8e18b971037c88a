import Derived.Test.YthdmaamocejodaaDoorIGrid
import Derived.Test.YthdmaamocejodaaDoorIFault
import Derived.Test.YthdmaamocejodaaDoorSCau
import Derived.Test.YthdmaamocejodaaDoorLawMx
namespace Go.Proofs.YthdmaamocejodaaDoor
open Go.RowKit
theorem take_setN {xs ys : List Nat} {k : Nat} (hx : k < xs.length) (hy : k < ys.length) (h : ys.take k = xs.take k) : (ys.set k (xs.getD k 0)).take (k + 1) = xs.take (k + 1) := take_set_nl hx hy h rfl
theorem u8_of {x : Nat} (h : x < 256) : IntKind.u8.wrap (x : Int) = (x : Int) := by rw [IntKind.wrap_u8']; omega
end Go.Proofs.YthdmaamocejodaaDoor
