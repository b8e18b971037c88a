import Derived.Test.YtjacjcbcccbjoaaDoorIMul8
import Derived.Test.YtjacjcbcccbjoaaDoorSMx
namespace Go.Proofs.YtjacjcbcccbjoaaDoor
open Go.RowKit
end Go.Proofs.YtjacjcbcccbjoaaDoor
