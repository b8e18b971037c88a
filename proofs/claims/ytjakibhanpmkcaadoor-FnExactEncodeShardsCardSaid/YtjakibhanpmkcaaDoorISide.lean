import Derived.Test.YtjakibhanpmkcaaDoorIMul8
import Derived.Test.YtjakibhanpmkcaaDoorSMx
namespace Go.Proofs.YtjakibhanpmkcaaDoor
open Go.RowKit
end Go.Proofs.YtjakibhanpmkcaaDoor
