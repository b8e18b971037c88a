import Derived.Test.YthdmaamocejodaaDoorIMul8
import Derived.Test.YthdmaamocejodaaDoorSMx
namespace Go.Proofs.YthdmaamocejodaaDoor
open Go.RowKit
end Go.Proofs.YthdmaamocejodaaDoor
