import Derived.Test.YthdmaamocejodaaDoorIProd8
namespace Go.Proofs.YthdmaamocejodaaDoor
open Go.RowKit
end Go.Proofs.YthdmaamocejodaaDoor
