import Derived.Test.YthdmaamocejodaaDoorISide
namespace Go.Proofs.YthdmaamocejodaaDoor
open Go.RowKit
end Go.Proofs.YthdmaamocejodaaDoor
