import Derived.Test.YtjakibhanpmkcaaDoorIProd8
namespace Go.Proofs.YtjakibhanpmkcaaDoor
open Go.RowKit
end Go.Proofs.YtjakibhanpmkcaaDoor
