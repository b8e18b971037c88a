import Derived.Test.YtjakibhanpmkcaaDoorISide
namespace Go.Proofs.YtjakibhanpmkcaaDoor
open Go.RowKit
end Go.Proofs.YtjakibhanpmkcaaDoor
