import Derived.Test.YtjacjcbcccbjoaaDoorISide
namespace Go.Proofs.YtjacjcbcccbjoaaDoor
open Go.RowKit
end Go.Proofs.YtjacjcbcccbjoaaDoor
