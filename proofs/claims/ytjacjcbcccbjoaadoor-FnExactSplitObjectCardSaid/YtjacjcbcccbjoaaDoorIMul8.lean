import Derived.Test.YtjacjcbcccbjoaaDoorIProd8
namespace Go.Proofs.YtjacjcbcccbjoaaDoor
open Go.RowKit
end Go.Proofs.YtjacjcbcccbjoaaDoor
