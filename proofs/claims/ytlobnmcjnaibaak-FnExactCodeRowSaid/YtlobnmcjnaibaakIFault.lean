import Derived.Test.YtlobnmcjnaibaakISide
namespace Go.Proofs.Ytlobnmcjnaibaak
open Go.RowKit
end Go.Proofs.Ytlobnmcjnaibaak
