import Derived.Test.YtlobnmcjnaibaakIProd8
namespace Go.Proofs.Ytlobnmcjnaibaak
open Go.RowKit
end Go.Proofs.Ytlobnmcjnaibaak
