import Derived.Test.YtlobnmcjnaibaakIMul8
import Derived.Test.YtlobnmcjnaibaakSMx
namespace Go.Proofs.Ytlobnmcjnaibaak
open Go.RowKit
end Go.Proofs.Ytlobnmcjnaibaak
