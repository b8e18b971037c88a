import Derived.Test.YtfmafdjeonogjajIProd8
namespace Go.Proofs.Ytfmafdjeonogjaj
open Go.RowKit
end Go.Proofs.Ytfmafdjeonogjaj
