import Derived.Test.YtfmafdjeonogjajISide
namespace Go.Proofs.Ytfmafdjeonogjaj
open Go.RowKit
end Go.Proofs.Ytfmafdjeonogjaj
