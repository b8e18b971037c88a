import Derived.Test.YtmhkelfmciepaaaDK
import Derived.Test.YtmhkelfmciepaaaAI
namespace Go.Proofs.Ytmhkelfmciepaaa
open Go.RowKit
theorem sel_t (v o : Value) : sel true v o = v := rfl
theorem sel_f (v o : Value) : sel false v o = o := rfl
end Go.Proofs.Ytmhkelfmciepaaa
