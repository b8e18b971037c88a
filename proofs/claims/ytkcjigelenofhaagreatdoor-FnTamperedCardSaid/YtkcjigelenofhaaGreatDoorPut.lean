import Derived.Test.YtkcjigelenofhaaGreatDoorProg
import Derived.Test.YtkcjigelenofhaaGreatDoorBase
import Derived.WalkLawsBesides
import Derived.WalkSpells
import Derived.OpenShut
import Derived.Laws.BitsAllLaws
namespace Go.Proofs.YtkcjigelenofhaaGreatDoor
open Go.RowKit
theorem Tryz.info5 : (Tryz.prog.info? 5).map (fun i => (i.zero, i.size, i.bytes)) = some (some (.int .u8 0), 1, 1) := by kernel_rfl
end Go.Proofs.YtkcjigelenofhaaGreatDoor
