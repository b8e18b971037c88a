import Derived.Test.YtgoplcjjoiiagaaGreatDoorProg
import Derived.Test.YtgoplcjjoiiagaaGreatDoorBase
import Derived.WalkLawsBesides
import Derived.WalkSpells
import Derived.OpenShut
import Derived.Laws.BitsAllLaws
namespace Go.Proofs.YtgoplcjjoiiagaaGreatDoor
open Go.RowKit
theorem Tryz.info5 : (Tryz.prog.info? 5).map (fun i => (i.zero, i.size, i.bytes)) = some (some (.int .u8 0), 1, 1) := by kernel_rfl

end Go.Proofs.YtgoplcjjoiiagaaGreatDoor
