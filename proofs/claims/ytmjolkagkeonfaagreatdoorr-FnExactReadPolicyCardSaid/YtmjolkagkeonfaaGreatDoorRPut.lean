import Derived.Test.YtmjolkagkeonfaaGreatDoorRProg
import Derived.Test.YtmjolkagkeonfaaGreatDoorRBase
import Derived.WalkLawsBesides
import Derived.WalkSpells
import Derived.OpenShut
import Derived.Laws.BitsAllLaws
namespace Go.Proofs.YtmjolkagkeonfaaGreatDoorR
open Go.RowKit
theorem Tryz.info5 : (Tryz.prog.info? 5).map (fun i => (i.zero, i.size, i.bytes)) = some (some (.int .u8 0), 1, 1) := by kernel_rfl

theorem or128 (m : Nat) : bits .or .u8 ((m : Int) % 256) 128 = 128 + (m : Int) % 128 := by
  have h : ∀ a, a < 256 → a ||| 128 = 128 + a % 128 := by decide +kernel
  have e1 : ((m : Int) % 256) = ((m % 256 : Nat) : Int) := by omega
  rw [e1, show (128 : Int) = ((128 : Nat) : Int) from rfl, u8_or_nat _ _ (by omega) (by omega), h _ (by omega)]; omega

def nine : Array Value := #[.int .u8 0, .int .u8 0, .int .u8 0, .int .u8 0, .int .u8 0, .int .u8 0, .int .u8 0, .int .u8 0, .int .u8 0]

/-- What PutNum gives. -/
def putNum (n : Int) : ByteArray := if n < 0 then ByteArray.empty else strOfNums (putL 8 n.toNat)
end Go.Proofs.YtmjolkagkeonfaaGreatDoorR
