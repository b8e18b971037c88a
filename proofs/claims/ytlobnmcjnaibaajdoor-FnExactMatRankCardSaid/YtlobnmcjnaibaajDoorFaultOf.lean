import Derived.Test.YtlobnmcjnaibaajDoorLawMx
import Derived.Test.YtlobnmcjnaibaajDoorSMx
import Derived.Deep.RegionHeld3
namespace Go.Proofs.YtlobnmcjnaibaajDoor
open Go.RowKit
theorem Wr.ints' {k : IntKind} {w : World} {b off len : Nat} {xs : List Int} (h : Wr k w b off xs) (e : xs.length = len) : Ints k w (some ⟨b, off, none⟩) len len xs := by subst e; exact h.ints (Nat.le_refl _)
end Go.Proofs.YtlobnmcjnaibaajDoor
