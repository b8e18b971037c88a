import Derived.Test.YtekdphfifdfmbaaG2
import Derived.Test.YtekdphfifdfmbaaIRun
import Derived.Test.YtekdphfifdfmbaaSRun2
import Derived.Test.YtekdphfifdfmbaaOpenEn
namespace Go.Proofs.Ytekdphfifdfmbaa
open Go.RowKit
theorem szEn_at (o : Nat → En) {k n : Nat} (h : k < n) : (o k).ky.size ≤ szEn o n ∧ (o k).tx.size ≤ szEn o n := by
  have h1 := szEn_mono o (show k + 1 ≤ n by omega)
  have h2 : szEn o (k + 1) = szEn o k + (o k).ky.size + (o k).tx.size := rfl
  constructor <;> omega
end Go.Proofs.Ytekdphfifdfmbaa
