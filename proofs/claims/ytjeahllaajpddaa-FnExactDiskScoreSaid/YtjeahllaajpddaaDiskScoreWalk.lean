import Derived.Test.YtjeahllaajpddaaNdOf
import Derived.Test.YtjeahllaajpddaaIPl
namespace Go.Proofs.Ytjeahllaajpddaa
open Go.RowKit
theorem fnExactDiskScore_walk {w : World} (a : Option Addr) (len cap : Nat) (x y : Nat → Int) (h : IsPairs w a len cap x y) (key : ByteArray) (hk : key.size ≤ maxLen) (disk : Int) (_wd : (Lit.int .i64 disk).wf = true) :
    Calls Try.prog 8 #[.slice a len cap, .string key, .int .i64 disk] w fun e w' => e = .returned (.bool true) ∧ Below w.heap.size w w' := by
  unfold maxLen at hk
  exact fnExactDiskScore_of a len cap x y h.len key (by omega) disk (fun _ w hl hk hF => iDisk _ len len x y hl key hk disk w hF.prs) w (Prs.of_is h)
end Go.Proofs.Ytjeahllaajpddaa
