import Derived.Test.YtccokbfbkeknnaaISeal6
import Derived.Test.YtccokbfbkeknnaaSealOf2
namespace Go.Proofs.Ytccokbfbkeknnaa
open Go.RowKit
theorem fnExactRewrap_walk (old : ByteArray) (hold : old.size ≤ maxLen) (now : ByteArray) (hnow : now.size ≤ maxLen) (c : Int) (wc : (Lit.int .i64 c).wf = true) (wr : ByteArray) (hwr : wr.size ≤ maxLen) (dt : ByteArray) (hdt : dt.size ≤ maxLen) (nonce : Int) (wn : (Lit.int .i64 nonce).wf = true) (w : World) :
    Calls Try.prog 7 #[.string old, .string now, .agg #[.int .i64 c, .string wr, .string dt], .int .i64 nonce] w fun e w' => e = .returned (.bool true) ∧ Below w.heap.size w w' :=
  fnExactRewrap_of (fun old now c wr dt nonce _ _ _ _ hdt wn w => iRew old now c wr dt nonce (wf_hi wn) hdt w) old hold now hnow c wc wr hwr dt hdt nonce wn w
end Go.Proofs.Ytccokbfbkeknnaa
