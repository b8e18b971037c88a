import Derived.Test.YtccokbfbkeknnaaISeal6
import Derived.Test.YtccokbfbkeknnaaSealOf2
namespace Go.Proofs.Ytccokbfbkeknnaa
open Go.RowKit
theorem fnExactOpenSealed_walk (m : ByteArray) (hm : m.size ≤ maxLen) (c : Int) (wc : (Lit.int .i64 c).wf = true) (wr : ByteArray) (hwr : wr.size ≤ maxLen) (dt : ByteArray) (hdt : dt.size ≤ maxLen) (nonce : Int) (wn : (Lit.int .i64 nonce).wf = true) (w : World) :
    Calls Try.prog 6 #[.string m, .agg #[.int .i64 c, .string wr, .string dt], .int .i64 nonce] w fun e w' => e = .returned (.bool true) ∧ Below w.heap.size w w' :=
  fnExactOpenSealed_of (fun m c wr dt nonce _ _ _ _ wn w => iOpn m c wr dt nonce (wf_hi wn) w) m hm c wc wr hwr dt hdt nonce wn w
end Go.Proofs.Ytccokbfbkeknnaa
