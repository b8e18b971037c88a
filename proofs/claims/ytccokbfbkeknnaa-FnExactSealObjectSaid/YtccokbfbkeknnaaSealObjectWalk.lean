import Derived.Test.YtccokbfbkeknnaaISeal6
import Derived.Test.YtccokbfbkeknnaaSealOf
namespace Go.Proofs.Ytccokbfbkeknnaa
open Go.RowKit
theorem fnExactSealObject_walk (m : ByteArray) (hm0 : m.size ≤ maxLen) (dk : ByteArray) (hd0 : dk.size ≤ maxLen) (nonce : Int) (wn : (Lit.int .i64 nonce).wf = true) (data : ByteArray) (ht0 : data.size ≤ maxLen) (w : World) :
    Calls Try.prog 5 #[.string m, .string dk, .int .i64 nonce, .string data] w fun e w' => e = .returned (.bool true) ∧ Below w.heap.size w w' :=
  fnExactSealObject_of (fun m dk nonce data _ _ wn hd w => iSeal m dk nonce data (wf_hi wn) hd w) m hm0 dk hd0 nonce wn data ht0 w
end Go.Proofs.Ytccokbfbkeknnaa
