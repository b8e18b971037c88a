import Derived.Test.YtccokbfbkeknnaaISeal3
import Derived.Test.YtccokbfbkeknnaaSealOf
namespace Go.Proofs.Ytccokbfbkeknnaa
open Go.RowKit
theorem fnExactStreamOf_walk (key : ByteArray) (hk0 : key.size ≤ maxLen) (nonce : Int) (wn : (Lit.int .i64 nonce).wf = true) (size : Int) (ws : (Lit.int .i64 size).wf = true) (w : World) :
    Calls Try.prog 4 #[.string key, .int .i64 nonce, .int .i64 size] w fun e w' => e = .returned (.bool true) ∧ Below w.heap.size w w' :=
  fnExactStreamOf_of (fun key nonce size _ wn _ w => iStm key nonce size (wf_hi wn) w) key hk0 nonce wn size ws w
end Go.Proofs.Ytccokbfbkeknnaa
