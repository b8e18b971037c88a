import Derived.Test.YtccokbfbkeknnaaISeal6
import Derived.Test.YtccokbfbkeknnaaFnSealedOf2
namespace Go.Proofs.Ytccokbfbkeknnaa
open Go.RowKit
theorem fnSealed_walk {w : World} (a0 : Option Addr) (len0 cap0 : Nat) (z0 : List Int) (h0 : IsRow .u8 w a0 len0 cap0 z0) (a1 : Option Addr) (len1 cap1 : Nat) (z1 : List Int) (h1 : IsRow .u8 w a1 len1 cap1 z1) :
    Calls Try.prog 3 #[.slice a0 len0 cap0, .slice a1 len1 cap1] w fun e w' => e = .returned (.bool true) ∧ Below w.heap.size w w' :=
  fnSealed_of (fun m dk nonce data _ _ wn hd w => iSeal m dk nonce data (wf_hi wn) hd w) (fun m c wr dt nonce _ _ _ _ wn w => iOpn m c wr dt nonce (wf_hi wn) w) (fun old now c wr dt nonce _ _ _ _ hdt wn w => iRew old now c wr dt nonce (wf_hi wn) hdt w) a0 len0 cap0 z0 h0 a1 len1 cap1 z1 h1
end Go.Proofs.Ytccokbfbkeknnaa
