import Derived.Test.YtfmafdjeonogjaiFaultOf
import Derived.Test.YtfmafdjeonogjaiIFault
namespace Go.Proofs.Ytfmafdjeonogjai
open Go.RowKit
theorem fnExactMatrixFault_walk {w : World} (r : Int) (wr : (Lit.int .i64 r).wf = true) (c : Int) (wc : (Lit.int .i64 c).wf = true) (a : Option Addr) (len cap : Nat) (zs : List Int) (h : IsRow .i64 w a len cap zs) :
    Calls Try.prog 8 #[.agg #[.int .i64 r, .int .i64 c, .slice a len cap]] w fun e w' => e = .returned (.bool true) ∧ Below w.heap.size w w' :=
  fnExactMatrixFault_of (fun r c _ len xs w hw hl hle => ifault r c _ len len xs w (hw.ints' hl) hle) r wr c wc a len cap zs h
end Go.Proofs.Ytfmafdjeonogjai
