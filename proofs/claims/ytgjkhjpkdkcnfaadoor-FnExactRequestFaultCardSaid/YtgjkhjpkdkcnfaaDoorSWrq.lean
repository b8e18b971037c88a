import Derived.Test.YtgjkhjpkdkcnfaaDoorSReq
import Derived.Test.YtgjkhjpkdkcnfaaDoorSEsc
import Derived.Test.YtgjkhjpkdkcnfaaDoorOfL
namespace Go.Proofs.YtgjkhjpkdkcnfaaDoor
open Go.RowKit
/-! Requests written: the specification's WriteRequest. -/
def prL (p : Hp) : List UInt8 := escV p.nm ++ [61] ++ escV p.vl
def qyL (o : Nat → Hp) : Nat → List UInt8
  | 0 => []
  | k + 1 => qyL o k ++ [if k = 0 then 63 else 38] ++ prL (o k)
def hdL (o : Nat → Hp) : Nat → List UInt8
  | 0 => []
  | k + 1 => hdL o k ++ (o k).nm.data.toList ++ [58, 32] ++ (o k).vl.data.toList ++ [10]
def headL (r : Rq) : List UInt8 := r.mt.data.toList ++ [32] ++ escV r.pt ++ qyL r.qs.o r.qs.n ++ [10] ++ hdL r.hs.o r.hs.n ++ [108, 101, 110, 103, 116, 104, 58, 32] ++ Lib.decDigits r.bd.size ++ [10, 10]
noncomputable def wrqL (r : Rq) : List UInt8 := if pb (rqP r) then headL r ++ r.bd.data.toList else []
theorem escV_len (s : ByteArray) : (escV s).length ≤ 3 * s.size := by
  unfold escV
  split
  · have := (esc_len s.data.toList).2
    rw [baLen] at this
    exact this
  · exact Nat.zero_le _
theorem prL_len {p : Hp} (h : qyP p) : (prL p).length ≤ 3301 := by
  have h1 := escV_len p.nm
  have h2 := escV_len p.vl
  have := h.2.1
  have := h.2.2
  unfold prL
  simp only [List.length_append, List.length_cons, List.length_nil]
  omega
end Go.Proofs.YtgjkhjpkdkcnfaaDoor
