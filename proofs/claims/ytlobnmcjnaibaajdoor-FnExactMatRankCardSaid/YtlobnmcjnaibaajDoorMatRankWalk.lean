import Derived.Test.YtlobnmcjnaibaajDoorRankOf
import Derived.Test.YtlobnmcjnaibaajDoorIMat3
namespace Go.Proofs.YtlobnmcjnaibaajDoor
open Go.RowKit
theorem irankI (r c : Int) (xs : List Int) (a : Option Addr) (len cap : Nat) (w : World) (hT : Tab w) (h : Ints .i64 w a len cap xs) (hl : len ≤ 1048576) :
    Calls Tryd.prog 18 #[mxv r c a len cap] w fun e w' => e = .returned (.int .i64 (rkI r c xs)) ∧ Below w.heap.size w w' := by
  unfold rkI
  rcases mfault_01 r c xs with f | f
  · rw [if_pos f]
    obtain ⟨R, C, rfl, rfl, h1, h2, h3, h4, ys, rfl, h5, h6⟩ := mfault_ok f
    simp only [Int.toNat_natCast, nl_back]
    have hln : len = R * C := by have := h.1; rw [nl_len] at this; omega
    exact imatrank R C len _ h1 h2 h3 h4 hln ys (small_of h6) rfl a cap w hT h f
  · rw [if_neg (by omega)]
    exact imatrank_no r c xs a len cap w h hl f
theorem fnExactMatRank_walk {w : World} (hT : Tab w) (r : Int) (wr : (Lit.int .i64 r).wf = true) (c : Int) (wc : (Lit.int .i64 c).wf = true) (a : Option Addr) (len cap : Nat) (zs : List Int) (h : IsRow .i64 w a len cap zs) :
    Calls Tryd.prog 5 #[.agg #[.int .i64 r, .int .i64 c, .slice a len cap]] w fun e w' => e = .returned (.bool true) ∧ Below w.heap.size w w' :=
  fnExactMatRank_of (fun r c _ len xs w hw hl hle hT => irankI r c xs _ len len w hT (hw.ints' hl) hle) hT r wr c wc a len cap zs h
end Go.Proofs.YtlobnmcjnaibaajDoor
