import Derived.Test.YthdmaamocejodaaDoorSMul2
import Derived.Deep.RegionHeld3
namespace Go.Proofs.YthdmaamocejodaaDoor
open Go.RowKit
def cauL (R C : Nat) : List Nat := (List.range (R * C)).map fun p => gp 8 29 ((C + p / C) ^^^ (p % C)) 254
theorem cauL_len (R C : Nat) : (cauL R C).length = R * C := by simp [cauL]
theorem cauL_at {R C i j : Nat} (hi : i < R) (hj : j < C) : (cauL R C).getD (i * C + j) 0 = gp 8 29 ((C + i) ^^^ j) 254 := by
  have hp := mul_pos_lt hi hj
  have e1 : (i * C + j) / C = i := by rw [Nat.mul_comm, Nat.mul_add_div (by omega), Nat.div_eq_of_lt hj, Nat.add_zero]
  have e2 : (i * C + j) % C = j := by rw [Nat.mul_comm, Nat.mul_add_mod, Nat.mod_eq_of_lt hj]
  rw [List.getD_eq_getElem?_getD, cauL, List.getElem?_map, List.getElem?_range hp]
  simp only [Option.map_some, Option.getD_some, e1, e2]
theorem wrap_small (n : Int) (h0 : -9223372036854775808 ≤ n) (h1 : n ≤ 9223372036854775807) : IntKind.i64.wrap n = n := by rw [IntKind.wrap_i64]; omega
end Go.Proofs.YthdmaamocejodaaDoor
