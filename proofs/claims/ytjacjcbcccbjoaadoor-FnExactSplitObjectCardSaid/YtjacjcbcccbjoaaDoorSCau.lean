import Derived.Test.YtjacjcbcccbjoaaDoorSMul2
import Derived.Deep.RegionHeld3
namespace Go.Proofs.YtjacjcbcccbjoaaDoor
open Go.RowKit
def cauL (R C : Nat) : List Nat := (List.range (R * C)).map fun p => gp 8 29 ((C + p / C) ^^^ (p % C)) 254
theorem cauL_len (R C : Nat) : (cauL R C).length = R * C := by simp [cauL]
theorem cauL_at {R C i j : Nat} (hi : i < R) (hj : j < C) : (cauL R C).getD (i * C + j) 0 = gp 8 29 ((C + i) ^^^ j) 254 := by
  have hp := mul_pos_lt hi hj
  have e1 : (i * C + j) / C = i := by rw [Nat.mul_comm, Nat.mul_add_div (by omega), Nat.div_eq_of_lt hj, Nat.add_zero]
  have e2 : (i * C + j) % C = j := by rw [Nat.mul_comm, Nat.mul_add_mod, Nat.mod_eq_of_lt hj]
  rw [List.getD_eq_getElem?_getD, cauL, List.getElem?_map, List.getElem?_range hp]
  simp only [Option.map_some, Option.getD_some, e1, e2]
theorem sinv8v (A G : Nat) (hA : A < 256) (HG : Hid (gp 8 29 A 254 = G)) (w : World) :
    Calls Tryd.prog 53 #[.int .i64 A] w fun e w' => e = .returned (.int .i64 G) ∧ w' = w := by
  have h := sinv8 A w
  have e : invI 8 29 (A : Int) = (G : Int) := by
    unfold invI; rw [inT_of (T := 2 ^ 8) hA, if_pos rfl]; exact congrArg (fun x : Nat => (x : Int)) HG.out
  rw [e] at h; exact h
theorem sinv8x (x : Int) (A G : Nat) (hx : x = (A : Int)) (hA : A < 256) (HG : Hid (gp 8 29 A 254 = G)) (w : World) :
    Calls Tryd.prog 53 #[.int .i64 x] w fun e w' => e = .returned (.int .i64 G) ∧ w' = w := by subst hx; exact sinv8v A G hA HG w
theorem wrap_small (n : Int) (h0 : -9223372036854775808 ≤ n) (h1 : n ≤ 9223372036854775807) : IntKind.i64.wrap n = n := by rw [IntKind.wrap_i64]; omega
end Go.Proofs.YtjacjcbcccbjoaaDoor
