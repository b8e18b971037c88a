import Derived.Test.YtjeahllaajpddaaSMx
namespace Go.Proofs.Ytjeahllaajpddaa
open Go.RowKit
/-- row i times column j, the first n terms -/
def dotN (xs ys : List Nat) (C D i j : Nat) : Nat → Nat
  | 0 => 0
  | n + 1 => dotN xs ys C D i j n ^^^ gm 8 29 (xs.getD (i * C + n) 0) (ys.getD (n * D + j) 0)
theorem dotN_lt {xs ys : List Nat} (hx : Small xs) (C D i j : Nat) : ∀ n, dotN xs ys C D i j n < 256
  | 0 => by show 0 < 256; decide
  | n + 1 => Nat.xor_lt_two_pow (n := 8) (dotN_lt hx C D i j n) (gm_lt fld8.toFld _ (hx _))
def mulL (xs ys : List Nat) (R C D : Nat) : List Nat := (List.range (R * D)).map fun p => dotN xs ys C D (p / D) (p % D) C
theorem mulL_len (xs ys : List Nat) (R C D : Nat) : (mulL xs ys R C D).length = R * D := by simp [mulL]
theorem mulL_at {xs ys : List Nat} {R C D i j : Nat} (hi : i < R) (hj : j < D) : (mulL xs ys R C D).getD (i * D + j) 0 = dotN xs ys C D i j C := by
  have hp : i * D + j < R * D := by
    have : i * D + D ≤ R * D := by rw [← Nat.succ_mul]; exact Nat.mul_le_mul_right D hi
    omega
  have e1 : (i * D + j) / D = i := by rw [Nat.mul_comm, Nat.mul_add_div (by omega), Nat.div_eq_of_lt hj, Nat.add_zero]
  have e2 : (i * D + j) % D = j := by rw [Nat.mul_comm, Nat.mul_add_mod, Nat.mod_eq_of_lt hj]
  rw [List.getD_eq_getElem?_getD]
  simp [mulL, hp, e1, e2]
theorem small_of {xs : List Nat} (h : ∀ y ∈ xs, y < 256) : Small xs := fun i => by
  rw [List.getD_eq_getElem?_getD]
  cases e : xs[i]? with
  | none => simp
  | some y => exact h y (List.mem_of_getElem? e)
theorem mul_pos_lt {i R D : Nat} (hi : i < R) {j : Nat} (hj : j < D) : i * D + j < R * D := by
  have : i * D + D ≤ R * D := by rw [← Nat.succ_mul]; exact Nat.mul_le_mul_right D hi
  omega
theorem take_set_nl {xs ys : List Nat} {k x : Nat} (hx : k < xs.length) (hy : k < ys.length) (h : ys.take k = xs.take k) (e : xs.getD k 0 = x) : (ys.set k x).take (k + 1) = xs.take (k + 1) := by
  subst e
  apply List.ext_getElem?
  intro i
  rw [List.getElem?_take, List.getElem?_take]
  split
  · by_cases e : i = k
    · subst e; rw [List.getElem?_set_self hy, List.getD_eq_getElem?_getD, List.getElem?_eq_getElem hx]; rfl
    · rw [List.getElem?_set_ne (by omega)]
      have := congrArg (·[i]?) h
      simp only [List.getElem?_take] at this
      rw [if_pos (by omega), if_pos (by omega)] at this; exact this
  · rfl
theorem one4 (k r c : Int) (a : Option Addr) (len cap : Nat) : (#[.int .i64 k, .int .i64 r, .int .i64 c, .slice a len cap] : Array Value).all (·.oneCell') = true := by simp [Value.oneCell']
theorem below_drew_alloc (w : World) (o : Obj) : Below w.heap.size w (w.drew.alloc o) := (Below.refl _ _).drew.alloc (Nat.le_refl _) o
end Go.Proofs.Ytjeahllaajpddaa
