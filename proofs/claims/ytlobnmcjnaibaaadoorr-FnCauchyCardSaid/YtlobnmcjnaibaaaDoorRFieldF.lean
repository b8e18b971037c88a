import Derived.Test.YtlobnmcjnaibaaaDoorRFieldMath
namespace Go.Proofs.YtlobnmcjnaibaaaDoorR
/-! The field of 256 elements as a type, with its laws; sums; matrices by their kernels. -/
def F : Type := { a : Nat // a < 256 }
namespace F
def mk (a : Nat) (h : a < 256) : F := ⟨a, h⟩
def v (a : F) : Nat := a.1
theorem lt (a : F) : a.v < 256 := a.2
theorem ext {a b : F} (h : a.v = b.v) : a = b := Subtype.ext h
instance : Add F := ⟨fun a b => ⟨a.1 ^^^ b.1, Nat.xor_lt_two_pow (n := 8) a.2 b.2⟩⟩
instance : Mul F := ⟨fun a b => ⟨gm 8 29 a.1 b.1, gm_lt fld8.toFld b.1 a.2⟩⟩
instance : Zero F := ⟨⟨0, by decide⟩⟩
instance : One F := ⟨⟨1, by decide⟩⟩
instance : Inhabited F := ⟨0⟩
instance : DecidableEq F := fun a b => decidable_of_iff (a.v = b.v) ⟨ext, congrArg v⟩
theorem inv_lt (a : F) : gp 8 29 a.1 254 < 256 := gp_lt fld8.toFld a.2 254
def inv (a : F) : F := ⟨gp 8 29 a.1 254, inv_lt a⟩
theorem add_v (a b : F) : (a + b).v = a.v ^^^ b.v := rfl
theorem mul_v (a b : F) : (a * b).v = gm 8 29 a.v b.v := rfl
theorem zero_v : (0 : F).v = 0 := rfl
theorem one_v : (1 : F).v = 1 := rfl
theorem inv_v (a : F) : a.inv.v = gp 8 29 a.v 254 := by simp only [inv, v]
theorem ne_v {a : F} : a ≠ 0 ↔ a.v ≠ 0 := ⟨fun h e => h (ext e), fun h e => h (by rw [e]; rfl)⟩
theorem add_comm (a b : F) : a + b = b + a := ext (Nat.xor_comm _ _)
theorem add_assoc (a b c : F) : a + b + c = a + (b + c) := ext (Nat.xor_assoc _ _ _)
theorem add_left_comm (a b c : F) : a + (b + c) = b + (a + c) := by rw [← add_assoc, add_comm a b, add_assoc]
theorem add_self (a : F) : a + a = 0 := ext (Nat.xor_self _)
theorem add_zero (a : F) : a + 0 = a := ext (Nat.xor_zero _)
theorem zero_add (a : F) : 0 + a = a := ext (Nat.zero_xor _)
theorem add_cancel (a b : F) : a + (a + b) = b := by rw [← add_assoc, add_self, zero_add]
theorem add_eq_zero {a b : F} : a + b = 0 ↔ a = b := by
  constructor
  · intro h; have := congrArg (a + ·) h; simp only [add_cancel, add_zero] at this; exact this.symm
  · rintro rfl; exact add_self a
theorem mul_comm (a b : F) : a * b = b * a := ext (gm_comm fld8.toFld a.2 b.2)
theorem mul_assoc (a b c : F) : a * b * c = a * (b * c) := ext (gm_assoc fld8.toFld a.2 b.2 c.2)
theorem mul_left_comm (a b c : F) : a * (b * c) = b * (a * c) := by rw [← mul_assoc, mul_comm a b, mul_assoc]
theorem mul_add (a b c : F) : a * (b + c) = a * b + a * c := ext (gm_xr _ _ _)
theorem add_mul (a b c : F) : (a + b) * c = a * c + b * c := ext (gm_xl _ _ _)
theorem mul_one (a : F) : a * 1 = a := ext (gm_one fld8.toFld _)
theorem one_mul (a : F) : 1 * a = a := ext (one_gm fld8.toFld a.2)
theorem mul_zero (a : F) : a * 0 = 0 := ext (gm_zero _)
theorem zero_mul (a : F) : 0 * a = 0 := ext (zero_gm fld8.toFld a.2)
theorem mul_inv {a : F} (h : a ≠ 0) : a * a.inv = 1 := ext (inv8 a.2 (ne_v.1 h))
theorem inv_mul {a : F} (h : a ≠ 0) : a.inv * a = 1 := by rw [mul_comm, mul_inv h]
theorem one_ne : (1 : F) ≠ 0 := by decide
theorem inv_ne {a : F} (h : a ≠ 0) : a.inv ≠ 0 := by
  intro e; have := mul_inv h; rw [e, mul_zero] at this; exact one_ne this.symm
theorem mul_eq_zero {a b : F} (ha : a ≠ 0) (h : a * b = 0) : b = 0 := by
  have := congrArg (a.inv * ·) h
  simp only [← mul_assoc, inv_mul ha, one_mul, mul_zero] at this; exact this
theorem mul_cancel {a b c : F} (ha : a ≠ 0) (h : a * b = a * c) : b = c := by
  have := congrArg (a.inv * ·) h
  simp only [← mul_assoc, inv_mul ha, one_mul] at this; exact this
theorem mul_ne {a b : F} (ha : a ≠ 0) (hb : b ≠ 0) : a * b ≠ 0 := fun h => hb (mul_eq_zero ha h)
instance : Std.Associative (α := F) (· + ·) := ⟨add_assoc⟩
instance : Std.Commutative (α := F) (· + ·) := ⟨add_comm⟩
instance : Std.Associative (α := F) (· * ·) := ⟨mul_assoc⟩
instance : Std.Commutative (α := F) (· * ·) := ⟨mul_comm⟩
/-! sums -/
def sm : Nat → (Nat → F) → F
  | 0, _ => 0
  | n + 1, f => sm n f + f n
theorem sm_congr : ∀ (n : Nat) {f g : Nat → F}, (∀ i, i < n → f i = g i) → sm n f = sm n g
  | 0, _, _, _ => rfl
  | n + 1, f, g, h => by unfold sm; rw [sm_congr n (fun i hi => h i (by omega)), h n (by omega)]
theorem sm_zero : ∀ n, sm n (fun _ => 0) = 0
  | 0 => rfl
  | n + 1 => by unfold sm; rw [sm_zero n, add_zero]
theorem sm_zero' (n : Nat) {f : Nat → F} (h : ∀ i, i < n → f i = 0) : sm n f = 0 := by rw [sm_congr n h, sm_zero]
theorem sm_add : ∀ (n : Nat) (f g : Nat → F), sm n (fun i => f i + g i) = sm n f + sm n g
  | 0, _, _ => (add_zero 0).symm
  | n + 1, f, g => by
    show sm n (fun i => f i + g i) + (f n + g n) = (sm n f + f n) + (sm n g + g n)
    rw [sm_add n]; ac_rfl
theorem sm_mul : ∀ (n : Nat) (c : F) (f : Nat → F), sm n (fun i => c * f i) = c * sm n f
  | 0, c, _ => (mul_zero c).symm
  | n + 1, c, f => by unfold sm; rw [sm_mul n, mul_add]
theorem sm_mulr (n : Nat) (c : F) (f : Nat → F) : sm n (fun i => f i * c) = sm n f * c := by
  rw [mul_comm, ← sm_mul]; exact sm_congr n fun i _ => mul_comm _ _
theorem sm_swap : ∀ (n m : Nat) (f : Nat → Nat → F), sm n (fun i => sm m (fun j => f i j)) = sm m (fun j => sm n (fun i => f i j))
  | 0, m, f => (sm_zero m).symm
  | n + 1, m, f => by
    have := sm_swap n m f
    show sm n (fun i => sm m (fun j => f i j)) + sm m (fun j => f n j) = sm m (fun j => sm n (fun i => f i j) + f n j)
    rw [this, ← sm_add]
/-- all but one term are 0 -/
theorem sm_one : ∀ (n k : Nat) {f : Nat → F}, k < n → (∀ i, i < n → i ≠ k → f i = 0) → sm n f = f k
  | 0, _, _, h, _ => absurd h (Nat.not_lt_zero _)
  | n + 1, k, f, hk, h => by
    unfold sm
    by_cases e : k = n
    · subst e
      rw [sm_zero' k (fun i hi => h i (by omega) (by omega)), zero_add]
    · rw [sm_one n k (by omega) (fun i hi hne => h i (by omega) hne), h n (by omega) (fun e' => e e'.symm), add_zero]
theorem sm_split (a : Nat) : ∀ (b : Nat) (f : Nat → F), sm (a + b) f = sm a f + sm b (fun i => f (a + i))
  | 0, f => (add_zero _).symm
  | b + 1, f => by
    show sm (a + b) f + f (a + b) = _
    rw [sm_split a b f]
    show _ = _ + (sm b _ + _)
    rw [add_assoc]
/-- a term in front -/
theorem sm_head (n : Nat) (f : Nat → F) : sm (n + 1) f = f 0 + sm n (fun i => f (i + 1)) := by
  rw [Nat.add_comm, sm_split 1 n f]
  show (0 + f 0) + sm n (fun i => f (1 + i)) = _
  rw [zero_add]; congr 1; exact sm_congr n fun i _ => by rw [Nat.add_comm]
end F
/-! ### Cauchy's matrices -/
section
open F
theorem cauchy_key {xi xn yj yn : F} (h1 : xi + yj ≠ 0) (h2 : xi + yn ≠ 0) (h3 : xn + yj ≠ 0) :
    (xi + yj).inv + (xn + yn) * ((xi + yn).inv * (xn + yj).inv) = (xi + xn) * (xi + yn).inv * ((yj + yn) * (xn + yj).inv * (xi + yj).inv) := by
  have hp := mul_ne (mul_ne h1 h2) h3
  refine mul_cancel hp ?_
  have e1 : (xi + yj) * (xi + yn) * (xn + yj) * ((xi + yj).inv + (xn + yn) * ((xi + yn).inv * (xn + yj).inv)) = (xi + yn) * (xn + yj) + (xn + yn) * (xi + yj) := by
    rw [mul_add]
    have a1 : (xi + yj) * (xi + yn) * (xn + yj) * (xi + yj).inv = ((xi + yj) * (xi + yj).inv) * ((xi + yn) * (xn + yj)) := by ac_rfl
    have a2 : (xi + yj) * (xi + yn) * (xn + yj) * ((xn + yn) * ((xi + yn).inv * (xn + yj).inv)) = ((xi + yn) * (xi + yn).inv) * (((xn + yj) * (xn + yj).inv) * ((xn + yn) * (xi + yj))) := by ac_rfl
    rw [a1, a2, mul_inv h1, mul_inv h2, mul_inv h3, one_mul, one_mul, one_mul]
  have e2 : (xi + yj) * (xi + yn) * (xn + yj) * ((xi + xn) * (xi + yn).inv * ((yj + yn) * (xn + yj).inv * (xi + yj).inv)) = (xi + xn) * (yj + yn) := by
    have a1 : (xi + yj) * (xi + yn) * (xn + yj) * ((xi + xn) * (xi + yn).inv * ((yj + yn) * (xn + yj).inv * (xi + yj).inv)) = ((xi + yj) * (xi + yj).inv) * (((xi + yn) * (xi + yn).inv) * (((xn + yj) * (xn + yj).inv) * ((xi + xn) * (yj + yn)))) := by ac_rfl
    rw [a1, mul_inv h1, mul_inv h2, mul_inv h3, one_mul, one_mul, one_mul]
  rw [e1, e2]
  simp only [mul_add, add_mul]
  have : xi * xn + yn * xn + (xi * yj + yn * yj) + (xn * xi + yn * xi + (xn * yj + yn * yj)) = (xi * xn + xi * xn) + ((yn * yj + yn * yj) + (xi * yj + xn * yj + (xi * yn + xn * yn))) := by
    rw [mul_comm xn xi, mul_comm yn xn, mul_comm yn xi]; ac_rfl
  rw [this, add_self, add_self, zero_add, zero_add]
/-- A square piece of Cauchy's has no kernel but 0. -/
theorem cauchy_ker : ∀ (n : Nat) (x y u : Nat → F), (∀ i j, i < n → j < n → i ≠ j → x i ≠ x j) → (∀ i j, i < n → j < n → i ≠ j → y i ≠ y j) → (∀ i j, i < n → j < n → x i ≠ y j) →
    (∀ i, i < n → sm n (fun j => u j * (x i + y j).inv) = 0) → ∀ j, j < n → u j = 0
  | 0, _, _, _, _, _, _, _, j, hj => absurd hj (Nat.not_lt_zero _)
  | n + 1, x, y, u, hx, hy, hxy, h, j, hj => by
    have nz : ∀ i j, i < n + 1 → j < n + 1 → x i + y j ≠ 0 := fun i j hi hj e => hxy i j hi hj (add_eq_zero.1 e)
    have hn := h n (by omega)
    have un : u n = (x n + y n) * sm n (fun j => u j * (x n + y j).inv) := by
      have e : sm n (fun j => u j * (x n + y j).inv) + u n * (x n + y n).inv = 0 := hn
      have e2 := add_eq_zero.1 e
      rw [e2]
      have : (x n + y n) * (u n * (x n + y n).inv) = ((x n + y n) * (x n + y n).inv) * u n := by ac_rfl
      rw [this, mul_inv (nz n n (by omega) (by omega)), one_mul]
    have ih := cauchy_ker n x y (fun j => u j * ((y j + y n) * (x n + y j).inv)) (fun i j hi hj => hx i j (by omega) (by omega)) (fun i j hi hj => hy i j (by omega) (by omega)) (fun i j hi hj => hxy i j (by omega) (by omega)) (fun i hi => by
      have e : sm n (fun j => u j * (x i + y j).inv) + u n * (x i + y n).inv = 0 := h i (by omega)
      have e3 : sm n (fun j => u j * (x i + y j).inv) + u n * (x i + y n).inv = (x i + x n) * (x i + y n).inv * sm n (fun j => u j * ((y j + y n) * (x n + y j).inv) * (x i + y j).inv) := by
        have a1 : u n * (x i + y n).inv = sm n (fun j => ((x n + y n) * (x i + y n).inv) * (u j * (x n + y j).inv)) := by
          rw [sm_mul, un]; ac_rfl
        rw [a1, ← sm_add, ← sm_mul]
        refine sm_congr n fun j hj => ?_
        have k := cauchy_key (nz i j (by omega) (by omega)) (nz i n (by omega) (by omega)) (nz n j (by omega) (by omega)) (yn := y n)
        have l1 : u j * (x i + y j).inv + ((x n + y n) * (x i + y n).inv) * (u j * (x n + y j).inv) = u j * ((x i + y j).inv + (x n + y n) * ((x i + y n).inv * (x n + y j).inv)) := by
          rw [mul_add]; congr 1; ac_rfl
        rw [l1, k]; ac_rfl
      rw [e3] at e
      refine mul_eq_zero (mul_ne (fun e' => hx i n (by omega) (by omega) (by omega) (add_eq_zero.1 e')) (inv_ne (nz i n (by omega) (by omega)))) e)
    have small : ∀ j, j < n → u j = 0 := fun j hj => by
      have e := ih j hj
      rw [mul_comm] at e
      exact mul_eq_zero (mul_ne (fun e' => hy j n (by omega) (by omega) (by omega) (add_eq_zero.1 e')) (inv_ne (nz n j (by omega) (by omega)))) e
    by_cases hjn : j < n
    · exact small j hjn
    · have : j = n := by omega
      subst this
      rw [un, sm_zero' _ (fun i hi => by rw [small i hi, zero_mul]), mul_zero]
end
end Go.Proofs.YtlobnmcjnaibaaaDoorR
