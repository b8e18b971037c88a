namespace Go.Proofs.Ytjeahllaajpddaa
/-! Numbers as polynomials over two elements, modulo one of degree w (its part below the highest term: lo). -/
/-- times x -/
def xt (w lo a : Nat) : Nat := (2 * a % 2 ^ w) ^^^ (if a.testBit (w - 1) then lo else 0)
/-- the product, n bits of b -/
def mulR (w lo : Nat) : Nat → Nat → Nat → Nat
  | 0, _, _ => 0
  | n + 1, a, b => (if b % 2 = 1 then a else 0) ^^^ mulR w lo n (xt w lo a) (b / 2)
def gm (w lo a b : Nat) : Nat := mulR w lo w a b
def gp (w lo a : Nat) : Nat → Nat
  | 0 => 1
  | n + 1 => gm w lo (gp w lo a n) a
theorem x4 (a b c d : Nat) : (a ^^^ b) ^^^ (c ^^^ d) = (a ^^^ c) ^^^ (b ^^^ d) := by
  rw [Nat.xor_assoc, Nat.xor_assoc, ← Nat.xor_assoc b, Nat.xor_comm b c, Nat.xor_assoc]
theorem ite_x (p q : Bool) (c : Nat) : (if (p ^^ q) = true then c else 0) = (if p = true then c else 0) ^^^ (if q = true then c else 0) := by
  cases p <;> cases q <;> simp
theorem xt_x (w lo a b : Nat) : xt w lo (a ^^^ b) = xt w lo a ^^^ xt w lo b := by
  unfold xt
  rw [Nat.testBit_xor, ite_x, x4]
  congr 1
  have h : ∀ x, 2 * x = x <<< 1 := fun x => by rw [Nat.shiftLeft_eq]; omega
  rw [h, h, h, Nat.shiftLeft_xor_distrib, Nat.xor_mod_two_pow]
theorem xt_lt (w lo a : Nat) (hl : lo < 2 ^ w) : xt w lo a < 2 ^ w := by
  unfold xt
  refine Nat.xor_lt_two_pow (Nat.mod_lt _ (Nat.two_pow_pos w)) ?_
  split
  · exact hl
  · exact Nat.two_pow_pos w
theorem mulR_lt (w lo : Nat) (hl : lo < 2 ^ w) : ∀ (n a b : Nat), a < 2 ^ w → mulR w lo n a b < 2 ^ w
  | 0, _, _, _ => Nat.two_pow_pos w
  | n + 1, a, b, h => by
    unfold mulR
    refine Nat.xor_lt_two_pow ?_ (mulR_lt w lo hl n _ _ (xt_lt w lo a hl))
    split
    · exact h
    · exact Nat.two_pow_pos w
theorem mulR_xl (w lo : Nat) : ∀ (n a a' b : Nat), mulR w lo n (a ^^^ a') b = mulR w lo n a b ^^^ mulR w lo n a' b
  | 0, _, _, _ => by simp [mulR]
  | n + 1, a, a', b => by
    unfold mulR
    rw [xt_x, mulR_xl w lo n, x4]
    congr 1
    split <;> simp
theorem mod2_x (b c : Nat) : (b ^^^ c) % 2 = (b % 2) ^^^ (c % 2) := Nat.xor_mod_two_pow (n := 1)
theorem div2_x (b c : Nat) : (b ^^^ c) / 2 = (b / 2) ^^^ (c / 2) := by
  have := Nat.shiftRight_xor_distrib (a := b) (b := c) (i := 1)
  simpa [Nat.shiftRight_eq_div_pow] using this
theorem mulR_xr (w lo : Nat) : ∀ (n a b b' : Nat), mulR w lo n a (b ^^^ b') = mulR w lo n a b ^^^ mulR w lo n a b'
  | 0, _, _, _ => by simp [mulR]
  | n + 1, a, b, b' => by
    unfold mulR
    rw [div2_x, mulR_xr w lo n, x4]
    congr 1
    rw [mod2_x]
    rcases Nat.mod_two_eq_zero_or_one b with h | h <;> rcases Nat.mod_two_eq_zero_or_one b' with h' | h' <;> simp [h, h']
/-- Two maps that go over sums and agree on the powers of two agree. -/
theorem lin_ext (f g : Nat → Nat) : ∀ (w : Nat), (∀ a b, f (a ^^^ b) = f a ^^^ f b) → (∀ a b, g (a ^^^ b) = g a ^^^ g b) → (∀ k, k < w → f (2 ^ k) = g (2 ^ k)) → ∀ a, a < 2 ^ w → f a = g a
  | 0, hf, hg, _, a, ha => by
    have h0 : a = 0 := by simpa using ha
    have e1 : f 0 = 0 := by have := hf 0 0; simpa using this
    have e2 : g 0 = 0 := by have := hg 0 0; simpa using this
    rw [h0, e1, e2]
  | w + 1, hf, hg, hk, a, ha => by
    have ih := lin_ext f g w hf hg (fun k h => hk k (by omega))
    by_cases h : a < 2 ^ w
    · exact ih a h
    · have e : a = 2 ^ w ^^^ (a ^^^ 2 ^ w) := by rw [Nat.xor_comm a, ← Nat.xor_assoc, Nat.xor_self, Nat.zero_xor]
      have ht : a.testBit w = true := by
        rw [Nat.testBit_eq_decide_div_mod_eq]
        have : a / 2 ^ w = 1 := by
          rw [Nat.pow_succ] at ha
          exact Nat.div_eq_of_lt_le (by omega) (by omega)
        simp [this]
      have hlt : a ^^^ 2 ^ w < 2 ^ w := by
        refine Nat.lt_pow_two_of_testBit _ fun i hi => ?_
        rw [Nat.testBit_xor, Nat.testBit_two_pow]
        by_cases hiw : w = i
        · subst hiw; simp [ht]
        · have : a.testBit i = false := Nat.testBit_lt_two_pow (Nat.lt_of_lt_of_le ha (Nat.pow_le_pow_right (by omega) (by omega)))
          simp [this, hiw]
      rw [e, hf, hg, ih _ hlt, hk w (by omega)]
/-- What the two moduli keep. -/
structure Fld (w lo : Nat) : Prop where
  pos : 1 ≤ w
  lt : lo < 2 ^ w
  comm2 : ∀ j, j < w → ∀ k, k < w → gm w lo (2 ^ j) (2 ^ k) = gm w lo (2 ^ k) (2 ^ j)
section
variable {w lo : Nat}
theorem gm_lt (F : Fld w lo) {a : Nat} (b : Nat) (h : a < 2 ^ w) : gm w lo a b < 2 ^ w := mulR_lt w lo F.lt w a b h
theorem gm_xl (a a' b : Nat) : gm w lo (a ^^^ a') b = gm w lo a b ^^^ gm w lo a' b := mulR_xl w lo w a a' b
theorem gm_xr (a b b' : Nat) : gm w lo a (b ^^^ b') = gm w lo a b ^^^ gm w lo a b' := mulR_xr w lo w a b b'
theorem gm_comm (F : Fld w lo) {a b : Nat} (ha : a < 2 ^ w) (hb : b < 2 ^ w) : gm w lo a b = gm w lo b a := by
  refine lin_ext (fun a => gm w lo a b) (fun a => gm w lo b a) w (fun x y => gm_xl x y b) (fun x y => gm_xr b x y) (fun k hk => ?_) a ha
  exact lin_ext (fun b => gm w lo (2 ^ k) b) (fun b => gm w lo b (2 ^ k)) w (fun x y => gm_xr _ x y) (fun x y => gm_xl x y _) (fun j hj => F.comm2 k hk j hj) b hb
def itx (w lo : Nat) : Nat → Nat → Nat
  | 0, a => a
  | n + 1, a => itx w lo n (xt w lo a)
theorem itx_lt (F : Fld w lo) : ∀ (k a : Nat), a < 2 ^ w → itx w lo k a < 2 ^ w
  | 0, _, h => h
  | k + 1, a, _ => itx_lt F k _ (xt_lt w lo a F.lt)
theorem mulR_zero (w lo : Nat) : ∀ (n a : Nat), mulR w lo n a 0 = 0
  | 0, _ => rfl
  | n + 1, a => by unfold mulR; simp [mulR_zero w lo n]
theorem mulR_pow (w lo : Nat) : ∀ (n k a : Nat), k < n → mulR w lo n a (2 ^ k) = itx w lo k a
  | 0, _, _, h => absurd h (Nat.not_lt_zero _)
  | n + 1, 0, a, _ => by unfold mulR; simp [mulR_zero, itx]
  | n + 1, k + 1, a, h => by
    unfold mulR
    have e : 2 ^ (k + 1) / 2 = 2 ^ k := by rw [Nat.pow_succ]; omega
    have e2 : 2 ^ (k + 1) % 2 = 0 := by rw [Nat.pow_succ]; omega
    rw [e, e2, mulR_pow w lo n k _ (by omega)]
    simp [itx]
theorem mulR_xt (w lo : Nat) : ∀ (n a b : Nat), mulR w lo n (xt w lo a) b = xt w lo (mulR w lo n a b)
  | 0, _, _ => by simp [mulR, xt]
  | n + 1, a, b => by
    unfold mulR
    rw [xt_x, mulR_xt w lo n]
    congr 1
    split <;> simp [xt]
theorem gm_xt (a b : Nat) : gm w lo (xt w lo a) b = xt w lo (gm w lo a b) := mulR_xt w lo w a b
theorem gm_itx : ∀ (k a b : Nat), gm w lo (itx w lo k a) b = itx w lo k (gm w lo a b)
  | 0, _, _ => rfl
  | k + 1, a, b => by
    show gm w lo (itx w lo k (xt w lo a)) b = itx w lo k (xt w lo (gm w lo a b))
    rw [gm_itx k, gm_xt]
theorem gm_pow (a : Nat) {k : Nat} (h : k < w) : gm w lo a (2 ^ k) = itx w lo k a := mulR_pow w lo w k a h
theorem gm_assoc (F : Fld w lo) {a b c : Nat} (ha : a < 2 ^ w) (hb : b < 2 ^ w) (hc : c < 2 ^ w) : gm w lo (gm w lo a b) c = gm w lo a (gm w lo b c) := by
  refine lin_ext (fun c => gm w lo (gm w lo a b) c) (fun c => gm w lo a (gm w lo b c)) w (fun x y => gm_xr _ x y) (fun x y => by show gm w lo a (gm w lo b (x ^^^ y)) = _; rw [gm_xr, gm_xr]) (fun k hk => ?_) c hc
  show gm w lo (gm w lo a b) (2 ^ k) = gm w lo a (gm w lo b (2 ^ k))
  rw [gm_pow _ hk, gm_pow _ hk, gm_comm F ha (itx_lt F k b hb), gm_itx, gm_comm F hb ha]
theorem one_lt (F : Fld w lo) : 1 < 2 ^ w := by
  have := Nat.pow_le_pow_right (n := 2) (by omega) F.pos
  omega
theorem gm_one (F : Fld w lo) (a : Nat) : gm w lo a 1 = a := by
  have := gm_pow (w := w) (lo := lo) a (k := 0) F.pos
  simpa [itx] using this
theorem one_gm (F : Fld w lo) {a : Nat} (ha : a < 2 ^ w) : gm w lo 1 a = a := by
  rw [gm_comm F (one_lt F) ha, gm_one F]
theorem gm_zero (a : Nat) : gm w lo a 0 = 0 := mulR_zero w lo w a
theorem zero_gm (F : Fld w lo) {a : Nat} (ha : a < 2 ^ w) : gm w lo 0 a = 0 := by
  rw [gm_comm F (Nat.two_pow_pos w) ha, gm_zero]
/-! powers -/
theorem gp_lt (F : Fld w lo) {a : Nat} (ha : a < 2 ^ w) : ∀ n, gp w lo a n < 2 ^ w
  | 0 => one_lt F
  | n + 1 => gm_lt F a (gp_lt F ha n)
theorem gp_one (F : Fld w lo) {a : Nat} (ha : a < 2 ^ w) : gp w lo a 1 = a := one_gm F ha
theorem gp_add (F : Fld w lo) {a : Nat} (ha : a < 2 ^ w) (m : Nat) : ∀ n, gp w lo a (m + n) = gm w lo (gp w lo a m) (gp w lo a n)
  | 0 => by show _ = gm w lo _ 1; rw [gm_one F]; rfl
  | n + 1 => by
    show gm w lo (gp w lo a (m + n)) a = gm w lo _ (gm w lo (gp w lo a n) a)
    rw [gp_add F ha m n, gm_assoc F (gp_lt F ha m) (gp_lt F ha n) ha]
theorem gp_mul (F : Fld w lo) {a : Nat} (ha : a < 2 ^ w) (m : Nat) : ∀ n, gp w lo a (m * n) = gp w lo (gp w lo a m) n
  | 0 => rfl
  | n + 1 => by
    show gp w lo a (m * n + m) = gm w lo (gp w lo (gp w lo a m) n) (gp w lo a m)
    rw [gp_add F ha, gp_mul F ha m n]
theorem gp_zero {n : Nat} (h : 0 < n) : gp w lo 0 n = 0 := by
  cases n with
  | zero => exact absurd h (Nat.lt_irrefl _)
  | succ n => exact gm_zero _
theorem gp_onen (F : Fld w lo) : ∀ n, gp w lo 1 n = 1
  | 0 => rfl
  | n + 1 => by show gm w lo (gp w lo 1 n) 1 = 1; rw [gp_onen F n, gm_one F]
/-- a squared n times over -/
def sqs (w lo : Nat) : Nat → Nat → Nat
  | 0, a => a
  | n + 1, a => sqs w lo n (gm w lo a a)
theorem sqs_x (F : Fld w lo) : ∀ (n : Nat) {a b : Nat}, a < 2 ^ w → b < 2 ^ w → sqs w lo n (a ^^^ b) = sqs w lo n a ^^^ sqs w lo n b
  | 0, _, _, _, _ => rfl
  | n + 1, a, b, ha, hb => by
    show sqs w lo n (gm w lo (a ^^^ b) (a ^^^ b)) = _
    rw [gm_xl, gm_xr, gm_xr, gm_comm F hb ha, ← Nat.xor_assoc, Nat.xor_assoc (gm w lo a a), Nat.xor_self, Nat.xor_zero, sqs_x F n (gm_lt F a ha) (gm_lt F b hb)]
    rfl
theorem sqs_gp (F : Fld w lo) : ∀ (n : Nat) {a : Nat}, a < 2 ^ w → sqs w lo n a = gp w lo a (2 ^ n)
  | 0, a, ha => by show a = gp w lo a 1; rw [gp_one F ha]
  | n + 1, a, ha => by
    show sqs w lo n (gm w lo a a) = _
    have e : 2 ^ (n + 1) = 2 * 2 ^ n := by rw [Nat.pow_succ, Nat.mul_comm]
    rw [sqs_gp F n (gm_lt F a ha), e, gp_mul F ha]
    congr 1
    show _ = gm w lo (gp w lo a 1) a
    rw [gp_one F ha]
/-- y through a table of a linear map -/
def tabl : List Nat → Nat → Nat
  | [], _ => 0
  | t :: l, y => (if y % 2 = 1 then t else 0) ^^^ tabl l (y / 2)
theorem tabl_x : ∀ (l : List Nat) (a b : Nat), tabl l (a ^^^ b) = tabl l a ^^^ tabl l b
  | [], _, _ => by simp [tabl]
  | t :: l, a, b => by
    unfold tabl
    rw [div2_x, tabl_x l, x4]
    congr 1
    rw [mod2_x]
    rcases Nat.mod_two_eq_zero_or_one a with h | h <;> rcases Nat.mod_two_eq_zero_or_one b with h' | h' <;> simp [h, h']
end
/-- the whole: Frobenius comes round, and what is its own square is 0 or 1 -/
structure Fld2 (w lo : Nat) : Prop extends Fld w lo where
  round : ∀ k, k < w → sqs w lo w (2 ^ k) = 2 ^ k
  left : ∃ l, ∀ k, k < w → tabl l (gm w lo (2 ^ k) (2 ^ k) ^^^ 2 ^ k) ^^^ (2 ^ k % 2) = 2 ^ k
section
variable {w lo : Nat}
theorem lt_x {a b : Nat} (ha : a < 2 ^ w) (hb : b < 2 ^ w) : a ^^^ b < 2 ^ w := Nat.xor_lt_two_pow ha hb
/-- lin_ext, within the width -/
theorem lin_ext' (f g : Nat → Nat) (hf : ∀ a b, a < 2 ^ w → b < 2 ^ w → f (a ^^^ b) = f a ^^^ f b) (hg : ∀ a b, a < 2 ^ w → b < 2 ^ w → g (a ^^^ b) = g a ^^^ g b) (hk : ∀ k, k < w → f (2 ^ k) = g (2 ^ k)) (a : Nat) (ha : a < 2 ^ w) : f a = g a := by
  have hm : ∀ a, a < 2 ^ w → a % 2 ^ w = a := fun a h => Nat.mod_eq_of_lt h
  have hp : ∀ a : Nat, a % 2 ^ w < 2 ^ w := fun a => Nat.mod_lt _ (Nat.two_pow_pos w)
  have := lin_ext (fun a => f (a % 2 ^ w)) (fun a => g (a % 2 ^ w)) w
    (fun a b => by show f _ = _; rw [Nat.xor_mod_two_pow, hf _ _ (hp a) (hp b)])
    (fun a b => by show g _ = _; rw [Nat.xor_mod_two_pow, hg _ _ (hp a) (hp b)])
    (fun k h => by show f _ = g _; rw [hm _ (Nat.pow_lt_pow_right (by omega) h)]; exact hk k h) a ha
  simpa [hm a ha] using this
theorem round_all (F : Fld2 w lo) {a : Nat} (ha : a < 2 ^ w) : sqs w lo w a = a :=
  lin_ext' (fun a => sqs w lo w a) (fun a => a) (fun _ _ h1 h2 => sqs_x F.toFld w h1 h2) (fun _ _ _ _ => rfl) (fun k h => F.round k h) a ha
theorem round_gp (F : Fld2 w lo) {a : Nat} (ha : a < 2 ^ w) : gp w lo a (2 ^ w) = a := by rw [← sqs_gp F.toFld w ha, round_all F ha]
theorem idem (F : Fld2 w lo) {s : Nat} (hs : s < 2 ^ w) (h : gm w lo s s = s) : s = 0 ∨ s = 1 := by
  obtain ⟨l, hl⟩ := F.left
  have := lin_ext' (w := w) (fun s => tabl l (gm w lo s s ^^^ s) ^^^ (s % 2)) (fun s => s)
    (fun a b ha hb => by
      show tabl l (gm w lo (a ^^^ b) (a ^^^ b) ^^^ (a ^^^ b)) ^^^ ((a ^^^ b) % 2) = _
      have e : gm w lo (a ^^^ b) (a ^^^ b) = gm w lo a a ^^^ gm w lo b b := sqs_x F.toFld 1 ha hb
      rw [e, x4, tabl_x, mod2_x, x4]) (fun _ _ _ _ => rfl) hl s hs
  simp only [h, Nat.xor_self] at this
  have z : tabl l 0 = 0 := by have := tabl_x l 0 0; simpa using this
  rw [z, Nat.zero_xor] at this
  omega
theorem nilp (F : Fld2 w lo) {a m : Nat} (ha : a < 2 ^ w) (hm : m ≤ 2 ^ w) (h : gp w lo a m = 0) : a = 0 := by
  have e := round_gp F ha
  rw [show 2 ^ w = m + (2 ^ w - m) by omega, gp_add F.toFld ha, h, zero_gm F.toFld (gp_lt F.toFld ha _)] at e
  exact e.symm
theorem tower (F : Fld2 w lo) (k : Nat) (hk : 2 ^ k + 1 ≤ 2 ^ w) (h : ∀ u, u < 2 ^ w → u ≠ 0 → gp w lo u (2 ^ k) = u → gp w lo u (2 ^ k - 1) = 1) (u : Nat) (hu : u < 2 ^ w) (h0 : u ≠ 0) (hf : gp w lo u (2 ^ (k + k)) = u) : gp w lo u (2 ^ (k + k) - 1) = 1 := by
  have F1 := F.toFld
  have hN := gp_lt F1 hu (2 ^ k + 1)
  have e1 : gp w lo (gp w lo u (2 ^ k + 1)) (2 ^ k) = gp w lo u (2 ^ k + 1) := by
    rw [← gp_mul F1 hu, Nat.add_mul, Nat.one_mul, ← Nat.pow_add, gp_add F1 hu, hf]
    show _ = gm w lo (gp w lo u (2 ^ k)) u
    rw [gm_comm F1 hu (gp_lt F1 hu _)]
  have e2 := h _ hN (fun hz => h0 (nilp F hu hk hz)) e1
  rw [← gp_mul F1 hu] at e2
  have : (2 ^ k + 1) * (2 ^ k - 1) = 2 ^ (k + k) - 1 := by
    have hp := Nat.two_pow_pos k
    rw [Nat.pow_add]
    generalize 2 ^ k = n at *
    obtain ⟨m, rfl⟩ : ∃ m, n = m + 1 := ⟨n - 1, by omega⟩
    simp [Nat.mul_add, Nat.add_mul]
  rw [this] at e2
  exact e2
theorem tower0 (F : Fld2 w lo) (u : Nat) (hu : u < 2 ^ w) (h0 : u ≠ 0) (hf : gp w lo u (2 ^ 1) = u) : gp w lo u (2 ^ 1 - 1) = 1 := by
  show gp w lo u 1 = 1
  have e : gm w lo (gp w lo u 1) u = u := hf
  rw [gp_one F.toFld hu] at e
  rw [gp_one F.toFld hu]
  rcases idem F hu e with h | h
  · exact absurd h h0
  · exact h
end
theorem fld8 : Fld2 8 29 where
  pos := by decide
  lt := by decide
  comm2 := by decide +kernel
  round := by decide +kernel
  left := ⟨[214, 232, 234, 44, 238, 0, 36, 80], by decide +kernel⟩
theorem fld16 : Fld2 16 4107 where
  pos := by decide
  lt := by decide
  comm2 := by decide +kernel
  round := by decide +kernel
  left := ⟨[350, 42420, 42422, 7412, 42418, 10272, 7420, 1328, 42402, 38610, 10240, 5068, 7356, 0, 1456, 21936], by decide +kernel⟩
theorem order8 {u : Nat} (hu : u < 256) (h0 : u ≠ 0) : gp 8 29 u 255 = 1 :=
  have F := fld8
  tower F 4 (by decide) (fun u a b c => tower F 2 (by decide) (fun u a b c => tower F 1 (by decide) (tower0 F) u a b c) u a b c) u hu h0 (round_gp F hu)
theorem order16 {u : Nat} (hu : u < 65536) (h0 : u ≠ 0) : gp 16 4107 u 65535 = 1 :=
  have F := fld16
  tower F 8 (by decide) (fun u a b c => tower F 4 (by decide) (fun u a b c => tower F 2 (by decide) (fun u a b c => tower F 1 (by decide) (tower0 F) u a b c) u a b c) u a b c) u hu h0 (round_gp F hu)
/-- the inverse -/
theorem inv8 {u : Nat} (hu : u < 256) (h0 : u ≠ 0) : gm 8 29 u (gp 8 29 u 254) = 1 := by
  rw [gm_comm fld8.toFld hu (gp_lt fld8.toFld hu 254)]
  exact order8 hu h0
theorem inv16 {u : Nat} (hu : u < 65536) (h0 : u ≠ 0) : gm 16 4107 u (gp 16 4107 u 65534) = 1 := by
  rw [gm_comm fld16.toFld hu (gp_lt fld16.toFld hu 65534)]
  exact order16 hu h0
theorem inv8_one {u x : Nat} (hu : u < 256) (hx : x < 256) (h : gm 8 29 u x = 1) : x = gp 8 29 u 254 := by
  have F := fld8.toFld
  have h0 : u ≠ 0 := by rintro rfl; rw [zero_gm F hx] at h; exact absurd h (by decide)
  have hp := gp_lt F hu 254
  have e := gm_assoc F hp hu hx
  rw [h, gm_one F, gm_comm F hp hu, inv8 hu h0, one_gm F hx] at e
  exact e
end Go.Proofs.Ytjeahllaajpddaa
