import Derived.Test.YtgmgpkpicfpdhaaIInv8
import Derived.Test.YtgmgpkpicfpdhaaCode
namespace Go.Proofs.Ytgmgpkpicfpdhaa
open Go.RowKit
/-! Products under names of their own. -/
theorem imulv8 (A B R : Nat) (hA : A < 256) (hB : B < 256) (HR : Hid (gm 8 29 A B = R)) (w : World) :
    Calls Try.prog 19 #[.int .i64 A, .int .i64 B] w fun e w' => e = .returned (.int .i64 R) ∧ Below w.heap.size w w' := by
  have := imul8 A B w; rw [mulI_nat (W := 8) hA hB, HR.out] at this; exact this
theorem smulv8 (A B R : Nat) (hA : A < 256) (hB : B < 256) (HR : Hid (gm 8 29 A B = R)) (w : World) :
    Calls Try.prog 20 #[.int .i64 A, .int .i64 B] w fun e w' => e = .returned (.int .i64 R) ∧ w' = w := by
  have := smul8 A B w; rw [mulI_nat (W := 8) hA hB, HR.out] at this; exact this
theorem iinvv8 (A R : Nat) (hA : A < 256) (HR : Hid (gp 8 29 A 254 = R)) (w : World) :
    Calls Try.prog 21 #[.int .i64 A] w fun e w' => e = .returned (.int .i64 R) ∧ Below w.heap.size w w' := by
  have h := iinv8 A w
  have e : invI 8 29 (A : Int) = (R : Int) := by
    unfold invI; rw [inT_of (T := 2 ^ 8) hA, if_pos rfl]; exact congrArg (fun x : Nat => (x : Int)) HR.out
  rw [e] at h; exact h
theorem prod_v8 (a b : Nat) (ha : a < 256) : ∃ r, r < 256 ∧ Hid (gm 8 29 a b = r) := ⟨_, gm_lt fld8.toFld b ha, rfl⟩
theorem pow_v8 (a n : Nat) (ha : a < 256) : ∃ r, r < 256 ∧ Hid (gp 8 29 a n = r) := ⟨_, gp_lt fld8.toFld ha n, rfl⟩
theorem xor_v8 (b c : Nat) (hb : b < 256) (hc : c < 256) : ∃ r, r < 256 ∧ Hid (b ^^^ c = r) ∧ bits .xor .i64 (b : Int) (c : Int) = (r : Int) :=
  ⟨_, Nat.xor_lt_two_pow (n := 8) hb hc, rfl, i64_xor_nat b c (by omega) (by omega)⟩
theorem comm_v8 {a b r : Nat} (ha : a < 256) (hb : b < 256) (H : Hid (gm 8 29 a b = r)) : Hid (gm 8 29 b a = r) := by
  show _ = _; rw [gm_comm fld8.toFld hb ha]; exact H.out
theorem assoc_v8 {a b c ab bc r : Nat} (ha : a < 256) (hb : b < 256) (hc : c < 256) (H1 : Hid (gm 8 29 a b = ab)) (H2 : Hid (gm 8 29 b c = bc)) (H : Hid (gm 8 29 ab c = r)) : Hid (gm 8 29 a bc = r) := by
  show _ = _; rw [← H2.out, ← gm_assoc fld8.toFld ha hb hc, H1.out]; exact H.out
theorem dist_v8 {a b c ab ac bxc P : Nat} (h1 : ab < 256) (h2 : ac < 256) (H1 : Hid (gm 8 29 a b = ab)) (H2 : Hid (gm 8 29 a c = ac)) (H3 : Hid (b ^^^ c = bxc)) (H : Hid (gm 8 29 a bxc = P)) : bits .xor .i64 (ab : Int) (ac : Int) = (P : Int) := by
  rw [i64_xor_nat ab ac (by omega) (by omega), ← H.out, ← H3.out, gm_xr, H1.out, H2.out]
theorem inv_v8 {a ia : Nat} (ha : a < 256) (h0 : ¬ a = 0) (H : Hid (gp 8 29 a 254 = ia)) : Hid (gm 8 29 a ia = 1) := by
  show _ = _; rw [← H.out]; exact inv8 ha h0
theorem add_v8 {a b c pb pc pbc : Nat} (ha : a < 256) (H1 : Hid (gp 8 29 a b = pb)) (H2 : Hid (gp 8 29 a c = pc)) (H : Hid (gp 8 29 a (b + c) = pbc)) : Hid (gm 8 29 pb pc = pbc) := by
  show _ = _; rw [← H.out, gp_add fld8.toFld ha, H1.out, H2.out]
end Go.Proofs.Ytgmgpkpicfpdhaa
