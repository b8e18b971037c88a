import Derived.Test.YtgmgpkpicfpdhaaIInv16
import Derived.Test.YtgmgpkpicfpdhaaCode
namespace Go.Proofs.Ytgmgpkpicfpdhaa
open Go.RowKit
/-! Products under names of their own. -/
theorem imulv16 (A B R : Nat) (hA : A < 65536) (hB : B < 65536) (HR : Hid (gm 16 4107 A B = R)) (w : World) :
    Calls Try.prog 23 #[.int .i64 A, .int .i64 B] w fun e w' => e = .returned (.int .i64 R) ∧ Below w.heap.size w w' := by
  have := imul16 A B w; rw [mulI_nat (W := 16) hA hB, HR.out] at this; exact this
theorem smulv16 (A B R : Nat) (hA : A < 65536) (hB : B < 65536) (HR : Hid (gm 16 4107 A B = R)) (w : World) :
    Calls Try.prog 24 #[.int .i64 A, .int .i64 B] w fun e w' => e = .returned (.int .i64 R) ∧ w' = w := by
  have := smul16 A B w; rw [mulI_nat (W := 16) hA hB, HR.out] at this; exact this
theorem iinvv16 (A R : Nat) (hA : A < 65536) (HR : Hid (gp 16 4107 A 65534 = R)) (w : World) :
    Calls Try.prog 25 #[.int .i64 A] w fun e w' => e = .returned (.int .i64 R) ∧ Below w.heap.size w w' := by
  have h := iinv16 A w
  have e : invI 16 4107 (A : Int) = (R : Int) := by
    unfold invI; rw [inT_of (T := 2 ^ 16) hA, if_pos rfl]; exact congrArg (fun x : Nat => (x : Int)) HR.out
  rw [e] at h; exact h
theorem prod_v16 (a b : Nat) (ha : a < 65536) : ∃ r, r < 65536 ∧ Hid (gm 16 4107 a b = r) := ⟨_, gm_lt fld16.toFld b ha, rfl⟩
theorem pow_v16 (a n : Nat) (ha : a < 65536) : ∃ r, r < 65536 ∧ Hid (gp 16 4107 a n = r) := ⟨_, gp_lt fld16.toFld ha n, rfl⟩
theorem xor_v16 (b c : Nat) (hb : b < 65536) (hc : c < 65536) : ∃ r, r < 65536 ∧ Hid (b ^^^ c = r) ∧ bits .xor .i64 (b : Int) (c : Int) = (r : Int) :=
  ⟨_, Nat.xor_lt_two_pow (n := 16) hb hc, rfl, i64_xor_nat b c (by omega) (by omega)⟩
theorem comm_v16 {a b r : Nat} (ha : a < 65536) (hb : b < 65536) (H : Hid (gm 16 4107 a b = r)) : Hid (gm 16 4107 b a = r) := by
  show _ = _; rw [gm_comm fld16.toFld hb ha]; exact H.out
theorem assoc_v16 {a b c ab bc r : Nat} (ha : a < 65536) (hb : b < 65536) (hc : c < 65536) (H1 : Hid (gm 16 4107 a b = ab)) (H2 : Hid (gm 16 4107 b c = bc)) (H : Hid (gm 16 4107 ab c = r)) : Hid (gm 16 4107 a bc = r) := by
  show _ = _; rw [← H2.out, ← gm_assoc fld16.toFld ha hb hc, H1.out]; exact H.out
theorem dist_v16 {a b c ab ac bxc P : Nat} (h1 : ab < 65536) (h2 : ac < 65536) (H1 : Hid (gm 16 4107 a b = ab)) (H2 : Hid (gm 16 4107 a c = ac)) (H3 : Hid (b ^^^ c = bxc)) (H : Hid (gm 16 4107 a bxc = P)) : bits .xor .i64 (ab : Int) (ac : Int) = (P : Int) := by
  rw [i64_xor_nat ab ac (by omega) (by omega), ← H.out, ← H3.out, gm_xr, H1.out, H2.out]
theorem inv_v16 {a ia : Nat} (ha : a < 65536) (h0 : ¬ a = 0) (H : Hid (gp 16 4107 a 65534 = ia)) : Hid (gm 16 4107 a ia = 1) := by
  show _ = _; rw [← H.out]; exact inv16 ha h0
theorem add_v16 {a b c pb pc pbc : Nat} (ha : a < 65536) (H1 : Hid (gp 16 4107 a b = pb)) (H2 : Hid (gp 16 4107 a c = pc)) (H : Hid (gp 16 4107 a (b + c) = pbc)) : Hid (gm 16 4107 pb pc = pbc) := by
  show _ = _; rw [← H.out, gp_add fld16.toFld ha, H1.out, H2.out]
end Go.Proofs.Ytgmgpkpicfpdhaa
