import Derived.Test.YtofkfepfoieohaaDoorDecN
import Derived.Test.YtofkfepfoieohaaDoorFmShl
namespace Go.Proofs.YtofkfepfoieohaaDoor
open Go.RowKit
set_option linter.unusedVariables false
/-! AnswerText. -/
def itB (z : Int) : ByteArray := ⟨(Lib.itoa z).toArray⟩
def ansT (s i : Int) (b : ByteArray) : ByteArray :=
  if 400000 < b.size then ⟨#[]⟩ else itB s ++ ⟨#[32]⟩ ++ itB i ++ ⟨#[32]⟩ ++ itB b.size ++ ⟨#[10]⟩ ++ b
theorem itB_size (z : Int) (h0 : -9223372036854775808 ≤ z) (h1 : z ≤ 9223372036854775807) : (itB z).size ≤ 40 := by
  have h : ∀ (d u : Nat), u < 10 ^ (d + 1) → Lib.nDigits u ≤ d + 1 := by
    intro d
    induction d with
    | zero => intro u hu; rw [Lib.nDigits_small (by simpa using hu)]; omega
    | succ d ih =>
      intro u hu
      rw [Lib.nDigits]
      by_cases h : u < 10
      · rw [dif_pos h]; omega
      · rw [dif_neg h]
        have := ih (u / 10) (by rw [Nat.pow_succ] at hu; omega)
        omega
  have e : (itB z).size = (Lib.itoa z).length := by unfold itB; show (Lib.itoa z).toArray.size = _; simp
  rw [e]
  unfold Lib.itoa
  split
  · rw [List.length_cons, Lib.decDigits_length]
    have := h 18 z.natAbs (by omega)
    omega
  · rw [Lib.decDigits_length]
    have := h 18 z.toNat (by omega)
    omega
set_option maxRecDepth 20000 in
set_option maxHeartbeats 2000000 in
theorem sAns (s i : Int) (b : ByteArray) (s0 : -9223372036854775808 ≤ s) (s1 : s ≤ 9223372036854775807) (i0 : -9223372036854775808 ≤ i) (i1 : i ≤ 9223372036854775807) (hb : b.size ≤ 1048576) (w : World) :
    Calls Tryd.prog 4 #[.int .i64 s, .int .i64 i, .string b] w fun e w' => e = .returned (.string (ansT s i b)) ∧ Below w.heap.size w w' := by
  by_cases hl : 400000 < b.size
  · have hl' : (400000 : Int) < (b.size : Int) := by omega
    have E : Hid (ansT s i b = ⟨#[]⟩) := by show _ = _; unfold ansT; rw [if_pos hl]
    go_enter Tryd.func4, Tryd.ntmps4
    go_wp2
    go_ret
    exact ⟨by rw [E.out]; rfl, Below.refl _ _⟩
  · have hl' : ¬ (400000 : Int) < (b.size : Int) := by omega
    have E : Hid (ansT s i b = itB s ++ ⟨#[32]⟩ ++ itB i ++ ⟨#[32]⟩ ++ itB b.size ++ ⟨#[10]⟩ ++ b) := by show _ = _; unfold ansT; rw [if_neg hl]
    have n1 := itB_size s s0 s1
    have n2 := itB_size i i0 i1
    have n3 := itB_size b.size (by omega) (by omega)
    have K1 := hid (sDecZ s s0 s1)
    have K2 := hid (sDecZ i i0 i1)
    have K3 := hid (sDecZ b.size (by omega) (by omega))
    obtain ⟨A, hA⟩ : ∃ A, A = itB s := ⟨_, rfl⟩
    obtain ⟨B, hB⟩ : ∃ B, B = itB i := ⟨_, rfl⟩
    obtain ⟨C, hC⟩ : ∃ C, C = itB b.size := ⟨_, rfl⟩
    rw [← hA, ← hB, ← hC] at E
    rw [← hA] at n1
    rw [← hB] at n2
    rw [← hC] at n3
    have HA := hid hA
    have HB := hid hB
    have HC := hid hC
    clear hA hB hC hl
    have z0 : ¬ 9223372036854775807 < A.size + 1 := by omega
    have z1 : ¬ 9223372036854775807 < A.size + 1 + B.size := by omega
    have z2 : ¬ 9223372036854775807 < A.size + 1 + B.size + 1 := by omega
    have z3 : ¬ 9223372036854775807 < A.size + 1 + B.size + 1 + C.size := by omega
    have z4 : ¬ 9223372036854775807 < A.size + 1 + B.size + 1 + C.size + 1 := by omega
    have z5 : ¬ 9223372036854775807 < A.size + 1 + B.size + 1 + C.size + 1 + b.size := by omega
    go_enter Tryd.func4, Tryd.ntmps4
    go_wp2_with fail
    refine (K1.out w).mono ?_
    rintro e w1 ⟨⟨t1, rfl, e1, _⟩, hb1⟩
    obtain rfl : t1 = A := by rw [e1, HA.out]; rfl
    have B1 := hid hb1
    clear hb1 e1
    go_wp2_with fail
    refine (K2.out w1).mono ?_
    rintro e w2 ⟨⟨t2, rfl, e2, _⟩, hb2⟩
    obtain rfl : t2 = B := by rw [e2, HB.out]; rfl
    have B2 := hid (B1.out.trans (hb2.mono B1.out.size))
    clear hb2 e2
    go_wp2_with fail
    refine (K3.out w2).mono ?_
    rintro e w3 ⟨⟨t3, rfl, e3, _⟩, hb3⟩
    obtain rfl : t3 = C := by rw [e3, HC.out]; rfl
    have B3 := hid (B2.out.trans (hb3.mono B2.out.size))
    clear hb3 e3
    go_wp2
    go_ret
    exact ⟨by rw [E.out]; rfl, B3.out⟩
set_option maxRecDepth 20000 in
set_option maxHeartbeats 2000000 in
theorem iAns (s i : Int) (b : ByteArray) (s0 : -9223372036854775808 ≤ s) (s1 : s ≤ 9223372036854775807) (i0 : -9223372036854775808 ≤ i) (i1 : i ≤ 9223372036854775807) (hb : b.size ≤ 1048576) (w : World) (hT : TB w) :
    Calls Tryd.prog 5 #[.int .i64 s, .int .i64 i, .string b] w fun e w' => e = .returned (.string (ansT s i b)) ∧ Below w.heap.size w w' := by
  by_cases hl : 400000 < b.size
  · have hl' : (400000 : Int) < (b.size : Int) := by omega
    have E : Hid (ansT s i b = ⟨#[]⟩) := by show _ = _; unfold ansT; rw [if_pos hl]
    go_enter Tryd.func5, Tryd.ntmps5
    go_wp2
    go_ret
    exact ⟨by rw [E.out]; rfl, Below.refl _ _⟩
  · have hl' : ¬ (400000 : Int) < (b.size : Int) := by omega
    have E : Hid (ansT s i b = itB s ++ ⟨#[32]⟩ ++ itB i ++ ⟨#[32]⟩ ++ itB b.size ++ ⟨#[10]⟩ ++ b) := by show _ = _; unfold ansT; rw [if_neg hl]
    have n1 := itB_size s s0 s1
    have n2 := itB_size i i0 i1
    have n3 := itB_size b.size (by omega) (by omega)
    have K1 := hid (iDecmZ s s0 s1)
    have K2 := hid (iDecmZ i i0 i1)
    have K3 := hid (iDecmZ b.size (by omega) (by omega))
    have HT := hid hT
    obtain ⟨A, hA⟩ : ∃ A, A = itB s := ⟨_, rfl⟩
    obtain ⟨B, hB⟩ : ∃ B, B = itB i := ⟨_, rfl⟩
    obtain ⟨C, hC⟩ : ∃ C, C = itB b.size := ⟨_, rfl⟩
    rw [← hA, ← hB, ← hC] at E
    rw [← hA] at n1
    rw [← hB] at n2
    rw [← hC] at n3
    have HA : Hid (⟨(Lib.itoa s).toArray⟩ = A) := hA.symm
    have HB : Hid (⟨(Lib.itoa i).toArray⟩ = B) := hB.symm
    have HC : Hid (⟨(Lib.itoa b.size).toArray⟩ = C) := hC.symm
    clear hA hB hC hl hT
    have z0 : ¬ 9223372036854775807 < A.size + 1 := by omega
    have z1 : ¬ 9223372036854775807 < A.size + 1 + B.size := by omega
    have z2 : ¬ 9223372036854775807 < A.size + 1 + B.size + 1 := by omega
    have z3 : ¬ 9223372036854775807 < A.size + 1 + B.size + 1 + C.size := by omega
    have z4 : ¬ 9223372036854775807 < A.size + 1 + B.size + 1 + C.size + 1 := by omega
    have z5 : ¬ 9223372036854775807 < A.size + 1 + B.size + 1 + C.size + 1 + b.size := by omega
    go_enter Tryd.func5, Tryd.ntmps5
    go_wp2_with fail
    refine (K1.out w HT.out).mono ?_
    rintro e w1 ⟨rfl, hb1⟩
    rw [HA.out]
    have B1 := hid hb1
    clear hb1
    go_wp2_with fail
    refine (K2.out w1 (HT.out.below B1.out)).mono ?_
    rintro e w2 ⟨rfl, hb2⟩
    rw [HB.out]
    have B2 := hid (B1.out.trans (hb2.mono B1.out.size))
    clear hb2
    go_wp2_with fail
    refine (K3.out w2 (HT.out.below B2.out)).mono ?_
    rintro e w3 ⟨rfl, hb3⟩
    rw [HC.out]
    have B3 := hid (B2.out.trans (hb3.mono B2.out.size))
    clear hb3
    go_wp2
    go_ret
    exact ⟨by rw [E.out]; rfl, B3.out⟩
theorem int_wf {z : Int} (h : (Lit.int .i64 z).wf = true) : -9223372036854775808 ≤ z ∧ z ≤ 9223372036854775807 := by
  have a : IntKind.i64.min = -9223372036854775808 := rfl
  have b : IntKind.i64.max = 9223372036854775807 := rfl
  have h2 : (decide (IntKind.i64.min ≤ z) && decide (z ≤ IntKind.i64.max)) = true := h
  rw [a, b] at h2
  simpa using h2
set_option maxRecDepth 20000 in
set_option maxHeartbeats 2000000 in
theorem fnExactAnswerText_walk {w : World} (hT : TB w) (s : Int) (ws : (Lit.int .i64 s).wf = true) (i : Int) (wi : (Lit.int .i64 i).wf = true) (b : ByteArray) (_wb : b.size ≤ maxLen) :
    Calls Tryd.prog 3 #[.int .i64 s, .int .i64 i, .string b] w fun e w' => e = .returned (.bool true) ∧ Below w.heap.size w w' := by
  obtain ⟨s0, s1⟩ := int_wf ws
  obtain ⟨i0, i1⟩ := int_wf wi
  by_cases hl : 1048576 < b.size
  · have hl' : (1048576 : Int) < (b.size : Int) := by omega
    go_enter Tryd.func3, Tryd.ntmps3
    go_wp2
    go_ret
    exact ⟨rfl, Below.refl _ _⟩
  · have hl' : ¬ (1048576 : Int) < (b.size : Int) := by omega
    have K1 := hid (sAns s i b s0 s1 i0 i1 (by omega) w)
    have K2 := hid (iAns s i b s0 s1 i0 i1 (by omega))
    have HT := hid hT
    obtain ⟨A, hA⟩ : ∃ A, A = ansT s i b := ⟨_, rfl⟩
    rw [← hA] at K1 K2
    clear hA hl hT
    go_enter Tryd.func3, Tryd.ntmps3
    go_wp2_with fail
    refine K1.out.mono ?_
    rintro e w1 ⟨rfl, hb1⟩
    have B1 := hid hb1
    clear hb1
    go_wp2_with fail
    refine (K2.out w1 (HT.out.below B1.out)).mono ?_
    rintro e w2 ⟨rfl, hb2⟩
    have B2 := hid (B1.out.trans (hb2.mono B1.out.size))
    clear hb2
    go_wp2
    go_ret
    exact ⟨rfl, B2.out⟩
end Go.Proofs.YtofkfepfoieohaaDoor
