import Derived.Test.YtccokbfbkeknnaaFnSealedOf
namespace Go.Proofs.Ytccokbfbkeknnaa
open Go.RowKit
/-! FnSealed, as a row hands its codes in. -/
set_option maxRecDepth 20000 in
theorem fnSealed_of
    (HS : ∀ (m dk : ByteArray) (nonce : Int) (data : ByteArray), m.size ≤ 1048576 → dk.size ≤ 1048576 → (Lit.int .i64 nonce).wf = true → data.size ≤ 1048576 → ∀ w, Calls Try.prog 9 #[.string m, .string dk, .int .i64 nonce, .string data] w fun e w' => e = .returned (sealO m dk nonce data) ∧ Below w.heap.size w w')
    (HO : ∀ (m : ByteArray) (c : Int) (wr dt : ByteArray) (nonce : Int), m.size ≤ 1048576 → (Lit.int .i64 c).wf = true → wr.size ≤ 1048576 → dt.size ≤ 1048576 → (Lit.int .i64 nonce).wf = true → ∀ w, Calls Try.prog 11 #[.string m, .agg #[.int .i64 c, .string wr, .string dt], .int .i64 nonce] w fun e w' => e = .returned (opnO m c wr dt nonce) ∧ Below w.heap.size w w')
    (HR : ∀ (old now : ByteArray) (c : Int) (wr dt : ByteArray) (nonce : Int), old.size ≤ 1048576 → now.size ≤ 1048576 → (Lit.int .i64 c).wf = true → wr.size ≤ 1048576 → dt.size ≤ 1048576 → (Lit.int .i64 nonce).wf = true → ∀ w, Calls Try.prog 14 #[.string old, .string now, .agg #[.int .i64 c, .string wr, .string dt], .int .i64 nonce] w fun e w' => e = .returned (rewO old now c wr dt nonce) ∧ Below w.heap.size w w')
    {w : World} (a0 : Option Addr) (len0 cap0 : Nat) (z0 : List Int) (h0 : IsRow .u8 w a0 len0 cap0 z0) (a1 : Option Addr) (len1 cap1 : Nat) (z1 : List Int) (h1 : IsRow .u8 w a1 len1 cap1 z1) :
    Calls Try.prog 3 #[.slice a0 len0 cap0, .slice a1 len1 cap1] w fun e w' => e = .returned (.bool true) ∧ Below w.heap.size w w' := by
  have m0 := h0.le
  have m1 := h1.le
  unfold maxLen at m0 m1
  by_cases hl0 : len0 ≤ 1048576
  · by_cases hl1 : len1 ≤ 1048576
    · exact fnSealed_core HS HO HR a0 len0 cap0 (codeOk_of w a0 len0 cap0 z0 h0 hl0) m0.1 a1 len1 cap1 (codeOk_of w a1 len1 cap1 z1 h1 hl1)
    · have d0 : decide ((1048576 : Int) < (len0 : Int)) = false := by simp; omega
      have d1 : decide ((1048576 : Int) < (len1 : Int)) = true := by simp; omega
      go_enter Try.func3, Try.ntmps3
      go_wp2
      go_ret
      exact ⟨rfl, Below.refl _ _⟩
  · have d0 : decide ((1048576 : Int) < (len0 : Int)) = true := by simp; omega
    go_enter Try.func3, Try.ntmps3
    go_wp2
    go_ret
    exact ⟨rfl, Below.refl _ _⟩
end Go.Proofs.Ytccokbfbkeknnaa
