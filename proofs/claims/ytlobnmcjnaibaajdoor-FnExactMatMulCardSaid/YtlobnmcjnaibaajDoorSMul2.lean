import Derived.Test.YtlobnmcjnaibaajDoorSMul
namespace Go.Proofs.YtlobnmcjnaibaajDoor
open Go.RowKit
theorem mfault_01 (r c : Int) (xs : List Int) : mfault r c xs = 0 ∨ mfault r c xs = 1 := by
  unfold mfault; split
  · exact Or.inl rfl
  · exact Or.inr rfl
/-- no matrix, and a code -/
abbrev mrNone (k : Int) : Value := .agg #[.int .i64 k, .int .i64 0, .int .i64 0, .slice none 0 0]
set_option maxRecDepth 20000 in
set_option maxHeartbeats 1000000 in
theorem smatmul_no (r c r' c' : Int) (xs ys : List Int) (a : Option Addr) (la ca : Nat) (a' : Option Addr) (lb cb : Nat) (w : World) (h : Ints .i64 w a la ca xs) (h' : Ints .i64 w a' lb cb ys) (hla : la ≤ 1048576) (hlb : lb ≤ 1048576)
    (hno : ¬ (mfault r c xs = 0 ∧ mfault r' c' ys = 0 ∧ c = r')) :
    Calls Tryd.prog 7 #[mxv r c a la ca, mxv r' c' a' lb cb] w fun e w' => e = .returned (mrNone 1) ∧ Below w.heap.size w w' := by
  have HH := hid h
  have HH' := hid h'
  clear h h'
  rcases mfault_01 r c xs with f1 | f1
  · rcases mfault_01 r' c' ys with f2 | f2
    · have d0 : (c == r') = false := by
        have : ¬ c = r' := fun e => hno ⟨f1, f2, e⟩
        simpa using this
      have d1 : (c != r') = true := by simp only [bne, d0]; rfl
      have G1 := hid f1
      have G2 := hid f2
      clear f1 f2 hno
      go_enter Tryd.func7, Tryd.ntmps7
      go_wp2_with fail
      refine (sfault r c a la ca xs _ (((HH.out.alloc _).alloc _).alloc _) hla).mono ?_
      rintro e w1 ⟨rfl, rfl⟩
      rw [G1.out]
      go_wp2_with fail
      refine (sfault r' c' a' lb cb ys _ ((((HH'.out.alloc _).alloc _).alloc _).alloc _) hlb).mono ?_
      rintro e w1 ⟨rfl, rfl⟩
      rw [G2.out]
      go_wp2
      refine bodyPost_ret (v := mrNone 1) (by simp [results, Tryd.results7, go_sem]) rfl ⟨rfl, ?_⟩
      exact (((((Below.refl _ _).alloc (Nat.le_refl _) _).alloc (by simp only [size_al]; omega) _).alloc (by simp only [size_al]; omega) _).alloc (by simp only [size_al]; omega) _).alloc (by simp only [size_al]; omega) _
    · have G1 := hid f1
      have G2 := hid f2
      clear f1 f2 hno
      go_enter Tryd.func7, Tryd.ntmps7
      go_wp2_with fail
      refine (sfault r c a la ca xs _ (((HH.out.alloc _).alloc _).alloc _) hla).mono ?_
      rintro e w1 ⟨rfl, rfl⟩
      rw [G1.out]
      go_wp2_with fail
      refine (sfault r' c' a' lb cb ys _ ((((HH'.out.alloc _).alloc _).alloc _).alloc _) hlb).mono ?_
      rintro e w1 ⟨rfl, rfl⟩
      rw [G2.out]
      go_wp2
      refine bodyPost_ret (v := mrNone 1) (by simp [results, Tryd.results7, go_sem]) rfl ⟨rfl, ?_⟩
      exact (((((Below.refl _ _).alloc (Nat.le_refl _) _).alloc (by simp only [size_al]; omega) _).alloc (by simp only [size_al]; omega) _).alloc (by simp only [size_al]; omega) _).alloc (by simp only [size_al]; omega) _
  · have G1 := hid f1
    clear f1 hno
    go_enter Tryd.func7, Tryd.ntmps7
    go_wp2_with fail
    refine (sfault r c a la ca xs _ (((HH.out.alloc _).alloc _).alloc _) hla).mono ?_
    rintro e w1 ⟨rfl, rfl⟩
    rw [G1.out]
    go_wp2
    refine bodyPost_ret (v := mrNone 1) (by simp [results, Tryd.results7, go_sem]) rfl ⟨rfl, ?_⟩
    exact ((((Below.refl _ _).alloc (Nat.le_refl _) _).alloc (by simp only [size_al]; omega) _).alloc (by simp only [size_al]; omega) _).alloc (by simp only [size_al]; omega) _
end Go.Proofs.YtlobnmcjnaibaajDoor
