import Derived.Test.YtjeahllaajpddabMove
import Derived.Test.YtjeahllaajpddabSMove
namespace Go.Proofs.Ytjeahllaajpddab
open Go.RowKit
set_option maxRecDepth 20000 in
set_option maxHeartbeats 1000000 in
theorem szNdL (a : Option Addr) (len cap : Nat) (L : Int) (h0 : 0 ≤ L) (h1 : L ≤ 1048576) (hl : len ≤ 9223372036854775807) (w : World) :
    Calls Try.prog 6 #[.slice a len cap, .int .i64 L] w fun e w' => ∃ z : Int, e = .returned (.int .i64 z) ∧ w' = w ∧ (z < 0 ∨ (0 ≤ z ∧ z ≤ 1048576 ∧ len ≤ 1048576)) := by
  by_cases h : (len : Int) ≤ L
  · have d0 : ¬ L - (len : Int) < 0 := by omega
    go_enter Try.func6, Try.ntmps6
    go_wp2
    go_ret
    exact ⟨L - len, rfl, rfl, .inr (by omega)⟩
  · have d0 : L - (len : Int) < 0 := by omega
    go_enter Try.func6, Try.ntmps6
    go_wp2
    go_ret
    exact ⟨-1, rfl, rfl, .inl (by decide)⟩
set_option maxRecDepth 20000 in
set_option maxHeartbeats 4000000 in
theorem fnExactMoveCount_core (a : Option Addr) (n cap : Nat) (x y : Nat → Int) (hn : n ≤ 9223372036854775807) (a' : Option Addr) (n' cap' : Nat) (x' y' : Nat → Int) (hn' : n' ≤ 9223372036854775807) (k : Option Addr) (len kc : Nat) (ts : Nat → ByteArray) (hlen : len ≤ 9223372036854775807) (hts : ∀ i, i < len → (ts i).size ≤ 9223372036854775807) (m : Int) (w : World)
    (h : Prs w a n cap x y) (h' : Prs w a' n' cap' x' y') (hk : Strs w k len kc ts) :
    Calls Try.prog 5 #[.slice a n cap, .slice a' n' cap', .slice k len kc, .int .i64 m] w fun e w' => e = .returned (.bool true) ∧ Below w.heap.size w w' := by
  have HP := hid h
  have HP' := hid h'
  have HK := hid hk
  have HTS := hid hts
  clear h h' hk hts
  go_enter Try.func5, Try.ntmps5
  go_wp2_with fail
  refine (szNdL a n cap 1048576 (by decide) (by decide) hn w).mono ?_
  rintro e w1 ⟨z, rfl, h1, hz⟩
  have h1s := h1.symm
  subst h1s
  rcases hz with hz | ⟨hz0, hz1, hl⟩
  · go_wp2
    go_ret
    exact ⟨rfl, Below.refl _ _⟩
  have d1 : ¬ z < 0 := by omega
  go_wp2_with fail
  refine (szNdL a' n' cap' z hz0 hz1 hn' w).mono ?_
  rintro e w1 ⟨z2, rfl, h1, hz2⟩
  have h1s := h1.symm
  subst h1s
  rcases hz2 with hz2 | ⟨hy0, hy1, hl'⟩
  · go_wp2
    go_ret
    exact ⟨rfl, Below.refl _ _⟩
  have d2 : ¬ z2 < 0 := by omega
  go_wp2_with fail
  refine (szStrL k len kc ts z2 hy0 hy1 hlen HTS.out w HK.out).mono ?_
  rintro e w1 ⟨z3, rfl, h1, hz3⟩
  have h1s := h1.symm
  subst h1s
  by_cases d3 : z3 < 0
  · go_wp2
    go_ret
    exact ⟨rfl, Below.refl _ _⟩
  obtain ⟨hll, htt⟩ : len ≤ 1048576 ∧ ∀ i, i < len → (ts i).size ≤ 1048576 := by
    rcases hz3 with q | q
    · omega
    · exact q
  have HTT := hid htt
  clear htt hz3
  -- the specification
  go_wp2_with fail
  refine (toNds a n cap x y hl _ HP.out).mono ?_
  rintro e v1 ⟨rfl, f1, b1⟩
  have F1 := hid f1
  have L1 := hid b1
  clear f1 b1
  go_wp2_with fail
  refine (toNds a' n' cap' x' y' hl' _ (HP'.out.below L1.out)).mono ?_
  rintro e v2 ⟨rfl, f2, b2⟩
  have F2 := hid f2
  have F1 := hid (F1.out.below b2 F1.out.lt)
  have L2 : Hid (Below w.heap.size w v2) := L1.out.trans (b2.mono L1.out.size)
  clear f2 b2
  go_wp2_with fail
  refine (toStr k len kc ts hll _ (HK.out.below L2.out)).mono ?_
  rintro e v3 ⟨rfl, f3, b3⟩
  have F3 := hid f3
  have F1 := hid (F1.out.below b3 F1.out.lt)
  have F2 := hid (F2.out.below b3 F2.out.lt)
  have L3 : Hid (Below w.heap.size w v3) := L2.out.trans (b3.mono L2.out.size)
  clear f3 b3
  have SP := hid (sMove _ n n x y hl _ n' n' x' y' hl' _ len len ts hll HTT.out m v3 F1.out.prs F2.out.prs F3.out.strs)
  have IP := fun b1 b2 b3 w (p1 : FRow w b1 44 (n * 2) (prF x y)) (p2 : FRow w b2 44 (n' * 2) (prF x' y')) (p3 : FRow w b3 9 len (fun i => .string (ts i))) => hid (iMove _ n n x y hl _ n' n' x' y' hl' _ len len ts hll HTT.out m w p1.prs p2.prs p3.strs)
  obtain ⟨V, hV⟩ : ∃ V, V = mvV ts len n x y n' x' y' m := ⟨_, rfl⟩
  rw [← hV] at SP IP
  have dV : (V != V) = false := by simp
  clear hV
  go_wp2_with fail
  refine SP.out.mono ?_
  rintro e v4 ⟨rfl, b4⟩
  have L4 : Hid (Below w.heap.size w v4) := L3.out.trans (b4.mono L3.out.size)
  clear b4 SP F1 F2 F3
  -- the program
  go_wp2_with fail
  refine (toNds a n cap x y hl _ (HP.out.below L4.out)).mono ?_
  rintro e v5 ⟨rfl, f1, b1⟩
  have F1 := hid f1
  have L5 : Hid (Below w.heap.size w v5) := L4.out.trans (b1.mono L4.out.size)
  clear f1 b1
  go_wp2_with fail
  refine (toNds a' n' cap' x' y' hl' _ (HP'.out.below L5.out)).mono ?_
  rintro e v6 ⟨rfl, f2, b2⟩
  have F2 := hid f2
  have F1 := hid (F1.out.below b2 F1.out.lt)
  have L6 : Hid (Below w.heap.size w v6) := L5.out.trans (b2.mono L5.out.size)
  clear f2 b2
  go_wp2_with fail
  refine (toStr k len kc ts hll _ (HK.out.below L6.out)).mono ?_
  rintro e v7 ⟨rfl, f3, b3⟩
  have F3 := hid f3
  have F1 := hid (F1.out.below b3 F1.out.lt)
  have F2 := hid (F2.out.below b3 F2.out.lt)
  have L7 : Hid (Below w.heap.size w v7) := L6.out.trans (b3.mono L6.out.size)
  clear f3 b3
  have IQ := IP _ _ _ v7 F1.out F2.out F3.out
  clear IP
  go_wp2_with fail
  refine IQ.out.mono ?_
  rintro e v8 ⟨rfl, b8⟩
  have F1 := hid (F1.out.below b8 F1.out.lt)
  have F2 := hid (F2.out.below b8 F2.out.lt)
  have F3 := hid (F3.out.below b8 F3.out.lt)
  have L8 : Hid (Below w.heap.size w v8) := L7.out.trans (b8.mono L7.out.size)
  clear b8 IQ
  -- the arguments
  go_wp2_with fail
  refine (toNds a n cap x y hl _ (HP.out.below L8.out)).mono ?_
  rintro e v9 ⟨rfl, f1, b1⟩
  have G1 := hid f1
  have F1 := hid (F1.out.below b1 F1.out.lt)
  have F2 := hid (F2.out.below b1 F2.out.lt)
  have F3 := hid (F3.out.below b1 F3.out.lt)
  have L9 : Hid (Below w.heap.size w v9) := L8.out.trans (b1.mono L8.out.size)
  clear f1 b1
  go_wp2_with fail
  refine (eqNds _ n n _ n x y hl _ F1.out.prs G1.out.prs).mono ?_
  rintro e v10 ⟨rfl, b1⟩
  have F2 := hid (F2.out.below b1 F2.out.lt)
  have F3 := hid (F3.out.below b1 F3.out.lt)
  have L10 : Hid (Below w.heap.size w v10) := L9.out.trans (b1.mono L9.out.size)
  clear b1 G1 F1
  go_wp2_with fail
  refine (toNds a' n' cap' x' y' hl' _ (HP'.out.below L10.out)).mono ?_
  rintro e v11 ⟨rfl, f1, b1⟩
  have G1 := hid f1
  have F2 := hid (F2.out.below b1 F2.out.lt)
  have F3 := hid (F3.out.below b1 F3.out.lt)
  have L11 : Hid (Below w.heap.size w v11) := L10.out.trans (b1.mono L10.out.size)
  clear f1 b1
  go_wp2_with fail
  refine (eqNds _ n' n' _ n' x' y' hl' _ F2.out.prs G1.out.prs).mono ?_
  rintro e v12 ⟨rfl, b1⟩
  have F3 := hid (F3.out.below b1 F3.out.lt)
  have L12 : Hid (Below w.heap.size w v12) := L11.out.trans (b1.mono L11.out.size)
  clear b1 G1 F2
  go_wp2_with fail
  refine (toStr k len kc ts hll _ (HK.out.below L12.out)).mono ?_
  rintro e v13 ⟨rfl, f1, b1⟩
  have G1 := hid f1
  have F3 := hid (F3.out.below b1 F3.out.lt)
  have L13 : Hid (Below w.heap.size w v13) := L12.out.trans (b1.mono L12.out.size)
  clear f1 b1
  go_wp2_with fail
  refine (eqStr _ len len _ len ts ts hll (fun _ _ => rfl) _ F3.out.strs G1.out.strs).mono ?_
  rintro e v14 ⟨rfl, q, hq⟩
  have L14 : Hid (Below w.heap.size w v14) := by rw [hq]; exact ⟨L13.out.os, L13.out.tape, L13.out.output, L13.out.size, L13.out.block⟩
  clear hq
  go_wp2
  go_ret
  exact ⟨rfl, L14.out⟩
theorem fnExactMoveCount_walk {w : World} (a : Option Addr) (len cap : Nat) (x y : Nat → Int) (h : IsPairs w a len cap x y) (a' : Option Addr) (len' cap' : Nat) (x' y' : Nat → Int) (h' : IsPairs w a' len' cap' x' y') (k : Option Addr) (kl kc : Nat) (ts : Nat → ByteArray) (hk : IsStrs w k kl kc ts) (m : Int) (_wm : (Lit.int .i64 m).wf = true) :
    Calls Try.prog 5 #[.slice a len cap, .slice a' len' cap', .slice k kl kc, .int .i64 m] w fun e w' => e = .returned (.bool true) ∧ Below w.heap.size w w' :=
  fnExactMoveCount_core a len cap x y h.len a' len' cap' x' y' h'.len k kl kc ts hk.len.1 hk.len.2 m w (Prs.of_is h) (Prs.of_is h') (Strs.of_is hk)
end Go.Proofs.Ytjeahllaajpddab
