import Derived.Test.YtjeahllaajpddabSNodes
namespace Go.Proofs.Ytjeahllaajpddab
open Go.RowKit
/-! FnExactMixOf, FnExactNodesFault, FnExactDiskScore out of the program's own contracts. -/
set_option maxRecDepth 20000 in
set_option maxHeartbeats 2000000 in
theorem fnExactNodesFault_of (a : Option Addr) (n cap : Nat) (x y : Nat → Int) (hn : n ≤ 9223372036854775807)
    (HI : ∀ (b : Nat) (w : World), n ≤ 1048576 → FRow w b 44 (n * 2) (prF x y) → Calls Try.prog 9 #[.slice (some ⟨b, 0, none⟩) n n] w fun e w' => e = .returned (.int .i64 (ndF n x y)) ∧ Below w.heap.size w w') (w : World) (h : Prs w a n cap x y) :
    Calls Try.prog 3 #[.slice a n cap] w fun e w' => e = .returned (.bool true) ∧ Below w.heap.size w w' := by
  have HH := hid h
  have HI' := hid HI
  clear h HI
  have SZ := hid (szNd a n cap hn w)
  by_cases hl : n ≤ 1048576
  · rw [if_pos hl] at SZ
    have d0 : ¬ (1048576 : Int) - (n : Int) < 0 := by omega
    obtain ⟨F, hF⟩ : ∃ F, F = ndF n x y := ⟨_, rfl⟩
    have HFF := hid hF
    have dF : (F != F) = false := by simp
    clear hF
    go_enter Try.func3, Try.ntmps3
    go_wp2_with fail
    refine SZ.out.mono ?_
    rintro e w1 ⟨rfl, rfl⟩
    go_wp2_with fail
    refine (toNds a n cap x y hl w1 HH.out).mono ?_
    rintro e w2 ⟨rfl, hF2, hb2⟩
    go_wp2_with fail
    refine (sNodes _ n n x y hl w2 hF2.prs).mono ?_
    rintro e w3 ⟨rfl, rfl⟩
    rw [← HFF.out]
    go_wp2_with fail
    refine (toNds a n cap x y hl w3 (HH.out.below hb2)).mono ?_
    rintro e w4 ⟨rfl, hF4, hb4⟩
    have H4 := hid hF4
    have B4 : Hid (Below w1.heap.size w1 w4) := hb2.trans (hb4.mono hb2.size)
    clear hF2 hb2 hb4 hF4
    go_wp2_with fail
    refine (HI'.out _ w4 hl H4.out).mono ?_
    rintro e w5 ⟨rfl, hb5⟩
    rw [← HFF.out]
    have H5 := hid (H4.out.below hb5 H4.out.lt)
    have B5 : Hid (Below w1.heap.size w1 w5) := B4.out.trans (hb5.mono B4.out.size)
    clear hb5 H4 B4
    go_wp2_with fail
    refine (toNds a n cap x y hl w5 (HH.out.below B5.out)).mono ?_
    rintro e w6 ⟨rfl, hF6, hb6⟩
    have H6 := hid (H5.out.below hb6 H5.out.lt)
    have B6 : Hid (Below w1.heap.size w1 w6) := B5.out.trans (hb6.mono B5.out.size)
    have H7 := hid hF6
    clear hb6 H5 B5 hF6
    go_wp2_with fail
    refine (eqNds _ n n _ n x y hl w6 H6.out.prs H7.out.prs).mono ?_
    rintro e w7 ⟨rfl, hb7⟩
    have B7 : Hid (Below w1.heap.size w1 w7) := B6.out.trans (hb7.mono B6.out.size)
    clear hb7
    go_wp2
    go_ret
    exact ⟨rfl, B7.out⟩
  · rw [if_neg hl] at SZ
    go_enter Try.func3, Try.ntmps3
    go_wp2_with fail
    refine SZ.out.mono ?_
    rintro e w1 ⟨rfl, rfl⟩
    go_wp2
    go_ret
    exact ⟨rfl, Below.refl _ _⟩
end Go.Proofs.Ytjeahllaajpddab
