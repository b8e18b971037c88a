import Derived.Test.YtjeahllaajpddaaSNodes
namespace Go.Proofs.Ytjeahllaajpddaa
open Go.RowKit
/-! FnExactMixOf, FnExactNodesFault, FnExactDiskScore out of the program's own contracts. -/
set_option maxRecDepth 20000 in
set_option maxHeartbeats 1000000 in
theorem fnExactMixOf_of (key : ByteArray) (node turn : Int) (hkm : key.size ≤ 9223372036854775807) (hn : node ≤ 9223372036854775807) (ht : turn ≤ 9223372036854775807) (HI : ∀ w : World, key.size ≤ 1048576 → Calls Try.prog 23 #[.string key, .int .i64 node, .int .i64 turn] w fun e w' => e = .returned (.int .i64 (mixV key node turn)) ∧ Below w.heap.size w w') (w : World) :
    Calls Try.prog 7 #[.string key, .int .i64 node, .int .i64 turn] w fun e w' => e = .returned (.bool true) ∧ Below w.heap.size w w' := by
  by_cases hk : 1048576 < key.size
  · have d0 : (1048576 : Int) < ((key.size : Nat) : Int) := by omega
    go_enter Try.func7, Try.ntmps7
    go_wp2
    go_ret
    exact ⟨rfl, Below.refl _ _⟩
  · have d0 : ¬ (1048576 : Int) < ((key.size : Nat) : Int) := by omega
    have SM := fun w => hid (sMix key node turn (by omega) hn ht w)
    have IM := fun w => hid (HI w (by omega))
    obtain ⟨m, hm⟩ : ∃ m, m = mixV key node turn := ⟨_, rfl⟩
    rw [← hm] at SM IM
    have dm : (m != m) = false := by simp
    clear hm HI
    go_enter Try.func7, Try.ntmps7
    go_wp2_with fail
    refine (SM _).out.mono ?_
    rintro e w1 ⟨rfl, hb1⟩
    go_wp2_with fail
    refine (IM _).out.mono ?_
    rintro e w2 ⟨rfl, hb2⟩
    go_wp2
    go_ret
    exact ⟨rfl, hb1.trans (hb2.mono hb1.size)⟩
set_option maxRecDepth 20000 in
set_option maxHeartbeats 2000000 in
theorem fnExactDiskScore_of (a : Option Addr) (n cap : Nat) (x y : Nat → Int) (hn : n ≤ 9223372036854775807) (key : ByteArray) (hkm : key.size ≤ 9223372036854775807) (disk : Int)
    (HI : ∀ (b : Nat) (w : World), n ≤ 1048576 → key.size ≤ 1048576 → FRow w b 38 (n * 2) (prF x y) → Calls Try.prog 18 #[.slice (some ⟨b, 0, none⟩) n n, .string key, .int .i64 disk] w fun e w' => e = .returned (.int .i64 (scoreV key n x y disk)) ∧ Below w.heap.size w w') (w : World) (h : Prs w a n cap x y) :
    Calls Try.prog 8 #[.slice a n cap, .string key, .int .i64 disk] w fun e w' => e = .returned (.bool true) ∧ Below w.heap.size w w' := by
  have HH := hid h
  have HI' := hid HI
  clear h HI
  have SZ := hid (szNd a n cap hn w)
  by_cases hk : 1048576 < key.size
  · have d0 : (1048576 : Int) < ((key.size : Nat) : Int) := by omega
    go_enter Try.func8, Try.ntmps8
    go_wp2
    go_ret
    exact ⟨rfl, Below.refl _ _⟩
  have dk : ¬ (1048576 : Int) < ((key.size : Nat) : Int) := by omega
  by_cases hl : n ≤ 1048576
  · rw [if_pos hl] at SZ
    have d0 : ¬ (1048576 : Int) - (n : Int) < 0 := by omega
    obtain ⟨F, hF⟩ : ∃ F, F = scoreV key n x y disk := ⟨_, rfl⟩
    have HFF := hid hF
    have dF : (F != F) = false := by simp
    clear hF
    go_enter Try.func8, Try.ntmps8
    go_wp2_with fail
    refine SZ.out.mono ?_
    rintro e w1 ⟨rfl, rfl⟩
    go_wp2_with fail
    refine (toNds a n cap x y hl w1 HH.out).mono ?_
    rintro e w2 ⟨rfl, hF2, hb2⟩
    go_wp2_with fail
    refine (sDisk _ n n x y hl key (by omega) disk w2 hF2.prs).mono ?_
    rintro e w3 ⟨rfl, hb3⟩
    rw [← HFF.out]
    have B3 : Hid (Below w1.heap.size w1 w3) := hb2.trans (hb3.mono hb2.size)
    clear hF2 hb2 hb3
    go_wp2_with fail
    refine (toNds a n cap x y hl w3 (HH.out.below B3.out)).mono ?_
    rintro e w4 ⟨rfl, hF4, hb4⟩
    have H4 := hid hF4
    have B4 : Hid (Below w1.heap.size w1 w4) := B3.out.trans (hb4.mono B3.out.size)
    clear hb4 hF4 B3
    go_wp2_with fail
    refine (HI'.out _ w4 hl (by omega) H4.out).mono ?_
    rintro e w5 ⟨rfl, hb5⟩
    rw [← HFF.out]
    have H5 := hid (H4.out.below hb5 H4.out.lt)
    have B5 : Hid (Below w1.heap.size w1 w5) := B4.out.trans (hb5.mono B4.out.size)
    clear hb5 H4 B4
    go_wp2_with fail
    refine (toNds a n cap x y hl w5 (HH.out.below B5.out)).mono ?_
    rintro e w6 ⟨rfl, hF6, hb6⟩
    have H6 := hid (H5.out.below hb6 H5.out.lt)
    have B6 : Hid (Below w1.heap.size w1 w6) := B5.out.trans (hb6.mono B5.out.size)
    have H7 := hid hF6
    clear hb6 H5 B5 hF6
    go_wp2_with fail
    refine (eqNds _ n n _ n x y hl w6 H6.out.prs H7.out.prs).mono ?_
    rintro e w7 ⟨rfl, hb7⟩
    have B7 : Hid (Below w1.heap.size w1 w7) := B6.out.trans (hb7.mono B6.out.size)
    clear hb7
    go_wp2
    go_ret
    exact ⟨rfl, B7.out⟩
  · rw [if_neg hl] at SZ
    go_enter Try.func8, Try.ntmps8
    go_wp2_with fail
    refine SZ.out.mono ?_
    rintro e w1 ⟨rfl, rfl⟩
    go_wp2
    go_ret
    exact ⟨rfl, Below.refl _ _⟩
end Go.Proofs.Ytjeahllaajpddaa
