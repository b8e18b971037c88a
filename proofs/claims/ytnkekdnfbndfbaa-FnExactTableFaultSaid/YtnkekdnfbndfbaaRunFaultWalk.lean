import Derived.Test.YtnkekdnfbndfbaaLawRun
import Derived.Test.YtnkekdnfbndfbaaIRun
import Derived.Test.YtnkekdnfbndfbaaSRun2
import Derived.Test.YtnkekdnfbndfbaaOpenEn
namespace Go.Proofs.Ytnkekdnfbndfbaa
open Go.RowKit
theorem szEn_at (o : Nat → En) {k n : Nat} (h : k < n) : (o k).ky.size ≤ szEn o n ∧ (o k).tx.size ≤ szEn o n := by
  have h1 := szEn_mono o (show k + 1 ≤ n by omega)
  have h2 : szEn o (k + 1) = szEn o k + (o k).ky.size + (o k).tx.size := rfl
  constructor <;> omega
set_option maxRecDepth 20000 in
set_option maxHeartbeats 2000000 in
theorem fnExactRunFault_walk {w : World} (a : Option Addr) (n cap : Nat) (o : Nat → En) (h : IsEns w a n cap o) :
    Calls Try.prog 4 #[.agg #[.slice a n cap]] w fun e w' => e = .returned (.bool true) ∧ Below w.heap.size w w' := by
  obtain ⟨hE, hcap, hsz⟩ := h
  have hn : n ≤ 9223372036854775807 := by have := hE.1; unfold maxLen at hcap; omega
  have hs : ∀ k, k < n → (o k).ky.size ≤ 9223372036854775807 ∧ (o k).tx.size ≤ 9223372036854775807 := fun k hk => by have := hsz k hk; unfold maxLen at this; omega
  obtain ⟨W1, hW1⟩ : ∃ W, W = w.alloc (.cells #[.slice a n cap] 39) := ⟨_, rfl⟩
  have R1 : Hid (RowAt W1 w.heap.size 39 #[.slice a n cap]) := by rw [hW1]; exact RowAt.new _ _ _
  have B1 : Hid (Below w.heap.size w W1) := by rw [hW1]; exact balEn (Below.refl _ _) _
  have HE := hid (hE.below B1.out)
  have K0 := hid (szRn a n cap o 1048576 (Nat.le_refl _) hn hs W1 HE.out)
  have r1 := R1.out.cell 0
  have HW1 := hid hW1
  clear hE hcap hsz hn hs hW1
  by_cases hf : n + szEn o n ≤ 1048576
  · rw [if_pos hf] at K0
    obtain ⟨l, hl⟩ : ∃ l : Nat, l = 1048576 - n - szEn o n := ⟨_, rfl⟩
    rw [← hl] at K0
    have d0 : ¬ (l : Int) < 0 := by omega
    have hn1 : n ≤ 1048576 := by omega
    have hs1 : Hid (∀ k, k < n → (o k).ky.size ≤ 1048576 ∧ (o k).tx.size ≤ 1048576) := fun k hk => by have := szEn_at o hk; omega
    clear hl
    obtain ⟨F, hF⟩ : ∃ F, F = runV n o := ⟨_, rfl⟩
    have HFF := hid hF
    have dF : (F != F) = false := by simp
    clear hF hf
    go_enter Try.func4, Try.ntmps4
    go_upto_region 1 with fail
    rw [← HW1.out]
    go_wp2_with fail
    refine K0.out.mono ?_
    rintro e w2 ⟨rfl, hb2⟩
    have R2 := hid (RowAt.nx hb2 R1.out)
    have E2 := hid (HE.out.below hb2)
    have B2 := hid (B1.out.trans (hb2.mono B1.out.size))
    have r2 := R2.out.cell 0
    have K1 := hid (toRn a n cap o hn1 w2 E2.out)
    clear hb2 K0 r1 R1 HE B1
    go_wp2_with fail
    refine K1.out.mono ?_
    rintro e w3 ⟨g3, rfl, hF3, hg3, hb3⟩
    have R3 := hid (RowAt.nx hb3 R2.out)
    have E3 := hid (E2.out.below hb3)
    have B3 := hid (B2.out.trans (hb3.mono B2.out.size))
    have K2 := hid (sRunF (some ⟨g3, 0, none⟩) n n o hn1 hs1.out w3 (Ens.of_row hF3))
    clear hb3 K1 r2 R2 E2 B2 hF3 hg3
    go_wp2_with fail
    refine K2.out.mono ?_
    rintro e w4 ⟨rfl, hb4⟩
    rw [← HFF.out]
    have R4 := hid (RowAt.nx hb4 R3.out)
    have E4 := hid (E3.out.below hb4)
    have B4 := hid (B3.out.trans (hb4.mono B3.out.size))
    have r4 := R4.out.cell 0
    have K3 := hid (toRn a n cap o hn1 w4 E4.out)
    clear hb4 K2 R3 E3 B3
    go_wp2_with fail
    refine K3.out.mono ?_
    rintro e w5 ⟨g5, rfl, hF5, hg5, hb5⟩
    have R5 := hid (RowAt.nx hb5 R4.out)
    have E5 := hid (E4.out.below hb5)
    have B5 := hid (B4.out.trans (hb5.mono B4.out.size))
    have F5 := hid hF5
    have G5 : Hid (w.heap.size ≤ g5 ∧ True) := ⟨Nat.le_trans B4.out.size hg5, trivial⟩
    clear hb5 K3 r4 R4 E4 B4 hF5 hg5
    go_upto_region 7 with ((refine wpList_store_row rfl 28 (.tmp 5) (.tmp 16) rfl w5.heap.size #[.slice (some ⟨g5, 0, none⟩) n n] rfl rfl _ _ (RowAt.new w5 _ _) (by kernel_rfl) rfl (oneRn _ _ _) ?_); rw [World.setRow_alloc_new])
    obtain ⟨W6, hW6⟩ : ∃ W, W = w5.alloc (.cells #[.slice (some ⟨g5, 0, none⟩) n n] 28) := ⟨_, rfl⟩
    have X6 : Hid (RowAt W6 w5.heap.size 28 #[.slice (some ⟨g5, 0, none⟩) n n]) := by rw [hW6]; exact RowAt.new _ _ _
    have b56 : Below w5.heap.size w5 W6 := by rw [hW6]; exact (Below.refl _ _).alloc (Nat.le_refl _) _
    have R6 := hid (RowAt.nx b56 R5.out)
    have E6 := hid (E5.out.below b56)
    have B6 := hid (B5.out.trans (b56.mono B5.out.size))
    have F6 := hid (F5.out.below b56 F5.out.lt)
    rw [← hW6]
    have x6 := X6.out.cell 0
    have K4 := hid (iRunF (some ⟨g5, 0, none⟩) n n o hn1 hs1.out W6 (Ens.of_row F6.out))
    clear hW6 b56 R5 E5 B5 F5
    go_wp2_with fail
    refine K4.out.mono ?_
    rintro e w7 ⟨rfl, hb7⟩
    rw [← HFF.out]
    have hJ := RowAt.nx hb7 R6.out
    have hX := RowAt.nx hb7 X6.out
    have E7 := hid (E6.out.below hb7)
    have hW := hid (B6.out.trans (hb7.mono B6.out.size))
    have hN : Hid (w.heap.size ≤ w7.heap.size) := hW.out.size
    have F7 := hid (F6.out.below hb7 F6.out.lt)
    have y0 := hX.cell 0
    have z0 := hJ.cell 0
    clear hb7 K4 x6 R6 X6 E6 B6 F6
    have KT := fun wx (hb : Below w7.heap.size w7 wx) => hid (toRn a n cap o hn1 wx (E7.out.below hb))
    have KQ := fun wx g (hb : Below w7.heap.size w7 wx) (hF : FRow wx g 34 (n * 4) (enF o)) => hid (eqRn (some ⟨g5, 0, none⟩) n n (some ⟨g, 0, none⟩) n o hn1 wx (Ens.of_row (F7.out.below hb F7.out.lt)) (Ens.of_row hF))
    go_wp2_with fail
    go_region_held3 (fun wx => wx.cell? ⟨w.heap.size, 0, none⟩ = some (.slice a n cap) ∧ wx.cell? ⟨w5.heap.size, 0, none⟩ = some (.slice (some ⟨g5, 0, none⟩) n n))
      ((first | (go_keep; done) | exact ⟨hJ.cell 0, hX.cell 0⟩))
      ((first
        | (go_at_call 15; refine (KT _ (Below.refl _ w7).drew).out.mono ?_; rintro e w8 ⟨g8, rfl, hF8, hg8, hb8⟩; replace hJ := RowAt.nx hb8 hJ; replace hX := RowAt.nx hb8 hX)
        | (go_at_call 16; refine (KQ _ _ ((Below.refl _ w7).drew.trans hb8) hF8).out.mono ?_; rintro e w9 ⟨rfl, hb9⟩; replace hJ := RowAt.nx hb9 hJ; replace hX := RowAt.nx hb9 hX)))
    all_goals go_wp2
    all_goals go_ret
    all_goals exact ⟨rfl, (hW.out.drew.trans (hb8.mono hW.out.size)).trans (hb9.mono (Nat.le_trans hW.out.size hb8.size))⟩
  · rw [if_neg hf] at K0
    have d0 : (-1 : Int) < 0 := by omega
    go_enter Try.func4, Try.ntmps4
    go_upto_region 1 with fail
    rw [← HW1.out]
    go_wp2_with fail
    refine K0.out.mono ?_
    rintro e w2 ⟨rfl, hb2⟩
    have B2 := hid (B1.out.trans (hb2.mono B1.out.size))
    clear hb2 hf
    go_wp2
    go_ret
    exact ⟨rfl, B2.out⟩
end Go.Proofs.Ytnkekdnfbndfbaa
