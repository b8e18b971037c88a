import Derived.Test.YtnkekdnfbndfbaaRunFaultWalk
import Derived.Test.YtnkekdnfbndfbaaITab
namespace Go.Proofs.Ytnkekdnfbndfbaa
open Go.RowKit
/-- a table as the row hands it in -/
def IsRns (w : World) (a : Option Addr) (m cap : Nat) (R : Nat → Rn) : Prop := Rns w a m cap R ∧ cap ≤ maxLen ∧ ∀ k, k < m → IsEns w (R k).ad (R k).n (R k).cap (R k).o
theorem szR_ge (R : Nat → Rn) : ∀ m, cntR R m ≤ szR R m
  | 0 => Nat.le_refl _
  | m + 1 => by have := szR_ge R m; show cntR R m + (R m).n ≤ szR R m + ((R m).n + _); omega
theorem MkT.cells {w : World} {n0 : Nat} {o0 : Nat → En} {m : Nat} {R : Nat → Rn} {g gr : Nat} {G : Nat → Nat} (h : MkT w n0 o0 m R g gr G) : ∀ k, k < m → w.cell? ⟨gr, k, none⟩ = some (rnV (mkR R G k)) := fun k hk => by
  have := h.2.1.cell hk
  rw [show rnTo R G m k = .slice (some ⟨G k, 0, none⟩) (R k).n (R k).n by unfold rnTo; rw [if_pos hk]] at this
  exact this
theorem cntR_mk (R : Nat → Rn) (G : Nat → Nat) : ∀ m, cntR (mkR R G) m = cntR R m
  | 0 => rfl
  | m + 1 => by show cntR (mkR R G) m + _ = cntR R m + _; rw [cntR_mk R G m]; rfl
theorem sqA_mk (R : Nat → Rn) (G : Nat → Nat) : ∀ m, sqA (mkR R G) m = sqA R m
  | 0 => rfl
  | m + 1 => by show sqA (mkR R G) m ++ _ = sqA R m ++ _; rw [sqA_mk R G m]; rfl
theorem tabV_mk (s f : Int) (n0 : Nat) (o0 : Nat → En) (m : Nat) (R : Nat → Rn) (G : Nat → Nat) : tabV s f n0 o0 m (mkR R G) = tabV s f n0 o0 m R := by
  have : tabOk s f n0 o0 m (mkR R G) ↔ tabOk s f n0 o0 m R := by
    unfold tabOk tabTo
    rw [cntR_mk, sqA_mk]
    exact Iff.rfl
  by_cases h : tabOk s f n0 o0 m R
  · rw [tabV_ok h, tabV_ok (this.2 h)]
  · rw [tabV_no h, tabV_no fun q => h (this.1 q)]
set_option maxRecDepth 20000 in
set_option maxHeartbeats 4000000 in
theorem fnExactTableFault_walk {w : World} (s f : Int) (a0 : Option Addr) (n0 c0 : Nat) (o0 : Nat → En) (h0 : IsEns w a0 n0 c0 o0) (a : Option Addr) (m cap : Nat) (R : Nat → Rn) (h : IsRns w a m cap R) :
    Calls Try.prog 5 #[.agg #[.int .i64 s, .int .i64 f, .slice a0 n0 c0, .slice a m cap]] w fun e w' => e = .returned (.bool true) ∧ Below w.heap.size w w' := by
  obtain ⟨hE, hcap0, hsz0⟩ := h0
  obtain ⟨hN, hcap, hIn⟩ := h
  have hn : n0 ≤ 9223372036854775807 := by have := hE.1; unfold maxLen at hcap0; omega
  have hm : m ≤ 9223372036854775807 := by have := hN.1; unfold maxLen at hcap; omega
  have hs : ∀ k, k < n0 → (o0 k).ky.size ≤ 9223372036854775807 ∧ (o0 k).tx.size ≤ 9223372036854775807 := fun k hk => by have := hsz0 k hk; unfold maxLen at this; omega
  have hRI : RnIn R m := fun k hk => by
    obtain ⟨x1, x2, x3⟩ := hIn k hk
    refine ⟨by have := x1.1; unfold maxLen at x2; omega, fun i hi => by have := x3 i hi; unfold maxLen at this; omega⟩
  obtain ⟨W1, hW1⟩ : ∃ W, W = w.alloc (.cells #[.int .i64 s, .int .i64 f, .slice a0 n0 c0, .slice a m cap] 46) := ⟨_, rfl⟩
  have R1 : Hid (RowAt W1 w.heap.size 46 #[.int .i64 s, .int .i64 f, .slice a0 n0 c0, .slice a m cap]) := by rw [hW1]; exact RowAt.new _ _ _
  have B1 : Hid (Below w.heap.size w W1) := by rw [hW1]; exact balEn (Below.refl _ _) _
  have HE := hid hE
  have HN := hid hN
  have K0 := hid (szTb s f a0 n0 c0 o0 a m cap R 1048576 (Nat.le_refl _) hn hs hm hRI W1 (hE.below B1.out) (hN.below B1.out))
  have r0 := R1.out.cell 0
  have r1 := R1.out.cell 1
  have r2 := R1.out.cell 2
  have r3 := R1.out.cell 3
  have HW1 := hid hW1
  clear hE hN hcap0 hsz0 hcap hIn hn hm hs hRI hW1
  by_cases hf : n0 + szEn o0 n0 + m + szR R m ≤ 1048576
  · rw [if_pos hf] at K0
    obtain ⟨l, hl⟩ : ∃ l : Nat, l = 1048576 - n0 - szEn o0 n0 - m - szR R m := ⟨_, rfl⟩
    rw [← hl] at K0
    have d0 : ¬ (l : Int) < 0 := by omega
    have hn1 : n0 ≤ 1048576 := by omega
    have hm1 : m ≤ 1048576 := by omega
    have hs1 : Hid (∀ k, k < n0 → (o0 k).ky.size ≤ 1048576 ∧ (o0 k).tx.size ≤ 1048576) := fun k hk => by have := szEn_at o0 hk; omega
    have hR1 : Hid (∀ k, k < m → (R k).n ≤ 1048576) := fun k hk => by have := szR_at R hk; omega
    have hZ1 : Hid (∀ G, RnSz (mkR R G) m) := fun G k hk => by
      have x1 := szR_at R hk
      refine ⟨by show (R k).n ≤ _; omega, fun i hi => ?_⟩
      have x2 := szEn_at (R k).o (show i < (R k).n from hi)
      show ((R k).o i).ky.size ≤ _ ∧ ((R k).o i).tx.size ≤ _
      omega
    have hC1 : Hid (∀ G, cntR (mkR R G) m + n0 ≤ 1048576) := fun G => by rw [cntR_mk]; have := szR_ge R m; omega
    clear hl
    obtain ⟨F, hF⟩ : ∃ F, F = tabV s f n0 o0 m R := ⟨_, rfl⟩
    have HFF := hid hF
    have dF : (F != F) = false := by simp
    clear hF hf
    go_enter Try.func5, Try.ntmps5
    go_upto_region 1 with fail
    rw [← HW1.out]
    go_wp2_with fail
    refine K0.out.mono ?_
    rintro e w2 ⟨rfl, hb2⟩
    have R2 := hid (RowAt.nx hb2 R1.out)
    have B2 := hid (B1.out.trans (hb2.mono B1.out.size))
    have K1 := hid (toTb s f a0 n0 c0 o0 a m cap R hn1 hm1 hR1.out w2 (HE.out.below B2.out) (HN.out.below B2.out))
    clear hb2 K0 r0 r1 r2 r3 R1 B1
    have r0 := R2.out.cell 0
    have r1 := R2.out.cell 1
    have r2 := R2.out.cell 2
    have r3 := R2.out.cell 3
    go_wp2_with fail
    refine K1.out.mono ?_
    rintro e w3 ⟨g3, gr3, G3, rfl, hM3, hb3⟩
    have R3 := hid (RowAt.nx hb3 R2.out)
    have B3 := hid (B2.out.trans (hb3.mono B2.out.size))
    have K2 := hid (sTabF s f (some ⟨g3, 0, none⟩) n0 n0 o0 (some ⟨gr3, 0, none⟩) m m (mkR R G3) hn1 hm1 hs1.out (hZ1.out G3) w3 hM3.ens hM3.rns)
    rw [tabV_mk, ← HFF.out] at K2
    clear hb3 K1 r0 r1 r2 r3 R2 B2 hM3
    go_wp2_with fail
    refine K2.out.mono ?_
    rintro e w4 ⟨rfl, hb4⟩
    have R4 := hid (RowAt.nx hb4 R3.out)
    have B4 := hid (B3.out.trans (hb4.mono B3.out.size))
    have r0 := R4.out.cell 0
    have r1 := R4.out.cell 1
    have r2 := R4.out.cell 2
    have r3 := R4.out.cell 3
    have K3 := hid (toTb s f a0 n0 c0 o0 a m cap R hn1 hm1 hR1.out w4 (HE.out.below B4.out) (HN.out.below B4.out))
    clear hb4 K2 R3 B3
    go_wp2_with fail
    refine K3.out.mono ?_
    rintro e w5 ⟨g5, gr5, G5, rfl, hM5, hb5⟩
    have R5 := hid (RowAt.nx hb5 R4.out)
    have B5 := hid (B4.out.trans (hb5.mono B4.out.size))
    clear hb5 K3 r0 r1 r2 r3 R4 B4
    obtain ⟨W6, hW6⟩ : ∃ W, W = w5.alloc (.cells #[.int .i64 s, .int .i64 f, .slice (some ⟨g5, 0, none⟩) n0 n0, .slice (some ⟨gr5, 0, none⟩) m m] 50) := ⟨_, rfl⟩
    have X6 : Hid (RowAt W6 w5.heap.size 50 #[.int .i64 s, .int .i64 f, .slice (some ⟨g5, 0, none⟩) n0 n0, .slice (some ⟨gr5, 0, none⟩) m m]) := by rw [hW6]; exact RowAt.new _ _ _
    have b56 : Below w5.heap.size w5 W6 := by rw [hW6]; exact (Below.refl _ _).alloc (Nat.le_refl _) _
    have R6 := hid (RowAt.nx b56 R5.out)
    have B6 := hid (B5.out.trans (b56.mono B5.out.size))
    have M6 := hid (hM5.below b56)
    have HW6 := hid hW6
    clear hW6 b56 R5 B5 hM5
    go_upto_region 7 with ((refine wpList_store_row rfl 50 (.tmp 5) (.tmp 16) rfl w5.heap.size #[.int .i64 s, .int .i64 f, .slice (some ⟨g5, 0, none⟩) n0 n0, .slice (some ⟨gr5, 0, none⟩) m m] rfl rfl _ _ (RowAt.new w5 _ _) (by kernel_rfl) rfl (oneTb _ _ _ _ _ _ _ _) ?_); rw [World.setRow_alloc_new])
    rw [← HW6.out]
    have y0 := X6.out.cell 0
    have y1 := X6.out.cell 1
    have y2 := X6.out.cell 2
    have y3 := X6.out.cell 3
    have K4 := hid (iTabF s f (some ⟨g5, 0, none⟩) n0 n0 o0 gr5 m m (mkR R G5) hn1 hm1 (hC1.out G5) hs1.out (hZ1.out G5) W6 M6.out.ens M6.out.rns M6.out.2.1.lt M6.out.cells)
    rw [tabV_mk, ← HFF.out] at K4
    clear HW6
    go_wp2_with fail
    refine K4.out.mono ?_
    rintro e w7 ⟨rfl, hb7⟩
    have hJ := RowAt.nx hb7 R6.out
    have hX := RowAt.nx hb7 X6.out
    have hW := hid (B6.out.trans (hb7.mono B6.out.size))
    have M7 := hid (M6.out.below hb7)
    clear hb7 K4 y0 y1 y2 y3 R6 X6 B6 M6
    have KT := fun wx (hb : Below w.heap.size w wx) => hid (toTb s f a0 n0 c0 o0 a m cap R hn1 hm1 hR1.out wx (HE.out.below hb) (HN.out.below hb))
    have KQ := fun wx g gr G (hb : Below w7.heap.size w7 wx) (hM : MkT wx n0 o0 m R g gr G) => hid (eqTb s f (some ⟨g5, 0, none⟩) n0 n0 o0 (some ⟨gr5, 0, none⟩) m m (mkR R G5) (some ⟨g, 0, none⟩) n0 (some ⟨gr, 0, none⟩) m (mkR R G) hn1 hm1 (fun k hk => ⟨rfl, rfl, hR1.out k hk⟩) wx (M7.out.below hb).ens (M7.out.below hb).rns hM.ens hM.rns)
    go_wp2_with fail
    go_region_held3 (fun wx => (wx.cell? ⟨w.heap.size, 0, none⟩ = some (.int .i64 s) ∧ wx.cell? ⟨w.heap.size, 1, none⟩ = some (.int .i64 f) ∧ wx.cell? ⟨w.heap.size, 2, none⟩ = some (.slice a0 n0 c0) ∧ wx.cell? ⟨w.heap.size, 3, none⟩ = some (.slice a m cap)) ∧ wx.cell? ⟨w5.heap.size, 0, none⟩ = some (.int .i64 s) ∧ wx.cell? ⟨w5.heap.size, 1, none⟩ = some (.int .i64 f) ∧ wx.cell? ⟨w5.heap.size, 2, none⟩ = some (.slice (some ⟨g5, 0, none⟩) n0 n0) ∧ wx.cell? ⟨w5.heap.size, 3, none⟩ = some (.slice (some ⟨gr5, 0, none⟩) m m))
      ((first | exact ⟨⟨hJ.cell 0, hJ.cell 1, hJ.cell 2, hJ.cell 3⟩, hX.cell 0, hX.cell 1, hX.cell 2, hX.cell 3⟩))
      ((first
        | (go_at_call 19; refine (KT _ hW.out.drew).out.mono ?_; rintro e w8 ⟨g8, gr8, G8, rfl, hM8, hb8⟩; replace hJ := RowAt.nx hb8 hJ; replace hX := RowAt.nx hb8 hX)
        | (go_at_call 21; refine (KQ _ _ _ _ ((Below.refl _ w7).drew.trans hb8) hM8).out.mono ?_; rintro e w9 ⟨rfl, hb9⟩; replace hJ := RowAt.nx hb9 hJ; replace hX := RowAt.nx hb9 hX)))
    all_goals go_wp2
    all_goals go_ret
    all_goals exact ⟨rfl, (hW.out.drew.trans (hb8.mono hW.out.size)).trans (hb9.mono (Nat.le_trans hW.out.size hb8.size))⟩
  · rw [if_neg hf] at K0
    have d0 : (-1 : Int) < 0 := by omega
    go_enter Try.func5, Try.ntmps5
    go_upto_region 1 with fail
    rw [← HW1.out]
    go_wp2_with fail
    refine K0.out.mono ?_
    rintro e w2 ⟨rfl, hb2⟩
    have B2 := hid (B1.out.trans (hb2.mono B1.out.size))
    clear hb2 hf
    go_wp2
    go_ret
    exact ⟨rfl, B2.out⟩
end Go.Proofs.Ytnkekdnfbndfbaa
