import Derived.Test.YthdmaamocejodaaDoorIMult2
import Derived.Test.YthdmaamocejodaaDoorFRow
namespace Go.Proofs.YthdmaamocejodaaDoor
open Go.RowKit
theorem one_gm8 {x : Nat} (h : x < 256) : gm 8 29 1 x = x := one_gm fld8.toFld h
/-- the cells from o on with the multiples added -/
def addF (F : Nat → Value) (z : Nat → Nat) (o n : Nat) (f : Nat) (fs : Nat → Nat) (p : Nat) : Value := if o ≤ p ∧ p < o + n then .int .u8 ((z (p - o) ^^^ gm 8 29 f (fs (p - o)) : Nat) : Int) else F p
theorem addF_zero (F : Nat → Value) (z : Nat → Nat) (o : Nat) (f : Nat) (fs : Nat → Nat) (p : Nat) : F p = addF F z o 0 f fs p := by unfold addF; rw [if_neg (by omega)]
theorem addF_nil (F : Nat → Value) (z : Nat → Nat) (o n : Nat) (fs : Nat → Nat) (hz : ∀ k, k < n → F (o + k) = .int .u8 ((z k : Nat) : Int)) (hfs : ∀ k, k < n → fs k < 256) (p : Nat) : F p = addF F z o n 0 fs p := by
  unfold addF
  by_cases h : o ≤ p ∧ p < o + n
  · rw [if_pos h, zero_gm fld8.toFld (hfs _ (by omega)), Nat.xor_zero, ← hz (p - o) (by omega), show o + (p - o) = p by omega]
  · rw [if_neg h]
theorem addF_step (F : Nat → Value) (z : Nat → Nat) (o k : Nat) (f : Nat) (fs : Nat → Nat) (V : Nat) (hV : V = z k ^^^ gm 8 29 f (fs k)) (p : Nat) : putF (addF F z o k f fs) (o + k) (.int .u8 (V : Int)) p = addF F z o (k + 1) f fs p := by
  unfold putF addF
  by_cases h : p = o + k
  · rw [if_pos h, if_pos (show o ≤ p ∧ p < o + (k + 1) by omega), show p - o = k by omega, hV]
  · rw [if_neg h]
    by_cases h2 : o ≤ p ∧ p < o + k
    · rw [if_pos h2, if_pos (show o ≤ p ∧ p < o + (k + 1) by omega)]
    · rw [if_neg h2, if_neg (by omega)]
set_option maxRecDepth 20000 in
set_option maxHeartbeats 4000000 in
theorem iaddF (f : Nat) (hf : f < 256) (g o n n1 c1 g2 o2 c2 : Nat) (hn : n ≤ n1) (T : TypeId) (N : Nat) (F : Nat → Value) (z fs : Nat → Nat) (w : World) (hT : Tab w) (hF : FRow w g T N F) (hb : o + n ≤ N) (hz : ∀ k, k < n → F (o + k) = .int .u8 ((z k : Nat) : Int)) (hz8 : ∀ k, k < n → z k < 256) (hfs : ∀ k, k < n → fs k < 256) (hN : n1 ≤ 1048576)
    (hsrc : ∀ k, k < n → w.cell? ⟨g2, o2 + k, none⟩ = some (.int .u8 ((fs k : Nat) : Int))) (hne : g2 ≠ g) :
    Calls Tryd.prog 51 #[.slice (some ⟨g, o, none⟩) n1 c1, .slice (some ⟨g2, o2, none⟩) n c2, .int .u8 f] w fun e w' => e = .returned (.tuple #[]) ∧ FRow w' g T N (addF F z o n f fs) ∧ w.grownBy w' (some g) := by
  by_cases f0 : f = 0
  · subst f0
    go_enter Tryd.func51, Tryd.ntmps51
    go_wp2
    go_end0
    exact ⟨rfl, hF.congr fun p _ => addF_nil F z o n fs hz hfs p, below_grown (Below.refl _ _) _⟩
  have HT := hid hT
  have HF := hid hF
  have HZ := hid hz
  have HZ8 := hid hz8
  have HFS := hid hfs
  have HSR := hid hsrc
  have hgl := hF.lt
  clear hT hF hz hz8 hfs hsrc
  by_cases f1 : f = 1
  · subst f1
    go_enter Tryd.func51, Tryd.ntmps51
    go_wp2
    go_loopw [37] (fun y wr => ∃ (k : Nat), k ≤ n ∧ y = .int .i64 k ∧ FRow wr g T N (addF F z o k 1 fs) ∧ w.grownBy wr (some g)) (fun y _ => n - (intOf y).toNat)
    case atStart => exact ⟨0, Nat.zero_le _, rfl, HF.out.congr fun p _ => addF_zero F z o 1 fs p, below_grown (Below.refl _ _) _⟩
    case round =>
      obtain ⟨k, hk, rfl, hG, hgr⟩ := hrel
      have HG := hid hG
      have HGG := hid hgr
      clear hG hgr
      by_cases hlt : k < n
      · have hlt' : (k : Int) < (n : Int) := by omega
        have hlt1 : (k : Int) < (n1 : Int) := by omega
        have i0 : (0 : Int) ≤ (k : Int) := by omega
        have sl : g2 < w.heap.size := World.block_lt_of_cell? w _ (HSR.out k hlt)
        have cF : wr.cell? ⟨g2, o2 + k, none⟩ = some (.int .u8 ((fs k : Nat) : Int)) := by
          rw [World.cell?_of_block (HGG.out.block g2 sl (fun e => hne (Option.some.inj e)))]; exact HSR.out k hlt
        have cK : wr.cell? ⟨g, o + k, none⟩ = some (.int .u8 ((z k : Nat) : Int)) := by
          rw [HG.out.cell (by omega)]; unfold addF; rw [if_neg (by omega), HZ.out k hlt]
        have fK := HG.out.free (o + k)
        have e4 : bits .xor .u8 ((z k : Nat) : Int) ((fs k : Nat) : Int) = ((z k ^^^ fs k : Nat) : Int) := u8_xor_nat _ _ (HZ8.out k hlt) (HFS.out k hlt)
        obtain ⟨V, hV⟩ : ∃ V, V = z k ^^^ fs k := ⟨_, rfl⟩
        have NV : Hid (FRow (wr.setCell ⟨g, o + k, none⟩ (.int .u8 (V : Int))) g T N (addF F z o (k + 1) 1 fs)) := (HG.out.set _ _).congr fun p _ => addF_step F z o k 1 fs V (by rw [one_gm8 (HFS.out k hlt)]; exact hV) p
        have N3 : Hid (w.grownBy (wr.setCell ⟨g, o + k, none⟩ (.int .u8 (V : Int))) (some g)) := grown_trans HGG.out grown_set
        rw [← hV] at e4
        obtain ⟨X, hX⟩ : ∃ X, X = z k := ⟨_, rfl⟩
        obtain ⟨E, hE⟩ : ∃ E, E = fs k := ⟨_, rfl⟩
        rw [← hX] at cK e4
        rw [← hE] at cF e4
        clear hV hX hE
        go_wp2
        go_roundw
        case rel => exact ⟨k + 1, by omega, by go_num, NV.out, N3.out⟩
        case measure => simp [intOf]; omega
      · have hke : k = n := by omega
        subst hke
        go_wp2
        go_end0
        exact ⟨rfl, HG.out, HGG.out⟩
  have d0 : ((f : Int) == 0) = false := by simp; omega
  have d1 : ((f : Int) == 1) = false := by simp; omega
  go_enter Tryd.func51, Tryd.ntmps51
  go_wp2_with fail
  refine (imultiples f hf _ HT.out).mono ?_
  rintro e w1 ⟨ts, rfl, htl, hts, hb1⟩
  have HTS := hid hts
  have HTL := hid htl
  have HZZ := hid (cells8_sizeOf htl)
  have hs1 := hb1.size
  have HB1 := hid hb1
  clear hts hb1
  go_wp2_with ((refine wpList_store_row rfl 132 (.tmp 8) (.tmp 13) rfl w1.heap.size (cells8 ts) rfl rfl _ _ (RowAt.new w1 _ _) HZZ.out (by rw [cells8_size, htl]; kernel_rfl) (cells8_one ts) ?_); rw [World.setRow_alloc_new])
  go_loopw [16] (fun y wr => ∃ (k : Nat), k ≤ n ∧ y = .int .i64 k ∧ FRow wr g T N (addF F z o k f fs) ∧ RowAt wr w1.heap.size 132 (cells8 ts) ∧ w.grownBy wr (some g)) (fun y _ => n - (intOf y).toNat)
  case atStart => exact ⟨0, Nat.zero_le _, rfl, ((HF.out.below HB1.out hgl).alloc _).congr fun p _ => addF_zero F z o f fs p, RowAt.new w1 _ _, grown_trans (below_grown HB1.out _) (World.grownBy_alloc w1 _ _)⟩
  case round =>
    obtain ⟨k, hk, rfl, hG, r1, hgr⟩ := hrel
    have HG := hid hG
    have R1 := hid r1
    have HGG := hid hgr
    clear hG r1 hgr
    by_cases hlt : k < n
    · have hlt' : (k : Int) < (n : Int) := by omega
      have hlt1 : (k : Int) < (n1 : Int) := by omega
      have i0 : (0 : Int) ≤ (k : Int) := by omega
      have sl : g2 < w.heap.size := World.block_lt_of_cell? w _ (HSR.out k hlt)
      have cF : wr.cell? ⟨g2, o2 + k, none⟩ = some (.int .u8 ((fs k : Nat) : Int)) := by
        rw [World.cell?_of_block (HGG.out.block g2 sl (fun e => hne (Option.some.inj e)))]; exact HSR.out k hlt
      have hek := HFS.out k hlt
      have cK : wr.cell? ⟨g, o + k, none⟩ = some (.int .u8 ((z k : Nat) : Int)) := by
        rw [HG.out.cell (by omega)]; unfold addF; rw [if_neg (by omega), HZ.out k hlt]
      have fK := HG.out.free (o + k)
      have hXl := HZ8.out k hlt
      obtain ⟨X, hX⟩ : ∃ X, X = z k := ⟨_, rfl⟩
      obtain ⟨E, hE⟩ : ∃ E, E = fs k := ⟨_, rfl⟩
      rw [← hX] at cK hXl
      rw [← hE] at cF hek
      have cT := (R1.out.cell E).trans (cells8_getD (zs := ts) (by rw [HTL.out]; exact hek))
      rw [HTS.out E hek] at cT
      obtain ⟨Y, hY⟩ : ∃ Y, Y = gm 8 29 f E := ⟨_, rfl⟩
      have hYl : Y < 256 := by rw [hY]; exact gm_lt fld8.toFld _ hf
      rw [← hY] at cT
      have e4 : bits .xor .u8 (X : Int) (Y : Int) = ((X ^^^ Y : Nat) : Int) := u8_xor_nat _ _ hXl hYl
      obtain ⟨V, hV⟩ : ∃ V, V = X ^^^ Y := ⟨_, rfl⟩
      rw [← hV] at e4
      have NV : Hid (FRow (wr.drew.setCell ⟨g, o + k, none⟩ (.int .u8 (V : Int))) g T N (addF F z o (k + 1) f fs)) := (HG.out.drew.set _ _).congr fun p _ => addF_step F z o k f fs V (by rw [hV, hX, hY, hE]) p
      have ne1 : w1.heap.size ≠ g := by omega
      have N2 : Hid (RowAt (wr.drew.setCell ⟨g, o + k, none⟩ (.int .u8 (V : Int))) w1.heap.size 132 (cells8 ts)) := R1.out.drew.other _ _ (by dsimp only; omega)
      have N3 : Hid (w.grownBy (wr.drew.setCell ⟨g, o + k, none⟩ (.int .u8 (V : Int))) (some g)) := grown_trans (grown_trans HGG.out (grown_drewN wr 1 _)) grown_set
      have i6 : (E : Int) < 256 := by omega
      have i7 : (0 : Int) ≤ (E : Int) := by omega
      clear hX hY hE hV
      go_wp2_with fail
      go_region
      all_goals go_wp2
      all_goals
        go_roundw
        case rel => exact ⟨k + 1, by omega, by go_num, NV.out, N2.out, N3.out⟩
        case measure => simp [intOf]; omega
    · have hke : k = n := by omega
      subst hke
      go_wp2
      go_end0
      exact ⟨rfl, HG.out, HGG.out⟩
end Go.Proofs.YthdmaamocejodaaDoor
