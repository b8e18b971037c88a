import Derived.Test.YtlobnmcjnaibaaaDoorRIMult2
namespace Go.Proofs.YtlobnmcjnaibaaaDoorR
open Go.RowKit
theorem getD_set (zs : List Nat) (i x p : Nat) (hi : i < zs.length) : (zs.set i x).getD p 0 = if p = i then x else zs.getD p 0 := by
  rw [List.getD_eq_getElem?_getD]
  by_cases e : p = i
  · subst e; rw [List.getElem?_set_self hi, if_pos rfl]; rfl
  · rw [List.getElem?_set_ne (by omega), if_neg e, List.getD_eq_getElem?_getD]
/-- the bytes from o on with the multiples added -/
def addAt (zs : List Nat) (o n : Nat) (f : Nat) (fs : Nat → Nat) (p : Nat) : Nat := if o ≤ p ∧ p < o + n then zs.getD p 0 ^^^ gm 8 29 f (fs (p - o)) else zs.getD p 0
theorem one_gm8 {x : Nat} (h : x < 256) : gm 8 29 1 x = x := one_gm fld8.toFld h
/-- what is added can be read all the time -/
def Feeds (w : World) (g o n g2 o2 : Nat) (zs : List Nat) (fs : Nat → Nat) : Prop :=
  ∀ wr zs', Gr wr g zs' → zs'.length = zs.length → (∀ p, (p < o ∨ o + n ≤ p) → zs'.getD p 0 = zs.getD p 0) → w.grownBy wr (some g) → ∀ k, k < n → wr.cell? ⟨g2, o2 + k, none⟩ = some (.int .u8 ((fs k : Nat) : Int))
set_option maxRecDepth 20000 in
set_option maxHeartbeats 4000000 in
theorem iaddm (f : Nat) (hf : f < 256) (g o n n1 c1 g2 o2 c2 : Nat) (hn : n ≤ n1) (zs : List Nat) (fs : Nat → Nat) (w : World) (hT : Tab w) (hG : Gr w g zs) (hb : o + n ≤ zs.length) (hs : Small zs) (hfs : ∀ k, k < n → fs k < 256) (hN : n1 ≤ 1048576) (HF : Feeds w g o n g2 o2 zs fs) :
    Calls Tryd.prog 49 #[.slice (some ⟨g, o, none⟩) n1 c1, .slice (some ⟨g2, o2, none⟩) n c2, .int .u8 f] w fun e w' => e = .returned (.tuple #[]) ∧ (∃ zs', Gr w' g zs' ∧ zs'.length = zs.length ∧ ∀ p, zs'.getD p 0 = addAt zs o n f fs p) ∧ w.grownBy w' (some g) := by
  by_cases f0 : f = 0
  · subst f0
    go_enter Tryd.func49, Tryd.ntmps49
    go_wp2
    go_end0
    refine ⟨rfl, ⟨zs, hG, rfl, fun p => ?_⟩, below_grown (Below.refl _ _) _⟩
    unfold addAt
    split
    · rename_i h
      rw [zero_gm fld8.toFld (hfs _ (by omega)), Nat.xor_zero]
    · rfl
  by_cases f1 : f = 1
  · subst f1
    have HT := hid hT
    have HG := hid hG
    have HS := hid hs
    have HFS := hid hfs
    have HFF : Hid (Feeds w g o n g2 o2 zs fs) := HF
    have hgl := hG.lt
    clear hT hG hs hfs HF
    go_enter Tryd.func49, Tryd.ntmps49
    go_wp2
    go_loopw [37] (fun y wr => ∃ (k : Nat) (ys : List Nat), k ≤ n ∧ y = .int .i64 k ∧ ys.length = zs.length ∧ (∀ p, ys.getD p 0 = addAt zs o k 1 fs p) ∧ Gr wr g ys ∧ w.grownBy wr (some g)) (fun y _ => n - (intOf y).toNat)
    case atStart =>
      refine ⟨0, zs, Nat.zero_le _, rfl, rfl, fun p => ?_, HG.out, below_grown (Below.refl _ _) _⟩
      unfold addAt; rw [if_neg (by omega)]
    case round =>
      obtain ⟨k, ys, hk, rfl, hyl, hyp, hGr, hgr⟩ := hrel
      have HYP := hid hyp
      have HGr := hid hGr
      have HGG := hid hgr
      clear hyp hGr hgr
      by_cases hlt : k < n
      · have hlt' : (k : Int) < (n : Int) := by omega
        have hlt1 : (k : Int) < (n1 : Int) := by omega
        have i0 : (0 : Int) ≤ (k : Int) := by omega
        have hek := HFS.out k hlt
        have cF : wr.cell? ⟨g2, o2 + k, none⟩ = some (.int .u8 ((fs k : Nat) : Int)) := HFF.out wr ys HGr.out hyl (fun p hp => by rw [HYP.out p]; unfold addAt; rw [if_neg (by omega)]) HGG.out k hlt
        obtain ⟨E, hE⟩ : ∃ E, E = fs k := ⟨_, rfl⟩
        rw [← hE] at cF hek
        have cK := HGr.out.cell (i := o + k) (by omega)
        have fK := HGr.out.free (o + k)
        have yK : ys.getD (o + k) 0 = zs.getD (o + k) 0 := by rw [HYP.out]; unfold addAt; rw [if_neg (by omega)]
        rw [yK] at cK
        obtain ⟨X, hX⟩ : ∃ X, X = zs.getD (o + k) 0 := ⟨_, rfl⟩
        have hXl : X < 256 := by rw [hX]; exact HS.out _
        rw [← hX] at cK
        have e4 : bits .xor .u8 (X : Int) (E : Int) = ((X ^^^ E : Nat) : Int) := u8_xor_nat _ _ hXl hek
        obtain ⟨V, hV⟩ : ∃ V, V = X ^^^ E := ⟨_, rfl⟩
        rw [← hV] at e4
        have HV : Hid (∀ p, (ys.set (o + k) V).getD p 0 = addAt zs o (k + 1) 1 fs p) := fun p => by
          rw [getD_set _ _ _ _ (by omega)]
          unfold addAt
          by_cases e : p = o + k
          · subst e; rw [if_pos rfl, if_pos (by omega), hV, hX, hE, Nat.add_sub_cancel_left, one_gm8 (by rw [← hE]; exact hek)]
          · rw [if_neg e, HYP.out p]; unfold addAt
            by_cases h : o ≤ p ∧ p < o + k
            · rw [if_pos h, if_pos (by omega)]
            · rw [if_neg h, if_neg (by omega)]
        have N1 : Hid (Gr (wr.setCell ⟨g, o + k, none⟩ (.int .u8 V)) g (ys.set (o + k) V)) := HGr.out.set _ _
        have N3 : Hid (w.grownBy (wr.setCell ⟨g, o + k, none⟩ (.int .u8 V)) (some g)) := grown_trans HGG.out grown_set
        have HL : Hid (ys.length = zs.length) := hyl
        have i6 : (E : Int) < 256 := by omega
        have i7 : (0 : Int) ≤ (E : Int) := by omega
        clear hX hE hV yK hyl
        go_wp2
        go_roundw
        case rel => exact ⟨k + 1, ys.set (o + k) V, by omega, by go_num, by rw [List.length_set]; exact HL.out, HV.out, N1.out, N3.out⟩
        case measure => simp [intOf]; omega
      · have hke : k = n := by omega
        subst hke
        go_wp2
        go_end0
        exact ⟨rfl, ⟨ys, HGr.out, hyl, HYP.out⟩, HGG.out⟩
  have d0 : ((f : Int) == 0) = false := by simp; omega
  have d1 : ((f : Int) == 1) = false := by simp; omega
  have HT := hid hT
  have HG := hid hG
  have HS := hid hs
  have HFS := hid hfs
  have HFF : Hid (Feeds w g o n g2 o2 zs fs) := HF
  have hgl := hG.lt
  clear hT hG hs hfs HF
  go_enter Tryd.func49, Tryd.ntmps49
  go_wp2_with fail
  refine (imultiples f hf _ HT.out).mono ?_
  rintro e w1 ⟨ts, rfl, htl, hts, hb1⟩
  have HTS := hid hts
  have HTL := hid htl
  have HZ := hid (cells8_sizeOf htl)
  have hs1 := hb1.size
  have HB1 := hid hb1
  clear hts hb1
  go_wp2_with ((refine wpList_store_row rfl 73 (.tmp 8) (.tmp 13) rfl w1.heap.size (cells8 ts) rfl rfl _ _ (RowAt.new w1 _ _) HZ.out (by rw [cells8_size, htl]; kernel_rfl) (cells8_one ts) ?_); rw [World.setRow_alloc_new])
  go_loopw [16] (fun y wr => ∃ (k : Nat) (ys : List Nat), k ≤ n ∧ y = .int .i64 k ∧ ys.length = zs.length ∧ (∀ p, ys.getD p 0 = addAt zs o k f fs p) ∧ Gr wr g ys ∧ RowAt wr w1.heap.size 73 (cells8 ts) ∧ w.grownBy wr (some g)) (fun y _ => n - (intOf y).toNat)
  case atStart =>
    refine ⟨0, zs, Nat.zero_le _, rfl, rfl, fun p => ?_, (HG.out.below HB1.out hgl).alloc _, RowAt.new w1 _ _, grown_trans (below_grown HB1.out _) (World.grownBy_alloc w1 _ _)⟩
    unfold addAt; rw [if_neg (by omega)]
  case round =>
    obtain ⟨k, ys, hk, rfl, hyl, hyp, hGr, r1, hgr⟩ := hrel
    have HYP := hid hyp
    have HGr := hid hGr
    have R1 := hid r1
    have HGG := hid hgr
    clear hyp hGr r1 hgr
    by_cases hlt : k < n
    · have hlt' : (k : Int) < (n : Int) := by omega
      have hlt1 : (k : Int) < (n1 : Int) := by omega
      have i0 : (0 : Int) ≤ (k : Int) := by omega
      have hek := HFS.out k hlt
      have cF : wr.cell? ⟨g2, o2 + k, none⟩ = some (.int .u8 ((fs k : Nat) : Int)) := HFF.out wr ys HGr.out hyl (fun p hp => by rw [HYP.out p]; unfold addAt; rw [if_neg (by omega)]) HGG.out k hlt
      obtain ⟨E, hE⟩ : ∃ E, E = fs k := ⟨_, rfl⟩
      rw [← hE] at cF hek
      have cT := (R1.out.cell E).trans (cells8_getD (zs := ts) (by rw [HTL.out]; exact hek))
      rw [HTS.out E hek] at cT
      have cK := HGr.out.cell (i := o + k) (by omega)
      have fK := HGr.out.free (o + k)
      have yK : ys.getD (o + k) 0 = zs.getD (o + k) 0 := by rw [HYP.out]; unfold addAt; rw [if_neg (by omega)]
      rw [yK] at cK
      obtain ⟨X, hX⟩ : ∃ X, X = zs.getD (o + k) 0 := ⟨_, rfl⟩
      obtain ⟨T, hT⟩ : ∃ T, T = gm 8 29 f E := ⟨_, rfl⟩
      have hXl : X < 256 := by rw [hX]; exact HS.out _
      have hTl : T < 256 := by rw [hT]; exact gm_lt fld8.toFld _ hf
      rw [← hX] at cK
      rw [← hT] at cT
      have e4 : bits .xor .u8 (X : Int) (T : Int) = ((X ^^^ T : Nat) : Int) := u8_xor_nat _ _ hXl hTl
      obtain ⟨V, hV⟩ : ∃ V, V = X ^^^ T := ⟨_, rfl⟩
      rw [← hV] at e4
      have HV : Hid (∀ p, (ys.set (o + k) V).getD p 0 = addAt zs o (k + 1) f fs p) := fun p => by
        rw [getD_set _ _ _ _ (by omega)]
        unfold addAt
        by_cases e : p = o + k
        · subst e; rw [if_pos rfl, if_pos (by omega), hV, hX, hT, hE, Nat.add_sub_cancel_left]
        · rw [if_neg e, HYP.out p]; unfold addAt
          by_cases h : o ≤ p ∧ p < o + k
          · rw [if_pos h, if_pos (by omega)]
          · rw [if_neg h, if_neg (by omega)]
      have ne1 : w1.heap.size ≠ g := by omega
      have N1 : Hid (Gr (wr.drew.setCell ⟨g, o + k, none⟩ (.int .u8 V)) g (ys.set (o + k) V)) := HGr.out.drew.set _ _
      have N2 : Hid (RowAt (wr.drew.setCell ⟨g, o + k, none⟩ (.int .u8 V)) w1.heap.size 73 (cells8 ts)) := R1.out.drew.other _ _ (by dsimp only; omega)
      have N3 : Hid (w.grownBy (wr.drew.setCell ⟨g, o + k, none⟩ (.int .u8 V)) (some g)) := grown_trans (grown_trans HGG.out (grown_drewN wr 1 _)) grown_set
      have KT : Hid ((wr.setCell ⟨g, o + k, none⟩ (.int .u8 V)).drew.cell? ⟨w1.heap.size, E, none⟩ = some (.int .u8 T)) := by
        have h := (R1.out.other ⟨g, o + k, none⟩ (.int .u8 V) (by dsimp only; omega)).cell E
        rw [← R1.out.cell E, cT] at h; exact h
      have HL : Hid (ys.length = zs.length) := hyl
      have i6 : (E : Int) < 256 := by omega
      have i7 : (0 : Int) ≤ (E : Int) := by omega
      clear hX hT hE hV yK hyl
      go_wp2_with fail
      go_region
      all_goals go_wp2
      all_goals
        go_roundw
        case rel => exact ⟨k + 1, ys.set (o + k) V, by omega, by go_num, by rw [List.length_set]; exact HL.out, HV.out, N1.out, N2.out, N3.out⟩
        case measure => simp [intOf]; omega
    · have hke : k = n := by omega
      subst hke
      go_wp2
      go_end0
      exact ⟨rfl, ⟨ys, HGr.out, hyl, HYP.out⟩, HGG.out⟩
/-- the bytes from o on taken so often -/
def scAt (zs : List Nat) (o n : Nat) (f : Nat) (p : Nat) : Nat := if o ≤ p ∧ p < o + n then gm 8 29 f (zs.getD p 0) else zs.getD p 0
set_option maxRecDepth 20000 in
set_option maxHeartbeats 4000000 in
theorem iscale (f : Nat) (hf : f < 256) (g o n c1 : Nat) (zs : List Nat) (w : World) (hT : Tab w) (hG : Gr w g zs) (hb : o + n ≤ zs.length) (hs : Small zs) (hN : n ≤ 1048576) :
    Calls Tryd.prog 54 #[.slice (some ⟨g, o, none⟩) n c1, .int .u8 f] w fun e w' => e = .returned (.tuple #[]) ∧ (∃ zs', Gr w' g zs' ∧ zs'.length = zs.length ∧ ∀ p, zs'.getD p 0 = scAt zs o n f p) ∧ w.grownBy w' (some g) := by
  have HT := hid hT
  have HG := hid hG
  have HS := hid hs
  have hgl := hG.lt
  clear hT hG hs
  go_enter Tryd.func54, Tryd.ntmps54
  go_wp2_with fail
  refine (imultiples f hf _ HT.out).mono ?_
  rintro e w1 ⟨ts, rfl, htl, hts, hb1⟩
  have HTS := hid hts
  have HTL := hid htl
  have HZ := hid (cells8_sizeOf htl)
  have hs1 := hb1.size
  have HB1 := hid hb1
  clear hts hb1
  go_wp2_with ((refine wpList_store_row rfl 73 (.tmp 4) (.tmp 8) rfl w1.heap.size (cells8 ts) rfl rfl _ _ (RowAt.new w1 _ _) HZ.out (by rw [cells8_size, htl]; kernel_rfl) (cells8_one ts) ?_); rw [World.setRow_alloc_new])
  go_loopw [11] (fun y wr => ∃ (k : Nat) (ys : List Nat), k ≤ n ∧ y = .int .i64 k ∧ ys.length = zs.length ∧ (∀ p, ys.getD p 0 = scAt zs o k f p) ∧ Gr wr g ys ∧ RowAt wr w1.heap.size 73 (cells8 ts) ∧ w.grownBy wr (some g)) (fun y _ => n - (intOf y).toNat)
  case atStart =>
    refine ⟨0, zs, Nat.zero_le _, rfl, rfl, fun p => ?_, (HG.out.below HB1.out hgl).alloc _, RowAt.new w1 _ _, grown_trans (below_grown HB1.out _) (World.grownBy_alloc w1 _ _)⟩
    unfold scAt; rw [if_neg (by omega)]
  case round =>
    obtain ⟨k, ys, hk, rfl, hyl, hyp, hGr, r1, hgr⟩ := hrel
    have HYP := hid hyp
    have HGr := hid hGr
    have R1 := hid r1
    have HGG := hid hgr
    clear hyp hGr r1 hgr
    by_cases hlt : k < n
    · have hlt' : (k : Int) < (n : Int) := by omega
      have i0 : (0 : Int) ≤ (k : Int) := by omega
      have cK := HGr.out.cell (i := o + k) (by omega)
      have fK := HGr.out.free (o + k)
      have yK : ys.getD (o + k) 0 = zs.getD (o + k) 0 := by rw [HYP.out]; unfold scAt; rw [if_neg (by omega)]
      rw [yK] at cK
      obtain ⟨X, hX⟩ : ∃ X, X = zs.getD (o + k) 0 := ⟨_, rfl⟩
      have hXl : X < 256 := by rw [hX]; exact HS.out _
      rw [← hX] at cK
      have cT := (R1.out.cell X).trans (cells8_getD (zs := ts) (by rw [HTL.out]; exact hXl))
      rw [HTS.out X hXl] at cT
      obtain ⟨T, hT⟩ : ∃ T, T = gm 8 29 f X := ⟨_, rfl⟩
      rw [← hT] at cT
      have HV : Hid (∀ p, (ys.set (o + k) T).getD p 0 = scAt zs o (k + 1) f p) := fun p => by
        rw [getD_set _ _ _ _ (by omega)]
        unfold scAt
        by_cases e : p = o + k
        · subst e; rw [if_pos rfl, if_pos (by omega), hT, hX]
        · rw [if_neg e, HYP.out p]; unfold scAt
          by_cases h : o ≤ p ∧ p < o + k
          · rw [if_pos h, if_pos (by omega)]
          · rw [if_neg h, if_neg (by omega)]
      have N1 : Hid (Gr (wr.setCell ⟨g, o + k, none⟩ (.int .u8 T)) g (ys.set (o + k) T)) := HGr.out.set _ _
      have N2 : Hid (RowAt (wr.setCell ⟨g, o + k, none⟩ (.int .u8 T)) w1.heap.size 73 (cells8 ts)) := R1.out.other _ _ (by dsimp only; omega)
      have N3 : Hid (w.grownBy (wr.setCell ⟨g, o + k, none⟩ (.int .u8 T)) (some g)) := grown_trans HGG.out grown_set
      have HL : Hid (ys.length = zs.length) := hyl
      have i6 : (X : Int) < 256 := by omega
      have i7 : (0 : Int) ≤ (X : Int) := by omega
      clear hX hT yK hyl
      go_wp2
      go_roundw
      case rel => exact ⟨k + 1, ys.set (o + k) T, by omega, by go_num, by rw [List.length_set]; exact HL.out, HV.out, N1.out, N2.out, N3.out⟩
      case measure => simp [intOf]; omega
    · have hke : k = n := by omega
      subst hke
      go_wp2
      go_end0
      exact ⟨rfl, ⟨ys, HGr.out, hyl, HYP.out⟩, HGG.out⟩
end Go.Proofs.YtlobnmcjnaibaaaDoorR
