import Derived.Test.YtlobnmcjnaibaaaDoorRISwap
import Derived.Test.YtlobnmcjnaibaaaDoorRIAdd
import Derived.Test.YtlobnmcjnaibaaaDoorRMxLin
import Derived.Deep.CutRange
namespace Go.Proofs.YtlobnmcjnaibaaaDoorR
open Go.RowKit
theorem scAt_small {zs : List Nat} {o n f : Nat} (hf : f < 256) (h : Small zs) (p : Nat) : scAt zs o n f p < 256 := by
  unfold scAt; split
  · exact gm_lt fld8.toFld _ hf
  · exact h p
theorem addAt_small {zs : List Nat} {o n f : Nat} {fs : Nat → Nat} (hf : f < 256) (h : Small zs) (p : Nat) : addAt zs o n f fs p < 256 := by
  unfold addAt; split
  · exact Nat.xor_lt_two_pow (n := 8) (h p) (gm_lt fld8.toFld _ hf)
  · exact h p
/-- rows of one list do not meet -/
theorem row_apart {C i k j p : Nat} (hik : i ≠ k) (hj : j < C) (hp : p < C) : ¬ (i * C + j = k * C + p) := fun e => hik (pos_inj hj hp e).1
theorem in_row {C i k j : Nat} (hj : j < C) : (k * C ≤ i * C + j ∧ i * C + j < k * C + C) ↔ i = k := by
  constructor
  · rintro ⟨h1, h2⟩
    rcases Nat.lt_trichotomy i k with h | h | h
    · have : (i + 1) * C ≤ k * C := Nat.mul_le_mul_right C h
      rw [Nat.succ_mul] at this; omega
    · exact h
    · have : (k + 1) * C ≤ i * C := Nat.mul_le_mul_right C h
      rw [Nat.succ_mul] at this; omega
  · rintro rfl; omega
theorem mo_sc {C : Nat} {xs zs : List Nat} {row f i j : Nat} (h : ∀ p, zs.getD p 0 = scAt xs (row * C) C f p) (hj : j < C) : mo C zs i j = if i = row then gm 8 29 f (mo C xs i j) else mo C xs i j := by
  unfold mo; rw [h]; unfold scAt
  by_cases e : i = row
  · rw [if_pos ((in_row hj).2 e), if_pos e]
  · rw [if_neg (fun h => e ((in_row hj).1 h)), if_neg e]
theorem mo_add {C : Nat} {xs zs : List Nat} {row f i j : Nat} {fs : Nat → Nat} (h : ∀ p, zs.getD p 0 = addAt xs (row * C) C f fs p) (hj : j < C) : mo C zs i j = if i = row then mo C xs i j ^^^ gm 8 29 f (fs j) else mo C xs i j := by
  unfold mo; rw [h]; unfold addAt
  by_cases e : i = row
  · rw [if_pos ((in_row hj).2 e), if_pos e, e, Nat.add_sub_cancel_left]
  · rw [if_neg (fun h => e ((in_row hj).1 h)), if_neg e]
/-- the pivot's row feeds another row -/
theorem feeds_row {w : World} {g C R i row : Nat} {zs : List Nat} (hl : zs.length = R * C) (hrow : row < R) (hne : row ≠ i) : Feeds w g (i * C) C g (row * C) zs (fun j => mo C zs row j) := by
  intro wr zs' hG hl' hp _ k hk
  have hb : row * C + k < zs'.length := by rw [hl', hl]; exact mul_pos_lt hrow hk
  rw [hG.cell hb]
  have : ¬ (i * C ≤ row * C + k ∧ row * C + k < i * C + C) := fun h => hne ((in_row hk).1 h)
  rw [hp _ (by omega)]; rfl
set_option maxRecDepth 20000 in
set_option maxHeartbeats 8000000 in
theorem iunit (R C row col q g : Nat) (xs : List Nat) (w : World) (hT : Tab w) (hg1 : 1 < g) (hR : R ≤ 64) (hC : C ≤ 128) (hrow : row < R) (hcol : col < C) (hq : q = R * C) (hz : Gr w g xs) (hl : xs.length = q) (hs : Small xs) :
    Calls Tryd.prog 48 #[grv R C g q, .int .i64 row, .int .i64 col] w fun e w' => e = .returned (.tuple #[]) ∧ (∃ zs, Gr w' g zs ∧ zs.length = q ∧ Small zs ∧ ∀ i j, i < R → j < C → mo C zs i j = clrN (mo C xs) row col i j) ∧ w.grownBy w' (some g) := by
  have hqb : q ≤ 64 * 128 := by rw [hq]; exact Nat.mul_le_mul hR hC
  have hq8 : q ≤ 8192 := by omega
  have hC1 : 1 ≤ C := by omega
  have hg := hz.lt
  obtain ⟨P, hP⟩ : ∃ P, P = mo C xs row col := ⟨_, rfl⟩
  obtain ⟨f, hf⟩ : ∃ f, gp 8 29 P 254 = f := ⟨_, rfl⟩
  have hPl : P < 256 := by rw [hP]; exact hs _
  have hfl : f < 256 := by rw [← hf]; exact gp_lt fld8.toFld hPl 254
  have HF := hid hf
  have HP := hid hP
  have HQ := hid hq
  have HL := hid hl
  have HS := hid hs
  have HT := hid hT
  have orow : row * C + C ≤ q := by have := mul_pos_lt hrow (show C - 1 < C by omega); rw [← hq] at this; omega
  obtain ⟨qr, hqr⟩ : ∃ qr, qr = row * C := ⟨_, rfl⟩
  have HQR := hid hqr
  rw [← hqr] at orow
  obtain ⟨wA, hwA⟩ : ∃ wA, wA = (w.alloc (.cells #[.int .i64 R, .int .i64 C, .slice (some ⟨g, 0, none⟩) q q] 46)).alloc (.cells #[.int .i64 R, .int .i64 C, .slice (some ⟨g, 0, none⟩) q q] 46) := ⟨_, rfl⟩
  have S0 : Hid (PutSt w wA w.heap.size R C q g xs) := by
    rw [hwA]
    exact PutSt.alloc ⟨RowAt.new w _ _, hz.alloc _, hl, World.grownBy_alloc w _ _, by omega⟩ _
  have T0 : Hid (Tab wA) := by rw [hwA]; exact (HT.out.alloc _).alloc _
  have c0 : wA.cell? ⟨g, qr + col, none⟩ = some (.int .u8 (P : Int)) := by
    have := S0.out.Z.cell (i := qr + col) (by rw [hl]; omega)
    rw [this, hP, hqr]; rfl
  have c1 : ∀ o, (wA.alloc o).cell? ⟨g, qr + col, none⟩ = some (.int .u8 (P : Int)) := fun o => by
    have := (S0.out.Z.alloc o).cell (i := qr + col) (by rw [hl]; omega)
    rw [this, hP, hqr]; rfl
  clear hP hf hq hl hs hT hqb hz
  go_enter Tryd.func48, Tryd.ntmps48
  go_wp2_with (refine wpList_load_row rfl 46 (.tmp 3) rfl w.heap.size rfl _ _ _ _ (RowAt.new w _ _) Tryd.underlying46 rfl (by kernel_rfl) ?_)
  refine (irowF R C g q row hq8 HQ hR hC1 hrow _).mono ?_
  rintro e w1 ⟨rfl, rfl⟩
  rw [← hwA, ← hqr]
  clear hwA hqr
  have hcol' : (col : Int) < (C : Int) := by omega
  have hcol0 : (0 : Int) ≤ (col : Int) := by omega
  go_upto_region 2 with fail
  go_cut [18] from 11 to 18 (fun _ wx => ∃ zs, PutSt w wx w.heap.size R C q g zs ∧ (∀ p, zs.getD p 0 = scAt xs qr C f p))
  case first =>
    go_region_with ((first
      | (go_at_call 39; refine (field8 _).mono ?_; rintro e w2 ⟨rfl, rfl⟩)
      | (go_at_call 50; refine (inverse8 P f hPl HF _).mono ?_; rintro e w3 ⟨rfl, hb3⟩; have S3 := ((S0.out.drew).alloc _).below hb3; have T3 := ((T0.out.drew).alloc _).belowS hb3)
      | (go_at_call 54; refine (iscale f hfl g qr C _ xs _ T3 S3.Z (by rw [S3.len]; exact orow) HS.out (by omega)).mono ?_; rintro e w4 ⟨rfl, ⟨zs1, hz1, hl1, hp1⟩, hg4⟩)))
    all_goals go_wp2_with fail
    all_goals go_meet
    all_goals exact ⟨zs1, S3.grown hg4 hz1 (hl1.trans S3.len), hp1⟩
  case rest =>
    obtain ⟨zs0, hS, hp⟩ := hcut
    have T1 : Hid (Tab wc) := HT.out.far hS.gr hg1
    have SM : Hid (Small zs0) := fun p => by rw [hp p]; exact scAt_small hfl HS.out p
    have ZF : Hid (∀ i j, i < R → j < C → mo C zs0 i j = if i < 0 ∨ i = row then clrN (mo C xs) row col i j else mo C xs i j) := fun i j hi hj => by
      rw [mo_sc (row := row) (by rw [← HQR.out]; exact hp) hj]
      by_cases e : i = row
      · rw [if_pos e, if_pos (Or.inr e)]; unfold clrN; rw [if_pos e, ← HP.out, HF.out, e]
      · rw [if_neg e, if_neg (by omega)]
    have S1 := hid hS
    clear hp hS c0 c1 S0 T0
    have b0 := S1.out.B.cell 0
    go_wp2
    clear b0
    go_loopw [21] (fun y wr => ∃ (I : Nat) (zs : List Nat), I ≤ R ∧ y = .int .i64 I ∧ PutSt w wr w.heap.size R C q g zs ∧ Small zs ∧ (∀ i j, i < R → j < C → mo C zs i j = if i < I ∨ i = row then clrN (mo C xs) row col i j else mo C xs i j)) (fun y _ => R - (intOf y).toNat)
    case atStart => exact ⟨0, zs0, Nat.zero_le _, rfl, S1.out, SM.out, ZF.out⟩
    case round =>
      clear ZF SM S1 T1
      obtain ⟨I, zs, hI, rfl, hS, hsm, zf⟩ := hrel
      have ZF := hid zf
      have SM := hid hsm
      have S1 := hid hS
      clear zf hsm hS
      by_cases hlt : I < R
      · have hlt' : (I : Int) < (R : Int) := by omega
        by_cases hir : I = row
        · have d0 : ((I : Int) != (row : Int)) = false := by simp; omega
          have ZN : Hid (∀ i j, i < R → j < C → mo C zs i j = if i < I + 1 ∨ i = row then clrN (mo C xs) row col i j else mo C xs i j) := fun i j hi hj => by
            rw [ZF.out i j hi hj]
            by_cases e : i < I ∨ i = row
            · rw [if_pos e, if_pos (by omega)]
            · rw [if_neg e, if_neg (by omega)]
          go_wp2
          go_roundw
          case rel => exact ⟨I + 1, zs, by omega, by go_num, S1.out, SM.out, ZN.out⟩
          case measure => simp [intOf]; omega
        · have d0 : ((I : Int) != (row : Int)) = true := by simp; omega
          have T1 : Hid (Tab wr) := HT.out.far S1.out.gr hg1
          obtain ⟨F, hF⟩ : ∃ F, F = mo C zs I col := ⟨_, rfl⟩
          have hFl : F < 256 := by rw [hF]; exact SM.out _
          have bI : I * C + col < zs.length := by rw [S1.out.len, HQ.out]; exact mul_pos_lt hlt hcol
          have oI : I * C + C ≤ zs.length := by have := mul_pos_lt hlt (show C - 1 < C by omega); rw [S1.out.len, HQ.out]; omega
          have cF : ∀ o o', ((wr.alloc o).alloc o').cell? ⟨g, I * C + col, none⟩ = some (.int .u8 (F : Int)) := fun o o' => by rw [hF]; exact ((S1.out.Z.alloc o).alloc o').cell bI
          have b0 := S1.out.B.cell 0
          have b1 := S1.out.B.cell 1
          have b2 := S1.out.B.cell 2
          have b0' : ∀ o, (wr.alloc o).cell? ⟨w.heap.size, 0, none⟩ = some (.int .i64 R) := fun o => (S1.out.B.alloc o).cell 0
          have b1' : ∀ o, (wr.alloc o).cell? ⟨w.heap.size, 1, none⟩ = some (.int .i64 C) := fun o => (S1.out.B.alloc o).cell 1
          have b2' : ∀ o, (wr.alloc o).cell? ⟨w.heap.size, 2, none⟩ = some (.slice (some ⟨g, 0, none⟩) q q) := fun o => (S1.out.B.alloc o).cell 2
          have FE : ∀ W', Feeds W' g (I * C) C g qr zs (fun j => mo C zs row j) := fun W' => by rw [HQR.out]; exact feeds_row (R := R) (by rw [S1.out.len]; exact HQ.out) hrow (fun e => hir e.symm)
          have HFE := hid FE
          have OI := hid oI
          have ZN : Hid (∀ zs', (∀ p, zs'.getD p 0 = addAt zs (I * C) C F (fun j => mo C zs row j) p) → ∀ i j, i < R → j < C → mo C zs' i j = if i < I + 1 ∨ i = row then clrN (mo C xs) row col i j else mo C xs i j) := fun zs' hp i j hi hj => by
            rw [mo_add hp hj]
            by_cases e : i = I
            · subst e
              rw [if_pos rfl, if_pos (by omega), ZF.out i j hi hj, if_neg (by omega), hF, ZF.out i col hi hcol, if_neg (by omega), ZF.out row j hrow hj, if_pos (Or.inr rfl)]
              unfold clrN; rw [if_pos rfl, if_neg hir]
            · rw [if_neg e, ZF.out i j hi hj]
              by_cases e2 : i < I ∨ i = row
              · rw [if_pos e2, if_pos (by omega)]
              · rw [if_neg e2, if_neg (by omega)]
          have HIR := hid hir
          clear hF FE oI bI hir
          go_wp2_with fail
          go_region_with ((first
            | (go_at_call 46; refine (irowF R C g q _ hq8 HQ hR hC1 (by assumption) _).mono ?_; rintro e w2 ⟨rfl, rfl⟩)
            | (go_at_call 49; refine (iaddm F hFl g (I * C) C C _ g qr _ (Nat.le_refl _) zs (fun j => mo C zs row j) _ ((T1.out.alloc _).alloc _).drew ((S1.out.alloc _).alloc _).drew.Z OI.out SM.out (fun k _ => SM.out _) (by omega) (HFE.out _)).mono ?_; rintro e w4 ⟨rfl, ⟨zs1, hz1, hl1, hp1⟩, hg4⟩; have S4 := ((S1.out.alloc _).alloc _).drew.grown hg4 hz1 (hl1.trans S1.out.len); have Z4 := ZN.out zs1 hp1; have M4 : Small zs1 := fun p => by rw [hp1 p]; exact addAt_small hFl SM.out p)))
          all_goals
            have S4' := hid S4
            have Z4' := hid Z4
            have M4' := hid M4
            clear S4 Z4 M4 hp1 hz1 hg4 hl1 cF b0' b1' b2'
          all_goals go_wp2
          all_goals
            go_roundw
            case rel => exact ⟨I + 1, zs1, by omega, by go_num, S4'.out, M4'.out, Z4'.out⟩
            case measure => simp [intOf]; omega
      · have hIe : I = R := by omega
        subst hIe
        go_wp2
        go_end0
        exact ⟨rfl, ⟨zs, S1.out.Z, S1.out.len, SM.out, fun i j hi hj => by rw [ZF.out i j hi hj, if_pos (Or.inl hi)]⟩, S1.out.gr⟩
end Go.Proofs.YtlobnmcjnaibaaaDoorR
