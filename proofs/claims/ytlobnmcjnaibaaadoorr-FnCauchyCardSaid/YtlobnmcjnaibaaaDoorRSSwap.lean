import Derived.Test.YtlobnmcjnaibaaaDoorRSMul2
import Derived.Deep.RegionHeld3
namespace Go.Proofs.YtlobnmcjnaibaaaDoorR
open Go.RowKit
/-! Elimination in place. -/
/-- the cells of a list as a matrix of C columns -/
def mo (C : Nat) (zs : List Nat) (i j : Nat) : Nat := zs.getD (i * C + j) 0
theorem pos_inj {C i j i' j' : Nat} (hj : j < C) (hj' : j' < C) (h : i * C + j = i' * C + j') : i = i' ∧ j = j' := by
  have a1 : (i * C + j) / C = i := by rw [Nat.mul_comm, Nat.mul_add_div (by omega), Nat.div_eq_of_lt hj, Nat.add_zero]
  have a2 : (i' * C + j') / C = i' := by rw [Nat.mul_comm, Nat.mul_add_div (by omega), Nat.div_eq_of_lt hj', Nat.add_zero]
  have e : i = i' := by rw [← a1, ← a2, h]
  subst e
  exact ⟨rfl, by omega⟩
theorem mo_set {C : Nat} {zs : List Nat} {i0 j0 x i j : Nat} (hl : i0 * C + j0 < zs.length) (hj0 : j0 < C) (hj : j < C) :
    mo C (zs.set (i0 * C + j0) x) i j = if i = i0 ∧ j = j0 then x else mo C zs i j := by
  unfold mo
  by_cases e : i = i0 ∧ j = j0
  · obtain ⟨rfl, rfl⟩ := e
    rw [if_pos ⟨rfl, rfl⟩, List.getD_eq_getElem?_getD, List.getElem?_set_self hl]; rfl
  · rw [if_neg e, List.getD_eq_getElem?_getD, List.getD_eq_getElem?_getD, List.getElem?_set_ne (fun h => e ?_)]
    have := pos_inj hj0 hj h
    exact ⟨this.1.symm, this.2.symm⟩
def swpN (A : Nat → Nat → Nat) (a b i j : Nat) : Nat := if i = a then A b j else if i = b then A a j else A i j
theorem swap_step {R C a b J : Nat} {zs : List Nat} {A : Nat → Nat → Nat} (hl : zs.length = R * C) (ha : a < R) (hb : b < R) (hJ : J < C) (zf : ∀ i j, i < R → j < C → mo C zs i j = if j < J then swpN A a b i j else A i j)
    (i j : Nat) (hi : i < R) (hj : j < C) : mo C ((zs.set (a * C + J) (mo C zs b J)).set (b * C + J) (mo C zs a J)) i j = if j < J + 1 then swpN A a b i j else A i j := by
  have la : a * C + J < zs.length := by rw [hl]; exact mul_pos_lt ha hJ
  have lb : b * C + J < (zs.set (a * C + J) (mo C zs b J)).length := by rw [List.length_set, hl]; exact mul_pos_lt hb hJ
  have za : mo C zs a J = A a J := by rw [zf a J ha hJ, if_neg (by omega)]
  have zb : mo C zs b J = A b J := by rw [zf b J hb hJ, if_neg (by omega)]
  rw [mo_set lb hJ hj, mo_set la hJ hj, za, zb, zf i j hi hj]
  unfold swpN
  by_cases e : j = J
  · subst e
    by_cases h1 : i = b
    · by_cases h2 : i = a
      · have hab : a = b := by omega
        subst hab
        simp [h1]
      · simp [h1, show ¬ b = a by omega]
    · by_cases h2 : i = a
      · simp [h2, show ¬ a = b by omega]
      · simp [h1, h2]
  · simp only [e, and_false, if_false]
    by_cases h : j < J
    · rw [if_pos h, if_pos (show j < J + 1 by omega)]
    · rw [if_neg h, if_neg (show ¬ j < J + 1 by omega)]
/-- a matrix in place: its box is a value, its cells lie in block g -/
structure InPl (w : World) (g R C q : Nat) (zs : List Nat) : Prop where
  Z : Wr .i64 w g 0 (nl zs)
  len : zs.length = q
set_option maxRecDepth 20000 in
set_option maxHeartbeats 2000000 in
theorem sswap (R C a b q cp g : Nat) (hcp : q ≤ cp) (xs : List Nat) (w : World) (hR : R ≤ 64) (hC : C ≤ 128) (ha : a < R) (hb : b < R) (hq : q = R * C) (hz : Wr .i64 w g 0 (nl xs)) (hl : xs.length = q) :
    Calls Tryd.prog 29 #[mxv R C (some ⟨g, 0, none⟩) q cp, .int .i64 a, .int .i64 b] w fun e w' => e = .returned (.tuple #[]) ∧ (∃ zs, Wr .i64 w' g 0 (nl zs) ∧ zs.length = q ∧ ∀ i j, i < R → j < C → mo C zs i j = swpN (mo C xs) a b i j) ∧ w.grownBy w' (some g) := by
  have hqb : q ≤ 64 * 128 := by rw [hq]; exact Nat.mul_le_mul hR hC
  have hg := hz.lt
  obtain ⟨qa, hqa⟩ : ∃ qa, qa = a * C := ⟨_, rfl⟩
  obtain ⟨qb, hqb'⟩ : ∃ qb, qb = b * C := ⟨_, rfl⟩
  have QA : (a : Int) * (C : Int) = (qa : Int) := by rw [hqa]; simp
  have QB : (b : Int) * (C : Int) = (qb : Int) := by rw [hqb']; simp
  have BA : Hid (∀ j, j < C → qa + j < q) := fun j hj => by rw [hqa, hq]; exact mul_pos_lt ha hj
  have BB : Hid (∀ j, j < C → qb + j < q) := fun j hj => by rw [hqb', hq]; exact mul_pos_lt hb hj
  have HQA := hid hqa
  have HQB := hid hqb'
  have HQ := hid hq
  have HZ := hid hz
  have HL := hid hl
  clear hqa hqb' hq hz hl
  go_enter Tryd.func29, Tryd.ntmps29
  go_wp2
  go_loopw [6] (fun y wr => ∃ (J : Nat) (zs : List Nat), J ≤ C ∧ y = .int .i64 J ∧ Wr .i64 wr g 0 (nl zs) ∧ zs.length = q ∧ (∀ i j, i < R → j < C → mo C zs i j = if j < J then swpN (mo C xs) a b i j else mo C xs i j) ∧ RowAt wr w.heap.size 25 #[.int .i64 R, .int .i64 C, .slice (some ⟨g, 0, none⟩) q cp] ∧ w.grownBy wr (some g)) (fun y _ => C - (intOf y).toNat)
  case atStart => exact ⟨0, xs, Nat.zero_le _, rfl, HZ.out.alloc _, HL.out, fun i j _ _ => by rw [if_neg (by omega)], RowAt.new w _ _, World.grownBy_alloc w _ _⟩
  case round =>
    obtain ⟨J, zs, hJ, rfl, z, zl, zf, r0, hgr⟩ := hrel
    have Z := hid z
    have ZL := hid zl
    have ZF := hid zf
    have R0 := hid r0
    have HG := hid hgr
    clear z zl zf r0 hgr
    have c1 := R0.out.cell 1
    have c2 := R0.out.cell 2
    have c0 := R0.out.cell 0
    have l0 := R0.out.lt
    have lg := Z.out.lt
    by_cases hlt : J < C
    · have hlt' : (J : Int) < (C : Int) := by omega
      have ba := BA.out J hlt
      have bb := BB.out J hlt
      obtain ⟨X, hX⟩ : ∃ X, zs.getD (qa + J) 0 = X := ⟨_, rfl⟩
      obtain ⟨Y, hY⟩ : ∃ Y, zs.getD (qb + J) 0 = Y := ⟨_, rfl⟩
      have HX := hid hX
      have HY := hid hY
      clear hX hY
      have i1 : ((qa : Int) + (J : Int)) < (q : Int) := by omega
      have i0 : (0 : Int) ≤ (qa : Int) + (J : Int) := by omega
      have e9 : ((qa : Int) + (J : Int)).toNat = qa + J := by omega
      have i3 : ((qb : Int) + (J : Int)) < (q : Int) := by omega
      have i2 : (0 : Int) ≤ (qb : Int) + (J : Int) := by omega
      have e8 : ((qb : Int) + (J : Int)).toNat = qb + J := by omega
      go_wp2_with fail
      refine (satn R C a J qa X (some ⟨g, 0, none⟩) q cp zs _ ?_ QA ba (by omega) HX).mono ?_
      · have := Z.out.ints (cap := cp) (by rw [nl_len, ZL.out]; exact hcp)
        rw [nl_len, ZL.out] at this; exact this
      rintro e w4 ⟨rfl, rfl⟩
      go_wp2_with fail
      refine (satn R C b J qb Y (some ⟨g, 0, none⟩) q cp zs _ ?_ QB bb (by omega) HY).mono ?_
      · have := (Z.out.alloc (.cells #[.int .i64 R, .int .i64 C, .slice (some ⟨g, 0, none⟩) q cp] 25)).ints (cap := cp) (by rw [nl_len, ZL.out]; exact hcp)
        rw [nl_len, ZL.out] at this; exact this
      rintro e w4 ⟨rfl, rfl⟩
      obtain ⟨wB, hwB⟩ : ∃ wB, wB = (wr.alloc (.cells #[.int .i64 R, .int .i64 C, .slice (some ⟨g, 0, none⟩) q cp] 25)).alloc (.cells #[.int .i64 R, .int .i64 C, .slice (some ⟨g, 0, none⟩) q cp] 25) := ⟨_, rfl⟩
      rw [← hwB]
      have RB := hid ((R0.out.alloc (.cells #[.int .i64 R, .int .i64 C, .slice (some ⟨g, 0, none⟩) q cp] 25)).alloc (.cells #[.int .i64 R, .int .i64 C, .slice (some ⟨g, 0, none⟩) q cp] 25))
      have ZB := hid ((Z.out.alloc (.cells #[.int .i64 R, .int .i64 C, .slice (some ⟨g, 0, none⟩) q cp] 25)).alloc (.cells #[.int .i64 R, .int .i64 C, .slice (some ⟨g, 0, none⟩) q cp] 25))
      have GB := hid (grown_trans HG.out (grown_trans (World.grownBy_alloc wr (.cells #[.int .i64 R, .int .i64 C, .slice (some ⟨g, 0, none⟩) q cp] 25) (some g)) (World.grownBy_alloc _ (.cells #[.int .i64 R, .int .i64 C, .slice (some ⟨g, 0, none⟩) q cp] 25) (some g))))
      rw [← hwB] at RB ZB GB
      clear hwB c0 c1 c2
      have lz : (nl zs).length = q := by rw [nl_len]; exact ZL.out
      have LZ := hid lz
      have hne : w.heap.size ≠ g := by omega
      have k1 := RB.out.cell 1
      have k2 := RB.out.cell 2
      have f1 := ZB.out.free (qa + J)
      have z1 : wB.cell? ⟨g, qa + J, none⟩ = some (.int .i64 ((nl zs).getD (qa + J) 0)) := by have := ZB.out.cell (i := qa + J) (by omega); rwa [Nat.zero_add] at this
      have ZC : Hid (Wr .i64 (wB.setCell ⟨g, qa + J, none⟩ (.int .i64 Y)) g 0 (nl (zs.set (qa + J) Y))) := by
        have := ZB.out.set (qa + J) (Y : Int) (by omega); rw [Nat.zero_add, nl_set] at this; exact this
      have RC := hid (RB.out.other ⟨g, qa + J, none⟩ (.int .i64 Y) hne)
      have k3 := RC.out.cell 1
      have k4 := RC.out.cell 2
      have f2 := ZC.out.free (qb + J)
      have z2 : (wB.setCell ⟨g, qa + J, none⟩ (.int .i64 Y)).cell? ⟨g, qb + J, none⟩ = some (.int .i64 ((nl (zs.set (qa + J) Y)).getD (qb + J) 0)) := by have := ZC.out.cell (i := qb + J) (by rw [nl_len, List.length_set, ← nl_len]; omega); rwa [Nat.zero_add] at this
      have ZD : Hid (Wr .i64 ((wB.setCell ⟨g, qa + J, none⟩ (.int .i64 Y)).setCell ⟨g, qb + J, none⟩ (.int .i64 X)) g 0 (nl ((zs.set (qa + J) Y).set (qb + J) X))) := by
        have := ZC.out.set (qb + J) (X : Int) (by rw [nl_len, List.length_set, ← nl_len]; omega); rw [Nat.zero_add, nl_set] at this; exact this
      have RD := hid (RC.out.other ⟨g, qb + J, none⟩ (.int .i64 X) hne)
      have GD : Hid (w.grownBy ((wB.setCell ⟨g, qa + J, none⟩ (.int .i64 Y)).setCell ⟨g, qb + J, none⟩ (.int .i64 X)) (some g)) := grown_trans GB.out (grown_trans grown_set grown_set)
      have FD : Hid (∀ i j, i < R → j < C → mo C ((zs.set (qa + J) Y).set (qb + J) X) i j = if j < J + 1 then swpN (mo C xs) a b i j else mo C xs i j) := fun i j hi hj => by
        have e1 : Y = mo C zs b J := by rw [← HY.out, HQB.out]; rfl
        have e2 : X = mo C zs a J := by rw [← HX.out, HQA.out]; rfl
        rw [e1, e2, HQA.out, HQB.out]
        exact swap_step (by rw [ZL.out]; exact HQ.out) ha hb hlt ZF.out i j hi hj
      clear lz
      go_wp2
      go_roundw
      case rel => exact ⟨J + 1, (zs.set (qa + J) Y).set (qb + J) X, by omega, by go_num, ZD.out, by rw [List.length_set, List.length_set]; exact ZL.out, FD.out, RD.out, GD.out⟩
      case measure => simp [intOf]; omega
    · have hJe : J = C := by omega
      subst hJe
      go_wp2
      go_end0
      exact ⟨rfl, ⟨zs, Z.out, ZL.out, fun i j hi hj => by rw [ZF.out i j hi hj, if_pos hj]⟩, HG.out⟩
end Go.Proofs.YtlobnmcjnaibaaaDoorR
