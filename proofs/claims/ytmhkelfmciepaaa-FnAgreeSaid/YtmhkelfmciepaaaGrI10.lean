import Derived.Test.YtmhkelfmciepaaaGrI9
import Derived.Test.YtmhkelfmciepaaaGrS6
import Derived.Lib.MinMax
namespace Go.Proofs.Ytmhkelfmciepaaa
open Go.RowKit
set_option linter.unusedVariables false
/-! The program's partingOf. -/
set_option maxRecDepth 20000 in
set_option maxHeartbeats 2000000 in
theorem iPart (A L : List Ge) (aA aL : Option Addr) (cA cL : Nat) (hA : A.length ≤ 500) (hL : L.length ≤ 500) (w : World) (h1 : Ges w aA A.length cA (geAt A)) (h2 : Ges w aL L.length cL (geAt L)) :
    Calls Try.prog 46 #[.slice aA A.length cA, .slice aL L.length cL] w fun e w' => e = .returned (.int .i64 (gPart A L : Int)) ∧ ∃ n, w' = w.drewN n := by
  have H1 := hid h1
  have H2 := hid h2
  obtain ⟨S, hS⟩ : ∃ S, S = min A.length L.length := ⟨_, rfl⟩
  have hmin : min (A.length : Int) (L.length : Int) = (S : Int) := by omega
  have hSA : S ≤ A.length := by omega
  have hSL : S ≤ L.length := by omega
  have HS := hid hS
  clear h1 h2 hS
  go_enter Try.func46, Try.ntmps46
  go_upto_region 2 with fail
  clear hmin
  go_wp2_with fail
  go_loopw [6, 13] (fun y6 y13 wx => ∃ i : Nat, i ≤ S ∧ i ≤ gPart A L ∧ y13 = .int .i64 (i : Int) ∧ ∃ n, wx = w.drewN n) (fun _ y13 _ => S - (intOf y13).toNat)
  case atStart => exact ⟨0, Nat.zero_le _, Nat.zero_le _, rfl, 0, rfl⟩
  case round =>
    obtain ⟨i, hi, hg, rfl, n, hwr⟩ := hrel
    have HG := hid hg
    have HWR := hid hwr
    by_cases hlt : i < S
    · have hlt' : (i : Int) < (S : Int) := by omega
      have i1 : (i : Int) < (A.length : Int) := by omega
      have i2 : (i : Int) < (L.length : Int) := by omega
      have i0 : (0 : Int) ≤ (i : Int) := by omega
      rcases H1.out.2 with h00 | ⟨g1, o1, e1, hl1, hc1⟩
      · omega
      rcases H2.out.2 with h00 | ⟨g2, o2, e2, hl2, hc2⟩
      · omega
      subst e1 e2
      have l0 : wr.cell? ⟨g1, o1 + i * 2, none⟩ = some (.int .i64 (geAt A i).tm) := by rw [hwr]; exact (hc1 i (by omega)).1
      have l1 : wr.cell? ⟨g2, o2 + i * 2, none⟩ = some (.int .i64 (geAt L i).tm) := by rw [hwr]; exact (hc2 i (by omega)).1
      obtain ⟨t1, ht1⟩ : ∃ t, t = (geAt A i).tm := ⟨_, rfl⟩
      obtain ⟨t2, ht2⟩ : ∃ t, t = (geAt L i).tm := ⟨_, rfl⟩
      rw [← ht1] at l0
      rw [← ht2] at l1
      have HT1 := hid ht1
      have HT2 := hid ht2
      clear hwr hc1 hc2 ht1 ht2 hg
      by_cases he : t1 = t2
      · have d5 : (t1 != t2) = false := by rw [bne_eq_false_iff_eq]; exact he
        have GN : Hid (i + 1 ≤ gPart A L) := gPart_step HG.out (by omega) (by omega) (by rw [← HT1.out, ← HT2.out]; exact he)
        clear he
        go_wp2_with fail
        go_quiet (fail)
        go_wp2
        go_roundw
        case rel => exact ⟨i + 1, by omega, GN.out, by go_num, n + nq, by rw [HWR.out]; simp⟩
        case measure => simp [intOf]; omega
      · have d5 : (t1 != t2) = true := by rw [bne_iff_ne]; exact he
        have GN : Hid (gPart A L = i) := gPart_stop HG.out (by omega) (by omega) (by rw [← HT1.out, ← HT2.out]; exact he)
        clear he
        go_wp2_with fail
        go_quiet (fail)
        go_wp2
        go_ret
        exact ⟨by rw [GN.out]; rfl, n + nq, by rw [HWR.out]; simp⟩
    · have hlt' : ¬ (i : Int) < (S : Int) := by omega
      have gp := gPart_le A L
      have GE1 : Hid (gPart A L = S) := hid (by have := HS.out; have := HG.out; omega)
      clear hwr gp hg
      go_wp2
      go_ret
      exact ⟨by rw [GE1.out]; rfl, n, HWR.out⟩
end Go.Proofs.Ytmhkelfmciepaaa
