import Derived.Test.YtmhkelfmciepaaaDG
import Derived.Test.YtmhkelfmciepaaaGrS9
import Derived.Deep.QuietTactic
import Derived.BigQuiet
namespace Go.Proofs.Ytmhkelfmciepaaa
open Go.RowKit
set_option linter.unusedVariables false
/-! Drawn operations are operations that can be read. -/
def gq0 : Gq := ⟨0, 0, 0, [], ⟨#[]⟩, none, 0⟩
def gqAt (L : List Gq) (i : Nat) : Gq := L.getD i gq0
def gopAt (L : List Gq) (i : Nat) : Gop := ⟨(gqAt L i).kd, (gqAt L i).mb, (gqAt L i).dt, (gqAt L i).pe, (gqAt L i).tx⟩
theorem gqL_at : ∀ (L : List Gq) (k : Nat), k < L.length → (gqL L)[k * 5]? = some (.int .i64 (gqAt L k).kd) ∧ (gqL L)[k * 5 + 1]? = some (.int .i64 (gqAt L k).mb) ∧ (gqL L)[k * 5 + 2]? = some (.int .i64 (gqAt L k).dt) ∧ (gqL L)[k * 5 + 3]? = some (.slice (gqAt L k).pa (gqAt L k).pe.length (gqAt L k).pc) ∧ (gqL L)[k * 5 + 4]? = some (.string (gqAt L k).tx)
  | [], k, h => by simp at h
  | e :: L, 0, h => ⟨rfl, rfl, rfl, rfl, rfl⟩
  | e :: L, k + 1, h => by
    have q := gqL_at L k (by simpa using h)
    have e1 : gqL (e :: L) = .int .i64 e.kd :: .int .i64 e.mb :: .int .i64 e.dt :: .slice e.pa e.pe.length e.pc :: .string e.tx :: gqL L := rfl
    rw [e1, show (k + 1) * 5 = k * 5 + 1 + 1 + 1 + 1 + 1 by omega]
    simp only [List.getElem?_cons_succ]
    exact q
theorem OwnNums.intsQ {w : World} {B : Nat} {a : Option Addr} {c : Nat} {xs : List Int} (h : OwnNums w B 2 .i64 (.slice a xs.length c) xs) : Ints .i64 w a xs.length c xs := by
  rcases h.2 with ⟨h0, h1⟩ | ⟨g, cap, cur, he, hb, hr, hnc, hm, hsz, htk⟩
  · exact ⟨rfl, by omega, .inl h1⟩
  · injection he with e1 e2 e3
    subst e1 e3
    have R : RowAt w g 2 cur := hr
    refine ⟨rfl, hnc, .inr ⟨g, 0, rfl, R.lt, fun i hi => ?_⟩⟩
    have := congrArg (·[i]?) htk
    simp only [List.getElem?_take] at this
    rw [if_pos (by omega), Array.getElem?_toList] at this
    rw [Nat.zero_add, R.cell]
    refine this.trans ?_
    simp [hi]
theorem OwnGq.gops {w : World} {B : Nat} {a : Option Addr} {c : Nat} {L : List Gq} (h : OwnGq w B (.slice a L.length c) L) (hA : ∀ x ∈ L, GqOk w B x) (i : Nat) (hi : i ≤ L.length) : Gops w a i c (gopAt L) (fun k => (gqAt L k).pa) (fun k => (gqAt L k).pc) := by
  rcases h.2 with ⟨h0, h1⟩ | ⟨g, cap, cur, he, hb, hr, hnc, hm, hsz, htk⟩
  · exact ⟨by omega, .inl (by omega)⟩
  · injection he with e1 e2 e3
    subst e1 e3
    have R : RowAt w g 42 cur := hr
    refine ⟨by omega, .inr ⟨g, 0, rfl, R.lt, fun k hk => ?_⟩⟩
    obtain ⟨q0, q1, q2, q3, q4⟩ := gqL_at L k (by omega)
    have e1 : ∀ p, p < L.length * 5 → w.cell? ⟨g, p, none⟩ = (gqL L)[p]? := fun p hp => by
      have := congrArg (·[p]?) htk
      simp only [List.getElem?_take] at this
      rw [if_pos hp, Array.getElem?_toList] at this
      rw [R.cell]
      exact this
    have hm : gqAt L k ∈ L := by
      have e : gqAt L k = L[k] := by simp [gqAt, List.getD, (by omega : k < L.length)]
      rw [e]; exact List.getElem_mem _
    rw [Nat.zero_add, e1 _ (by omega), e1 _ (by omega), e1 _ (by omega), e1 _ (by omega), e1 _ (by omega)]
    exact ⟨q0, q1, q2, q3, q4, OwnNums.intsQ (hA _ hm).2.2⟩
theorem gopAt_ok {w : World} {B : Nat} {L : List Gq} (hA : ∀ x ∈ L, GqOk w B x) (k : Nat) : (gopAt L k).pe.length ≤ 1048576 ∧ (gopAt L k).tx.size ≤ 1048576 := by
  by_cases hk : k < L.length
  · have hm : gqAt L k ∈ L := by
      have e : gqAt L k = L[k] := by simp [gqAt, List.getD, hk]
      rw [e]; exact List.getElem_mem _
    have := hA _ hm
    exact ⟨Nat.le_trans this.1 (by omega), Nat.le_trans this.2.1 (by omega)⟩
  · have e : gqAt L k = gq0 := by simp [gqAt, List.getD, hk]
    show (gqAt L k).pe.length ≤ 1048576 ∧ (gqAt L k).tx.size ≤ 1048576
    rw [e]
    exact ⟨by decide, by decide⟩
end Go.Proofs.Ytmhkelfmciepaaa
namespace Go.Proofs.Ytmhkelfmciepaaa
open Go.RowKit
set_option linter.unusedVariables false
/-! laws.lwLog, laws.lwLeast. -/
set_option maxRecDepth 20000 in
set_option maxHeartbeats 4000000 in
theorem lwLog_all (w : World) (a1 a2 : Option Addr) (c1 c2 : Nat) (L M : List Ge) (h1 : Ges w a1 L.length c1 (geAt L)) (h2 : Ges w a2 M.length c2 (geAt M)) (n : Nat) (n1 : n ≤ L.length) (n2 : n ≤ M.length) (hL : L.length ≤ 1048576) (he : ∀ k, k < n → geAt L k = geAt M k) :
    Calls Try.prog 8 #[.slice a1 L.length c1, .slice a2 M.length c2, .int .i64 (n : Int)] w fun e w' => e = .returned (.bool true) ∧ ∃ m, w' = w.drewN m := by
  have H1 := hid h1
  have H2 := hid h2
  have HE := hid he
  clear h1 h2 he
  go_enter Try.func8, Try.ntmps8
  go_wp2_with fail
  go_loopw [7] (fun y7 wr => ∃ k : Nat, k ≤ n ∧ y7 = .int .i64 (k : Int) ∧ ∃ m, wr = w.drewN m) (fun y7 _ => n - (intOf y7).toNat)
  case atStart => exact ⟨0, Nat.zero_le _, rfl, 0, (World.drewN_zero w).symm⟩
  case round =>
    obtain ⟨k, hk, rfl, md, hD⟩ := hrel
    have HD := hid hD
    have hB : Below w.heap.size w wr := by rw [hD]; exact ⟨rfl, rfl, rfl, Nat.le_refl _, fun _ _ => rfl⟩
    clear hD
    by_cases hkn : k < n
    · have hkn' : (k : Int) < (n : Int) := by omega
      have kl1 : ¬ ((L.length : Int) ≤ (k : Int)) := by omega
      have kl2 : ¬ ((M.length : Int) ≤ (k : Int)) := by omega
      have ki1 : (k : Int) < (L.length : Int) := by omega
      have ki2 : (k : Int) < (M.length : Int) := by omega
      rcases (H1.out.below hB).2 with h0 | ⟨b1, o1, rfl, _, q1⟩
      · omega
      rcases (H2.out.below hB).2 with h0 | ⟨b2, o2, rfl, _, q2⟩
      · omega
      obtain ⟨x1, x2⟩ := q1 k (by omega)
      obtain ⟨y1, y2⟩ := q2 k (by omega)
      rw [← HE.out k hkn] at y1 y2
      clear q1 q2 hB
      go_upto_region 4 with fail
      go_quiet (fail)
      go_wp2_with fail
      go_roundw
      case rel => exact ⟨k + 1, hkn, by go_num, md + nq, by rw [HD.out, World.drewN_drewN]⟩
      case measure => simp [intOf]; omega
    · have hkn' : ¬ (k : Int) < (n : Int) := by omega
      clear hB
      go_wp2
      go_ret
      exact ⟨rfl, md, HD.out⟩
set_option maxRecDepth 20000 in
theorem lwLeast_all (w : World) (x y : Int) :
    Calls Try.prog 9 #[.int .i64 x, .int .i64 y] w fun e w' => e = .returned (.int .i64 (if x < y then x else y)) ∧ w' = w := by
  by_cases h : x < y
  · rw [if_pos h]
    go_enter Try.func9, Try.ntmps9
    go_wp2
    go_ret
    exact ⟨rfl, rfl⟩
  · rw [if_neg h]
    go_enter Try.func9, Try.ntmps9
    go_wp2
    go_ret
    exact ⟨rfl, rfl⟩
end Go.Proofs.Ytmhkelfmciepaaa
