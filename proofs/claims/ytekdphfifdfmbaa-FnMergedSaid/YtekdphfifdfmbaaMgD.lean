import Derived.Test.YtekdphfifdfmbaaMgC
import Derived.Test.YtekdphfifdfmbaaICount
namespace Go.Proofs.Ytekdphfifdfmbaa
open Go.RowKit
set_option linter.unusedVariables false
/-! The program's MergeRuns. -/
theorem fldR (v : Value) (w : World) : (Instr.field 28 (.agg #[v]) 0).run Try.prog w = .ok v w := by kernel_rfl
theorem mr_ret {w W' : World} {v : Value} {P : Value → World → Prop} {tm : Array Value} (sa : RowAt W' w.heap.size 28 #[v]) (so : P v W') (bl : Below w.heap.size w W') (h2 : tm.getD 4 undef = .pointer (some ⟨w.heap.size, 0, none⟩)) :
    bodyPost Try.prog Try.f7 (fun e w' => (∃ v, e = .returned (.agg #[v]) ∧ P v w') ∧ Below w.heap.size w w') Exit.ret { tmps := tm, defers := [] } W' := by
  refine bodyPost_ret (v := .agg #[v]) ?_ rfl ⟨⟨v, rfl, so⟩, bl⟩
  exact results_cell_row Try.results7 _ _ w.heap.size _ _ _ _ h2 sa Try.underlying28 rfl (by kernel_rfl)
set_option maxRecDepth 20000 in
set_option maxHeartbeats 4000000 in
theorem iMR_no (a : Option Addr) (m cap : Nat) (R : Nat → Rn) (fl : Int) (hc : cntR R m ≤ 1073741824) (hm : m ≤ 1048576) (hz : RnSz R m) (hn : ¬ (m ≤ 20 ∧ runsB R m = true)) (w : World) (h : Rns w a m cap R) :
    Calls Try.prog 7 #[.slice a m cap, .int .i64 fl] w fun e w' => (∃ v, e = .returned (.agg #[v]) ∧ v = .slice none 0 0) ∧ Below w.heap.size w w' := by
  obtain ⟨W1, hW1⟩ : ∃ W, W = w.alloc (.cells #[.slice none 0 0] 28) := ⟨_, rfl⟩
  have B1 : Hid (Below w.heap.size w W1) := by rw [hW1]; exact (Below.refl _ _).alloc (Nat.le_refl _) _
  have R1 : Hid (RowAt W1 w.heap.size 28 #[.slice none 0 0]) := by rw [hW1]; exact RowAt.new _ _ _
  by_cases h20 : m ≤ 20
  · have d0 : ¬ (20 : Int) < (m : Int) := by omega
    have K := hid (iRunsFit a m cap R hc hm hz W1 (h.below B1.out))
    have rb : runsB R m = false := by cases e : runsB R m with | false => rfl | true => exact absurd ⟨h20, e⟩ hn
    rw [rb] at K
    clear h hn rb
    go_enter Try.func7, Try.ntmps7
    go_upto_region 1 with fail
    rw [← hW1]
    clear hW1
    go_wp2_with fail
    refine K.out.mono ?_
    rintro e w2 ⟨rfl, hb2⟩
    have R2 := hid (R1.out.below hb2 R1.out.lt)
    have B2 := hid (B1.out.trans (hb2.mono B1.out.size))
    clear hb2 K
    go_wp2_with (refine wpList_store_row rfl 28 (.tmp 4) (.tmp 13) rfl w.heap.size #[.slice none 0 0] rfl rfl _ _ R2.out (by kernel_rfl) rfl (by simp [Value.oneCell']) ?_)
    exact mr_ret (P := fun v _ => v = .slice none 0 0) (R2.out.setRow _) rfl (below_setRow B2.out _ _ (Nat.le_refl _)) rfl
  · have d0 : (20 : Int) < (m : Int) := by omega
    clear h hn
    go_enter Try.func7, Try.ntmps7
    go_upto_region 1 with fail
    rw [← hW1]
    clear hW1
    go_wp2_with (refine wpList_store_row rfl 28 (.tmp 4) (.tmp 13) rfl w.heap.size #[.slice none 0 0] rfl rfl _ _ R1.out (by kernel_rfl) rfl (by simp [Value.oneCell']) ?_)
    exact mr_ret (P := fun v _ => v = .slice none 0 0) (R1.out.setRow _) rfl (below_setRow B1.out _ _ (Nat.le_refl _)) rfl
set_option maxRecDepth 20000 in
set_option maxHeartbeats 4000000 in
theorem iMR_ok (a : Option Addr) (m cap : Nat) (R : Nat → Rn) (fl : Int) (hc : cntR R m ≤ 1073741824) (h20 : m ≤ 20) (hz : RnSz R m) (hr : runsB R m = true) (hn : ∀ r, r < m → (R r).n ≤ 1048576) (st : Nat → Nat) (S : List Tg) (hSl : S.length ≤ 1000000) (hsz : ∀ e ∈ mgP fl ⟨#[]⟩ (S.map Prod.fst), e.ky.size ≤ 1048576 ∧ e.tx.size ≤ 1048576) (hml : (mgP fl ⟨#[]⟩ (S.map Prod.fst)).length ≤ 1048576) (w : World) (h : Rns w a m cap R)
    (hR : RSrt R m) (hst : StOk R m ⟨#[]⟩ st) (hS : S.Pairwise tLt) (hM : Rem S R m st 0) :
    Calls Try.prog 7 #[.slice a m cap, .int .i64 fl] w fun e w' => (∃ v, e = .returned (.agg #[v]) ∧ OwnEn w' w.heap.size v (mgP fl ⟨#[]⟩ (S.map Prod.fst))) ∧ Below w.heap.size w w' := by
  obtain ⟨W1, hW1⟩ : ∃ W, W = w.alloc (.cells #[.slice none 0 0] 28) := ⟨_, rfl⟩
  have B1 : Hid (Below w.heap.size w W1) := by rw [hW1]; exact (Below.refl _ _).alloc (Nat.le_refl _) _
  have R1 : Hid (RowAt W1 w.heap.size 28 #[.slice none 0 0]) := by rw [hW1]; exact RowAt.new _ _ _
  have d0 : ¬ (20 : Int) < (m : Int) := by omega
  have K := hid (iRunsFit a m cap R hc (by omega) hz W1 (h.below B1.out))
  rw [hr] at K
  have KM := fun wx (hb : Below w.heap.size w wx) => hid (iMerge a m cap R fl (by omega) hn st S hSl wx (h.below hb) hR hst hS hM)
  obtain ⟨M, hMM⟩ : ∃ M, M = mgP fl ⟨#[]⟩ (S.map Prod.fst) := ⟨_, rfl⟩
  rw [← hMM] at KM hsz hml ⊢
  have HSZ := hid hsz
  clear hMM hsz h hR hst hS hM hn hr hz
  go_enter Try.func7, Try.ntmps7
  go_upto_region 1 with fail
  rw [← hW1]
  clear hW1
  go_wp2_with fail
  refine K.out.mono ?_
  rintro e w2 ⟨rfl, hb2⟩
  have R2 := hid (R1.out.below hb2 R1.out.lt)
  have B2 := hid (B1.out.trans (hb2.mono B1.out.size))
  have Z2 : Hid (w.heap.size < w2.heap.size) := R2.out.lt
  clear hb2 K R1 B1
  go_wp2_with fail
  refine (KM w2 B2.out).out.mono ?_
  rintro e w3 ⟨⟨v3, rfl, ho3⟩, hb3⟩
  obtain ⟨a3, c3, hv3⟩ := ho3.slice
  subst hv3
  obtain ⟨_, E3⟩ := ho3.ens
  have fR := fun wx => fldR (.slice a3 M.length c3) wx
  have R3 := hid (R2.out.below hb3 R2.out.lt)
  have B3 := hid (B2.out.trans (hb3.mono B2.out.size))
  have KC := hid (iCopyEs a3 M.length c3 (enA M) hml (fun i hi => HSZ.out _ (List.mem_of_getElem? (enA_get hi))) w3 E3)
  have eM : (List.range M.length).map (enA M) = M := by
    apply List.ext_getElem?
    intro i
    by_cases hi : i < M.length
    · rw [List.getElem?_map, List.getElem?_range hi, enA_get hi]; rfl
    · rw [List.getElem?_eq_none (by simp; omega), List.getElem?_eq_none (by omega)]
  rw [eM] at KC
  clear eM ho3 hb3 KM E3 R2 B2
  go_wp2_with fail
  refine KC.out.mono ?_
  rintro e w4 ⟨⟨v4, rfl, ho4⟩, hb4⟩
  obtain ⟨a4, c4, hv4⟩ := ho4.slice
  subst hv4
  have R4 := hid (R3.out.below hb4 R3.out.lt)
  have B4 := hid (B3.out.trans (hb4.mono B3.out.size))
  have O4 := hid ho4
  have Z3 : Hid (w.heap.size < w3.heap.size) := R3.out.lt
  clear ho4 hb4 KC fR
  go_wp2_with (refine wpList_store_row rfl 28 (.tmp 4) (.tmp 19) rfl w.heap.size #[.slice a4 M.length c4] rfl rfl _ _ R4.out (by kernel_rfl) rfl (by simp [Value.oneCell']) ?_)
  refine mr_ret (P := fun v w' => OwnEn w' w.heap.size v M) (R4.out.setRow _) ((O4.out.keep fun g cs e q => (setRow_other _ _ _ _ (by have := (O4.out.row e).1; have := Z3.out; omega)).trans q).baseLe (by have := Z3.out; omega)) (below_setRow B4.out _ _ (Nat.le_refl _)) rfl
end Go.Proofs.Ytekdphfifdfmbaa
