import Derived.Test.YtekdphfifdfmbaaSMg
namespace Go.Proofs.Ytekdphfifdfmbaa
open Go.RowKit
set_option linter.unusedVariables false
/-! MergeRuns: the specification's, and the program's in the same words. -/
theorem belowKR {w0 w : World} (hb : Below w0.heap.size w0 w) {w' : World} (h : Below w.heap.size w w') : Below w0.heap.size w0 w' := hb.trans (h.mono hb.size)
theorem OwnEn.rowKR {w : World} {base b : Nat} {c : Array Value} {v : Value} {L : List En} (h : OwnEn w base v L) (hb : b < base) : OwnEn (w.setRow b c) base v L := h.keep fun g cs e q => (setRow_other _ _ _ _ (by have := (h.row e).1; omega)).trans q
theorem iMR (a : Option Addr) (m cap : Nat) (R : Nat → Rn) (fl : Int) (hc : cntR R m ≤ 1073741824) (hm : m ≤ 1048576) (hz : RnSz R m) (w : World) (h : Rns w a m cap R) :
    Calls Try.prog 7 #[.slice a m cap, .int .i64 fl] w fun e w' => (∃ v, e = .returned (.agg #[v]) ∧ OwnEn w' w.heap.size v (mrL R m fl)) ∧ Below w.heap.size w w' := by
  by_cases h0 : m ≤ 20 ∧ runsOk R m
  · obtain ⟨S, hS⟩ := sd_ex (enA (allE R m)) (cntR R m)
    have e : mrL R m fl = mgP fl ⟨#[]⟩ (S.map Prod.fst) := (mrL_ok h0).trans (mgV_eq hS)
    rw [e]
    have fit : ∀ x ∈ mgP fl ⟨#[]⟩ (S.map Prod.fst), fitE x := fun x hx => mgV_fit h0.2 fl x (by rw [mgV_eq hS]; exact hx)
    have hl : (mgP fl ⟨#[]⟩ (S.map Prod.fst)).length ≤ 1000 := by rw [← e]; exact mrL_len R m fl
    exact iMR_ok a m cap R fl hc h0.1 hz (runsB_t h0.2) (fun r hr => (hz r hr).1) (fun _ => 0) S (by rw [hS.len]; have := h0.2.2; omega) (fun x hx => by have := fit x hx; unfold fitE at this; omega) (by omega) w h (runs_srt h0.2) (runs_st h0.2) hS.pw hS.rem
  · rw [mrL_no h0]
    refine (iMR_no a m cap R fl hc hm hz (fun q => h0 ⟨q.1, (runsB_iff R m).1 q.2⟩) w h).mono ?_
    rintro e w2 ⟨⟨v, rfl, rfl⟩, hb⟩
    exact ⟨⟨_, rfl, OwnEn.nil _ _⟩, hb⟩
theorem sr_ret {w W' : World} {v : Value} {P : Value → World → Prop} {tm : Array Value} (sa : RowAt W' w.heap.size 28 #[v]) (so : P v W') (bl : Below w.heap.size w W') (h2 : tm.getD 4 undef = .pointer (some ⟨w.heap.size, 0, none⟩)) :
    bodyPost Try.prog Try.f8 (fun e w' => (∃ v, e = .returned (.agg #[v]) ∧ P v w') ∧ Below w.heap.size w w') Exit.ret { tmps := tm, defers := [] } W' := by
  refine bodyPost_ret (v := .agg #[v]) ?_ rfl ⟨⟨v, rfl, so⟩, bl⟩
  exact results_cell_row Try.results8 _ _ w.heap.size _ _ _ _ h2 sa Try.underlying28 rfl (by kernel_rfl)
set_option maxRecDepth 20000 in
set_option maxHeartbeats 4000000 in
theorem sMR (a : Option Addr) (m cap : Nat) (R : Nat → Rn) (fl : Int) (hc : cntR R m ≤ 1048576) (hm : m ≤ 1048576) (hz : RnSz R m) (hnil : ∀ k, k < m → (R k).ad = none → (R k).cap = 0) (w : World) (h : Rns w a m cap R) :
    Calls Try.prog 8 #[.slice a m cap, .int .i64 fl] w fun e w' => (∃ v, e = .returned (.agg #[v]) ∧ OwnEn w' w.heap.size v (mrL R m fl)) ∧ Below w.heap.size w w' := by
  obtain ⟨W1, hW1⟩ : ∃ W, W = w.alloc (.cells #[.slice none 0 0] 28) := ⟨_, rfl⟩
  have B1 : Hid (Below w.heap.size w W1) := by rw [hW1]; exact (Below.refl _ _).alloc (Nat.le_refl _) _
  have R1 : Hid (RowAt W1 w.heap.size 28 #[.slice none 0 0]) := by rw [hW1]; exact RowAt.new _ _ _
  have HH := hid (h.below B1.out)
  have HZ := hid hz
  have HN := hid hnil
  have HC := hid hc
  clear h hz hnil hc
  by_cases h20 : m ≤ 20
  case neg =>
    have d0 : (20 : Int) < (m : Int) := by omega
    have E : Hid (mrL R m fl = []) := mrL_no fun q => h20 q.1
    go_enter Try.func8, Try.ntmps8
    go_upto_region 1 with fail
    rw [← hW1]
    clear hW1
    go_wp2_with (refine wpList_store_row rfl 28 (.tmp 4) (.tmp 10) rfl w.heap.size #[.slice none 0 0] rfl rfl _ _ R1.out (by kernel_rfl) rfl (by simp [Value.oneCell']) ?_)
    exact sr_ret (P := fun v w' => OwnEn w' w.heap.size v (mrL R m fl)) (R1.out.setRow _) (by show OwnEn _ _ _ _; rw [E.out]; exact OwnEn.nil _ _) (below_setRow B1.out _ _ (Nat.le_refl _)) rfl
  have d0 : ¬ (20 : Int) < (m : Int) := by omega
  go_enter Try.func8, Try.ntmps8
  go_upto_region 1 with fail
  rw [← hW1]
  clear hW1
  go_wp2_with fail
  go_loopw [6, 5] (fun q y wr => ∃ i : Nat, i ≤ m ∧ q = .int .i64 (i : Int) ∧ y = .int .i64 ((cntR R i : Nat) : Int) ∧ (∀ k, k < i → runOk (R k).n (R k).o) ∧ Below W1.heap.size W1 wr) (fun q _ _ => m - (intOf q).toNat)
  case atStart => exact ⟨0, Nat.zero_le _, rfl, rfl, fun k hk => absurd hk (Nat.not_lt_zero _), Below.refl _ _⟩
  case round =>
    obtain ⟨i, hi, rfl, rfl, hF, hB⟩ := hrel
    have FF := hid hF
    have BB := hid hB
    have RR := hid (R1.out.below hB R1.out.lt)
    have BW := hid (belowKR B1.out hB)
    clear hF hB
    by_cases hlt : i < m
    · have d1 : (i : Int) < (m : Int) := by omega
      have i0 : (0 : Int) ≤ (i : Int) := by omega
      rcases (HH.out.below BB.out).2.1 with h00 | ⟨b, off, rfl, hbl, hcc⟩
      · omega
      have c0 := hcc i hlt
      have K := hid (sRunF (R i).ad (R i).n (R i).cap (R i).o (HZ.out i hlt).1 (HZ.out i hlt).2 wr ((HH.out.below BB.out).2.2 i hlt))
      have z1 : Hid (cntR R (i + 1) = cntR R i + (R i).n) := rfl
      have z2 := cntR_mono R (show i + 1 ≤ m by omega)
      have z3 : cntR R (i + 1) ≤ 1048576 := Nat.le_trans z2 HC.out
      clear hcc z2
      by_cases hok : runOk (R i).n (R i).o
      · rw [runV_ok hok] at K
        have F2 : Hid (∀ k, k < i + 1 → runOk (R k).n (R k).o) := fun k hk => by
          by_cases e : k = i
          · subst e; exact hok
          · exact FF.out k (by omega)
        have c1 : ∀ w2, Below wr.heap.size wr w2 → w2.cell? ⟨b, off + i, none⟩ = some (.slice (R i).ad (R i).n (R i).cap) := fun w2 hb => (hb.cell (p := ⟨b, _, none⟩) hbl).trans c0
        generalize (R i).ad = A at c0 c1 K
        obtain ⟨N, hN⟩ : ∃ N, N = (R i).n := ⟨_, rfl⟩
        rw [← hN] at c0 c1 K z1
        generalize (R i).cap = C at c0 c1 K
        obtain ⟨Q, hQ⟩ : ∃ Q, Q = cntR R i := ⟨_, rfl⟩
        rw [← hQ] at z1
        rw [← hQ]
        have hb1 : Q + N ≤ 1048576 := by have := z1.out; omega
        clear hN hQ hok z3
        go_wp2_with fail
        refine K.out.mono ?_
        rintro e w2 ⟨rfl, hb2⟩
        have c2 := c1 w2 hb2
        have B2 := hid (BB.out.trans (hb2.mono BB.out.size))
        clear hb2 K c0 c1 BB RR BW FF
        go_wp2
        go_roundw
        case rel => exact ⟨i + 1, by omega, by go_num, by rw [z1.out]; go_num, F2.out, B2.out⟩
        case measure => simp [intOf]; omega
      · rw [runV_no hok] at K
        have E : Hid (mrL R m fl = []) := mrL_no fun q => hok (q.2.1 i hlt)
        generalize (R i).ad = A at c0 K
        generalize (R i).n = N at c0 K
        generalize (R i).cap = C at c0 K
        clear hok z1 z3
        go_wp2_with fail
        refine K.out.mono ?_
        rintro e w2 ⟨rfl, hb2⟩
        have R2 := hid (RR.out.below hb2 RR.out.lt)
        have B2 := hid (BW.out.trans (hb2.mono BW.out.size))
        clear hb2 K c0 BB RR BW FF
        go_wp2_with (refine wpList_store_row rfl 28 (.tmp 4) (.tmp 23) rfl w.heap.size #[.slice none 0 0] rfl rfl _ _ R2.out (by kernel_rfl) rfl (by simp [Value.oneCell']) ?_)
        exact sr_ret (P := fun v w' => OwnEn w' w.heap.size v (mrL R m fl)) (R2.out.setRow _) (by show OwnEn _ _ _ _; rw [E.out]; exact OwnEn.nil _ _) (below_setRow B2.out _ _ (Nat.le_refl _)) rfl
    · have d1 : ¬ (i : Int) < (m : Int) := by omega
      obtain rfl : i = m := by omega
      obtain ⟨Q, hQ⟩ : ∃ Q, Q = cntR R i := ⟨_, rfl⟩
      rw [← hQ]
      have HQ := hid hQ
      clear hQ
      by_cases hb : Q ≤ 1000
      · have d2 : ¬ (1000 : Int) < (Q : Int) := by omega
        have ok : i ≤ 20 ∧ runsOk R i := ⟨h20, FF.out, by rw [← HQ.out]; exact hb⟩
        obtain ⟨S, hS⟩ := sd_ex (enA (allE R i)) (cntR R i)
        have E : Hid (mrL R i fl = mgS fl none (S.map Prod.fst)) := (mrL_ok ok).trans (mgV_s ok.2 hS)
        have K := hid (sMerge a i cap R fl hm HC.out HN.out S hS wr (HH.out.below BB.out))
        rw [← E.out] at K
        clear ok hS E hb
        go_wp2_with fail
        refine K.out.mono ?_
        rintro e w2 ⟨⟨v2, rfl, hO2⟩, hb2⟩
        obtain ⟨av, nv, cv, hv⟩ : ∃ a n c, v2 = .slice a n c := by obtain ⟨a, c, h⟩ := hO2.slice; exact ⟨a, _, c, h⟩
        subst hv
        have O2 := hid hO2
        have R2 := hid (RR.out.below hb2 RR.out.lt)
        have B2 := hid (BW.out.trans (hb2.mono BW.out.size))
        have Z2 : Hid (w.heap.size < wr.heap.size) := RR.out.lt
        clear hO2 hb2 K BB RR BW FF
        go_wp2_with (refine wpList_store_row rfl 28 (.tmp 4) (.tmp 37) rfl w.heap.size #[.slice av nv cv] rfl rfl _ _ R2.out (by kernel_rfl) rfl (by simp [Value.oneCell']) ?_)
        exact sr_ret (P := fun v w' => OwnEn w' w.heap.size v (mrL R i fl)) (R2.out.setRow _) ((O2.out.rowKR Z2.out).baseLe (Nat.le_of_lt Z2.out)) (below_setRow B2.out _ _ (Nat.le_refl _)) rfl
      · have d2 : (1000 : Int) < (Q : Int) := by omega
        have E : Hid (mrL R i fl = []) := mrL_no fun q => hb (by rw [HQ.out]; exact q.2.2)
        clear hb
        go_wp2_with (refine wpList_store_row rfl 28 (.tmp 4) (.tmp 34) rfl w.heap.size #[.slice none 0 0] rfl rfl _ _ RR.out (by kernel_rfl) rfl (by simp [Value.oneCell']) ?_)
        exact sr_ret (P := fun v w' => OwnEn w' w.heap.size v (mrL R i fl)) (RR.out.setRow _) (by show OwnEn _ _ _ _; rw [E.out]; exact OwnEn.nil _ _) (below_setRow BW.out _ _ (Nat.le_refl _)) rfl
end Go.Proofs.Ytekdphfifdfmbaa
