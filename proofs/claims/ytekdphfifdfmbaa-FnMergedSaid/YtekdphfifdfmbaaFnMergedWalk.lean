import Derived.Test.YtekdphfifdfmbaaRtbH
import Derived.Test.YtekdphfifdfmbaaInI
import Derived.BigQuiet
import Derived.Test.YtekdphfifdfmbaaSMg
import Derived.Test.YtekdphfifdfmbaaFndM
import Derived.Test.YtekdphfifdfmbaaSMgM
import Derived.Test.YtekdphfifdfmbaaD2
import Derived.Test.YtekdphfifdfmbaaIRun
namespace Go.Proofs.Ytekdphfifdfmbaa
open Go.RowKit
set_option linter.unusedVariables false
/-! lwHas, lwEntries. -/
set_option maxRecDepth 20000 in
theorem lwHas8 (a : Option Addr) (n cap : Nat) (xs : List Int) (v : Int) (hl : n ≤ 1048576) (w : World) (h : Ints .i64 w a n cap xs) :
    Calls Try.prog 10 #[.slice a n cap, .int .i64 v] w fun e w' => e = .returned (.bool (decide (v ∈ xs))) ∧ w' = w := by
  have hx := h.1
  have HH := hid h.2.2
  clear h
  go_enter Try.func10, Try.ntmps10
  go_wp2_with fail
  go_loopw [5] (fun r wr => ∃ k : Nat, k ≤ n ∧ r = .int .i64 (k : Int) ∧ (∀ i, i < k → xs.getD i 0 ≠ v) ∧ wr = w) (fun r _ => n - (intOf r).toNat)
  case atStart => exact ⟨0, Nat.zero_le _, rfl, fun i hi => absurd hi (by omega), rfl⟩
  case round =>
    obtain ⟨k, hk, rfl, hno, rfl⟩ := hrel
    have HN := hid hno
    clear hno
    by_cases hlt : k < n
    · have hlt' : (k : Int) < (n : Int) := by omega
      have k0 : (0 : Int) ≤ (k : Int) := by omega
      rcases HH.out with q0 | ⟨b, off, rfl, hbl, hc⟩
      · omega
      have c0 := hc k hlt
      clear hc
      obtain ⟨t, ht⟩ : ∃ t, t = xs.getD k 0 := ⟨_, rfl⟩
      rw [← ht] at c0
      have HT := hid ht
      clear ht
      by_cases e : t = v
      · have d : (t == v) = true := by simp [e]
        have E : Hid (decide (v ∈ xs) = true) := by
          show _ = _
          rw [← e, HT.out]; simp [show k < xs.length by omega]
        go_wp2
        go_ret
        exact ⟨by rw [E.out]; rfl, rfl⟩
      · have d : (t == v) = false := by simp [e]
        have N1 : Hid (∀ i, i < k + 1 → xs.getD i 0 ≠ v) := fun i hi => by
          by_cases q : i = k
          · rw [q, ← HT.out]; exact e
          · exact HN.out i (by omega)
        go_wp2
        go_roundw
        case rel => exact ⟨k + 1, hlt, by go_num, N1.out, trivial⟩
        case measure => simp [intOf]; omega
    · have hlt' : ¬ (k : Int) < (n : Int) := by omega
      have E : Hid (decide (v ∈ xs) = false) := by
        show _ = _
        simp only [decide_eq_false_iff_not]
        intro q
        obtain ⟨i, hi, e⟩ := List.getElem_of_mem q
        exact HN.out i (by omega) (by simp [hi, e])
      go_wp2
      go_ret
      exact ⟨by rw [E.out]; rfl, rfl⟩
set_option maxRecDepth 20000 in
set_option maxHeartbeats 4000000 in
theorem lwEns (a : Option Addr) (n cap : Nat) (a' : Option Addr) (cap' : Nat) (o : Nat → En) (hl : n ≤ 1048576) (w : World) (h : Ens w a n cap o) (h' : Ens w a' n cap' o) :
    Calls Try.prog 9 #[.slice a n cap, .slice a' n cap'] w fun e w' => e = .returned (.bool true) ∧ Below w.heap.size w w' := by
  have HH := hid h
  have HH' := hid h'
  have dn : ((n : Int) != (n : Int)) = false := by simp
  clear h h'
  go_enter Try.func9, Try.ntmps9
  go_wp2_with fail
  go_loopw [5] (fun q wr => ∃ (k : Nat), k ≤ n ∧ q = .int .i64 k ∧ Below w.heap.size w wr) (fun q _ => n - (intOf q).toNat)
  case atStart => exact ⟨0, Nat.zero_le _, rfl, Below.refl _ _⟩
  case round =>
    obtain ⟨k, hk, rfl, hB⟩ := hrel
    have HB := hid hB
    clear hB
    by_cases hlt : k < n
    · have hlt' : (k : Int) < (n : Int) := by omega
      have k0 : (0 : Int) ≤ (k : Int) := by omega
      rcases (HH.out.below HB.out).2 with h00 | ⟨b, off, rfl, hbl, hc⟩
      · omega
      rcases (HH'.out.below HB.out).2 with h00 | ⟨b', off', rfl, hbl', hc'⟩
      · omega
      obtain ⟨c0, c1, c2, c3⟩ := hc k hlt
      obtain ⟨e0, e1, e2, e3⟩ := hc' k hlt
      obtain ⟨X0, hX0⟩ : ∃ v, v = (o k).ky := ⟨_, rfl⟩
      obtain ⟨X1, hX1⟩ : ∃ v, v = (o k).sq := ⟨_, rfl⟩
      obtain ⟨X2, hX2⟩ : ∃ v, v = (o k).gn := ⟨_, rfl⟩
      obtain ⟨X3, hX3⟩ : ∃ v, v = (o k).tx := ⟨_, rfl⟩
      rw [← hX0] at c0 e0
      rw [← hX1] at c1 e1
      rw [← hX2] at c2 e2
      rw [← hX3] at c3 e3
      clear hc hc' hX0 hX1 hX2 hX3
      have dX : (X0.toList == X0.toList) = true := by simp
      have N2 : Hid (∀ d, Below w.heap.size w (wr.drewN d)) := fun d => below_dN HB.out d
      clear HB
      go_wp2_with fail
      go_quiet (fail)
      go_wp2
      go_roundw
      case rel => exact ⟨k + 1, by omega, by go_num, N2.out _⟩
      case measure => simp [intOf]; omega
    · have hlt' : ¬ (k : Int) < (n : Int) := by omega
      go_wp2
      go_ret
      exact ⟨rfl, HB.out⟩
end Go.Proofs.Ytekdphfifdfmbaa
namespace Go.Proofs.Ytekdphfifdfmbaa
open Go.RowKit
set_option linter.unusedVariables false
/-! MergeRuns: the specification's, and the program's in the same words. -/
theorem belowKR {w0 w : World} (hb : Below w0.heap.size w0 w) {w' : World} (h : Below w.heap.size w w') : Below w0.heap.size w0 w' := hb.trans (h.mono hb.size)
theorem OwnEn.rowKR {w : World} {base b : Nat} {c : Array Value} {v : Value} {L : List En} (h : OwnEn w base v L) (hb : b < base) : OwnEn (w.setRow b c) base v L := h.keep fun g cs e q => (setRow_other _ _ _ _ (by have := (h.row e).1; omega)).trans q
theorem iMR (a : Option Addr) (m cap : Nat) (R : Nat → Rn) (fl : Int) (hc : cntR R m ≤ 1073741824) (hm : m ≤ 1048576) (hz : RnSz R m) (w : World) (h : Rns w a m cap R) :
    Calls Try.prog 7 #[.slice a m cap, .int .i64 fl] w fun e w' => (∃ v, e = .returned (.agg #[v]) ∧ OwnEn w' w.heap.size v (mrL R m fl)) ∧ Below w.heap.size w w' := by
  by_cases h0 : m ≤ 20 ∧ runsOk R m
  · obtain ⟨S, hS⟩ := sd_ex (enA (allE R m)) (cntR R m)
    have e : mrL R m fl = mgP fl ⟨#[]⟩ (S.map Prod.fst) := (mrL_ok h0).trans (mgV_eq hS)
    rw [e]
    have fit : ∀ x ∈ mgP fl ⟨#[]⟩ (S.map Prod.fst), fitE x := fun x hx => mgV_fit h0.2 fl x (by rw [mgV_eq hS]; exact hx)
    have hl : (mgP fl ⟨#[]⟩ (S.map Prod.fst)).length ≤ 1000 := by rw [← e]; exact mrL_len R m fl
    exact iMR_ok a m cap R fl hc h0.1 hz (runsB_t h0.2) (fun r hr => (hz r hr).1) (fun _ => 0) S (by rw [hS.len]; have := h0.2.2; omega) (fun x hx => by have := fit x hx; unfold fitE at this; omega) (by omega) w h (runs_srt h0.2) (runs_st h0.2) hS.pw hS.rem
  · rw [mrL_no h0]
    refine (iMR_no a m cap R fl hc hm hz (fun q => h0 ⟨q.1, (runsB_iff R m).1 q.2⟩) w h).mono ?_
    rintro e w2 ⟨⟨v, rfl, rfl⟩, hb⟩
    exact ⟨⟨_, rfl, OwnEn.nil _ _⟩, hb⟩
theorem sr_ret {w W' : World} {v : Value} {P : Value → World → Prop} {tm : Array Value} (sa : RowAt W' w.heap.size 28 #[v]) (so : P v W') (bl : Below w.heap.size w W') (h2 : tm.getD 4 undef = .pointer (some ⟨w.heap.size, 0, none⟩)) :
    bodyPost Try.prog Try.f8 (fun e w' => (∃ v, e = .returned (.agg #[v]) ∧ P v w') ∧ Below w.heap.size w w') Exit.ret { tmps := tm, defers := [] } W' := by
  refine bodyPost_ret (v := .agg #[v]) ?_ rfl ⟨⟨v, rfl, so⟩, bl⟩
  exact results_cell_row Try.results8 _ _ w.heap.size _ _ _ _ h2 sa Try.underlying28 rfl (by kernel_rfl)
set_option maxRecDepth 20000 in
set_option maxHeartbeats 4000000 in
theorem sMR (a : Option Addr) (m cap : Nat) (R : Nat → Rn) (fl : Int) (hc : cntR R m ≤ 1048576) (hm : m ≤ 1048576) (hz : RnSz R m) (hnil : ∀ k, k < m → (R k).ad = none → (R k).cap = 0) (w : World) (h : Rns w a m cap R) :
    Calls Try.prog 8 #[.slice a m cap, .int .i64 fl] w fun e w' => (∃ v, e = .returned (.agg #[v]) ∧ OwnEn w' w.heap.size v (mrL R m fl)) ∧ Below w.heap.size w w' := by
  obtain ⟨W1, hW1⟩ : ∃ W, W = w.alloc (.cells #[.slice none 0 0] 28) := ⟨_, rfl⟩
  have B1 : Hid (Below w.heap.size w W1) := by rw [hW1]; exact (Below.refl _ _).alloc (Nat.le_refl _) _
  have R1 : Hid (RowAt W1 w.heap.size 28 #[.slice none 0 0]) := by rw [hW1]; exact RowAt.new _ _ _
  have HH := hid (h.below B1.out)
  have HZ := hid hz
  have HN := hid hnil
  have HC := hid hc
  clear h hz hnil hc
  by_cases h20 : m ≤ 20
  case neg =>
    have d0 : (20 : Int) < (m : Int) := by omega
    have E : Hid (mrL R m fl = []) := mrL_no fun q => h20 q.1
    go_enter Try.func8, Try.ntmps8
    go_upto_region 1 with fail
    rw [← hW1]
    clear hW1
    go_wp2_with (refine wpList_store_row rfl 28 (.tmp 4) (.tmp 10) rfl w.heap.size #[.slice none 0 0] rfl rfl _ _ R1.out (by kernel_rfl) rfl (by simp [Value.oneCell']) ?_)
    exact sr_ret (P := fun v w' => OwnEn w' w.heap.size v (mrL R m fl)) (R1.out.setRow _) (by show OwnEn _ _ _ _; rw [E.out]; exact OwnEn.nil _ _) (below_setRow B1.out _ _ (Nat.le_refl _)) rfl
  have d0 : ¬ (20 : Int) < (m : Int) := by omega
  go_enter Try.func8, Try.ntmps8
  go_upto_region 1 with fail
  rw [← hW1]
  clear hW1
  go_wp2_with fail
  go_loopw [6, 5] (fun q y wr => ∃ i : Nat, i ≤ m ∧ q = .int .i64 (i : Int) ∧ y = .int .i64 ((cntR R i : Nat) : Int) ∧ (∀ k, k < i → runOk (R k).n (R k).o) ∧ Below W1.heap.size W1 wr) (fun q _ _ => m - (intOf q).toNat)
  case atStart => exact ⟨0, Nat.zero_le _, rfl, rfl, fun k hk => absurd hk (Nat.not_lt_zero _), Below.refl _ _⟩
  case round =>
    obtain ⟨i, hi, rfl, rfl, hF, hB⟩ := hrel
    have FF := hid hF
    have BB := hid hB
    have RR := hid (R1.out.below hB R1.out.lt)
    have BW := hid (belowKR B1.out hB)
    clear hF hB
    by_cases hlt : i < m
    · have d1 : (i : Int) < (m : Int) := by omega
      have i0 : (0 : Int) ≤ (i : Int) := by omega
      rcases (HH.out.below BB.out).2.1 with h00 | ⟨b, off, rfl, hbl, hcc⟩
      · omega
      have c0 := hcc i hlt
      have K := hid (sRunF (R i).ad (R i).n (R i).cap (R i).o (HZ.out i hlt).1 (HZ.out i hlt).2 wr ((HH.out.below BB.out).2.2 i hlt))
      have z1 : Hid (cntR R (i + 1) = cntR R i + (R i).n) := rfl
      have z2 := cntR_mono R (show i + 1 ≤ m by omega)
      have z3 : cntR R (i + 1) ≤ 1048576 := Nat.le_trans z2 HC.out
      clear hcc z2
      by_cases hok : runOk (R i).n (R i).o
      · rw [runV_ok hok] at K
        have F2 : Hid (∀ k, k < i + 1 → runOk (R k).n (R k).o) := fun k hk => by
          by_cases e : k = i
          · subst e; exact hok
          · exact FF.out k (by omega)
        have c1 : ∀ w2, Below wr.heap.size wr w2 → w2.cell? ⟨b, off + i, none⟩ = some (.slice (R i).ad (R i).n (R i).cap) := fun w2 hb => (hb.cell (p := ⟨b, _, none⟩) hbl).trans c0
        generalize (R i).ad = A at c0 c1 K
        obtain ⟨N, hN⟩ : ∃ N, N = (R i).n := ⟨_, rfl⟩
        rw [← hN] at c0 c1 K z1
        generalize (R i).cap = C at c0 c1 K
        obtain ⟨Q, hQ⟩ : ∃ Q, Q = cntR R i := ⟨_, rfl⟩
        rw [← hQ] at z1
        rw [← hQ]
        have hb1 : Q + N ≤ 1048576 := by have := z1.out; omega
        clear hN hQ hok z3
        go_wp2_with fail
        refine K.out.mono ?_
        rintro e w2 ⟨rfl, hb2⟩
        have c2 := c1 w2 hb2
        have B2 := hid (BB.out.trans (hb2.mono BB.out.size))
        clear hb2 K c0 c1 BB RR BW FF
        go_wp2
        go_roundw
        case rel => exact ⟨i + 1, by omega, by go_num, by rw [z1.out]; go_num, F2.out, B2.out⟩
        case measure => simp [intOf]; omega
      · rw [runV_no hok] at K
        have E : Hid (mrL R m fl = []) := mrL_no fun q => hok (q.2.1 i hlt)
        generalize (R i).ad = A at c0 K
        generalize (R i).n = N at c0 K
        generalize (R i).cap = C at c0 K
        clear hok z1 z3
        go_wp2_with fail
        refine K.out.mono ?_
        rintro e w2 ⟨rfl, hb2⟩
        have R2 := hid (RR.out.below hb2 RR.out.lt)
        have B2 := hid (BW.out.trans (hb2.mono BW.out.size))
        clear hb2 K c0 BB RR BW FF
        go_wp2_with (refine wpList_store_row rfl 28 (.tmp 4) (.tmp 23) rfl w.heap.size #[.slice none 0 0] rfl rfl _ _ R2.out (by kernel_rfl) rfl (by simp [Value.oneCell']) ?_)
        exact sr_ret (P := fun v w' => OwnEn w' w.heap.size v (mrL R m fl)) (R2.out.setRow _) (by show OwnEn _ _ _ _; rw [E.out]; exact OwnEn.nil _ _) (below_setRow B2.out _ _ (Nat.le_refl _)) rfl
    · have d1 : ¬ (i : Int) < (m : Int) := by omega
      obtain rfl : i = m := by omega
      obtain ⟨Q, hQ⟩ : ∃ Q, Q = cntR R i := ⟨_, rfl⟩
      rw [← hQ]
      have HQ := hid hQ
      clear hQ
      by_cases hb : Q ≤ 1000
      · have d2 : ¬ (1000 : Int) < (Q : Int) := by omega
        have ok : i ≤ 20 ∧ runsOk R i := ⟨h20, FF.out, by rw [← HQ.out]; exact hb⟩
        obtain ⟨S, hS⟩ := sd_ex (enA (allE R i)) (cntR R i)
        have E : Hid (mrL R i fl = mgS fl none (S.map Prod.fst)) := (mrL_ok ok).trans (mgV_s ok.2 hS)
        have K := hid (sMerge a i cap R fl hm HC.out HN.out S hS wr (HH.out.below BB.out))
        rw [← E.out] at K
        clear ok hS E hb
        go_wp2_with fail
        refine K.out.mono ?_
        rintro e w2 ⟨⟨v2, rfl, hO2⟩, hb2⟩
        obtain ⟨av, nv, cv, hv⟩ : ∃ a n c, v2 = .slice a n c := by obtain ⟨a, c, h⟩ := hO2.slice; exact ⟨a, _, c, h⟩
        subst hv
        have O2 := hid hO2
        have R2 := hid (RR.out.below hb2 RR.out.lt)
        have B2 := hid (BW.out.trans (hb2.mono BW.out.size))
        have Z2 : Hid (w.heap.size < wr.heap.size) := RR.out.lt
        clear hO2 hb2 K BB RR BW FF
        go_wp2_with (refine wpList_store_row rfl 28 (.tmp 4) (.tmp 37) rfl w.heap.size #[.slice av nv cv] rfl rfl _ _ R2.out (by kernel_rfl) rfl (by simp [Value.oneCell']) ?_)
        exact sr_ret (P := fun v w' => OwnEn w' w.heap.size v (mrL R i fl)) (R2.out.setRow _) ((O2.out.rowKR Z2.out).baseLe (Nat.le_of_lt Z2.out)) (below_setRow B2.out _ _ (Nat.le_refl _)) rfl
      · have d2 : (1000 : Int) < (Q : Int) := by omega
        have E : Hid (mrL R i fl = []) := mrL_no fun q => hb (by rw [HQ.out]; exact q.2.2)
        clear hb
        go_wp2_with (refine wpList_store_row rfl 28 (.tmp 4) (.tmp 34) rfl w.heap.size #[.slice none 0 0] rfl rfl _ _ RR.out (by kernel_rfl) rfl (by simp [Value.oneCell']) ?_)
        exact sr_ret (P := fun v w' => OwnEn w' w.heap.size v (mrL R i fl)) (RR.out.setRow _) (by show OwnEn _ _ _ _; rw [E.out]; exact OwnEn.nil _ _) (below_setRow BW.out _ _ (Nat.le_refl _)) rfl
end Go.Proofs.Ytekdphfifdfmbaa
namespace Go.Proofs.Ytekdphfifdfmbaa
open Go.RowKit
set_option linter.unusedVariables false
/-! Merging runs whose Seqs differ: in any order of the runs, and what comes out is a right run. -/
theorem enUniq {A B : List En} (hA : A.Pairwise enLt) (hB : B.Pairwise enLt) (h : ∀ x, x ∈ A ↔ x ∈ B) : A = B := by
  have up : ∀ {L : List En}, L.Pairwise enLt → (L.map fun e => ((e, 0) : Tg)).Pairwise tLt := fun {L} hL => by
    rw [List.pairwise_map]
    exact hL.imp fun {a b} q => .inl q
  have e := tUniq (up hA) (up hB) (fun x => by
    simp only [List.mem_map]
    constructor
    · rintro ⟨y, hy, rfl⟩; exact ⟨y, (h y).1 hy, rfl⟩
    · rintro ⟨y, hy, rfl⟩; exact ⟨y, (h y).2 hy, rfl⟩)
  have := congrArg (List.map Prod.fst) e
  rw [List.map_map, List.map_map] at this
  have i : ∀ L : List En, L.map (Prod.fst ∘ fun e => ((e, 0) : Tg)) = L := fun L => by induction L with | nil => rfl | cons x r ih => rw [List.map_cons, ih]; rfl
  rw [i, i] at this
  exact this
/-- in order, with Seqs that differ -/
theorem sd_strict {A : List En} {S : List Tg} (hS : Sd (enA A) A.length S) (hn : (A.map En.sq).Nodup) : (S.map Prod.fst).Pairwise enLt := by
  rw [List.pairwise_map]
  refine List.Pairwise.imp_of_mem (fun {a b} ha hb q => ?_) hS.pw
  rcases q with q | ⟨q1, q2⟩
  · exact q
  · obtain ⟨i, hi, rfl⟩ := (hS.mem a).1 ha
    obtain ⟨j, hj, rfl⟩ := (hS.mem b).1 hb
    have hij : i < j := q2
    rcases enLt_tri (enA A i) (enA A j) with z | ⟨_, z⟩ | z
    · exact z
    · exfalso
      have e1 : (A.map En.sq)[i]? = some (enA A i).sq := by rw [List.getElem?_map, enA_get hi]; rfl
      have e2 : (A.map En.sq)[j]? = some (enA A j).sq := by rw [List.getElem?_map, enA_get hj]; rfl
      have hh : (A.map En.sq)[i]? = (A.map En.sq)[j]? := by rw [e1, e2, z]
      have := (List.getElem?_inj (by rw [List.length_map]; exact hi) hn).1 hh
      omega
    · exact absurd z q1
theorem sd_mem {A : List En} {S : List Tg} (hS : Sd (enA A) A.length S) (e : En) : e ∈ S.map Prod.fst ↔ e ∈ A := by
  rw [List.mem_map]
  constructor
  · rintro ⟨x, hx, rfl⟩
    obtain ⟨j, hj, rfl⟩ := (hS.mem x).1 hx
    exact List.mem_of_getElem? (enA_get hj)
  · intro he
    obtain ⟨j, hj, rfl⟩ := List.mem_iff_getElem.1 he
    refine ⟨(enA A j, j), (hS.mem _).2 ⟨j, hj, rfl⟩, ?_⟩
    have := enA_get hj
    rw [List.getElem?_eq_getElem hj] at this
    exact (Option.some.inj this).symm
/-- the runs the other way round -/
def revR (R : Nat → Rn) (m : Nat) (k : Nat) : Rn := R (m - 1 - k)
theorem cntR_split (R : Nat → Rn) : ∀ m, cntR R (m + 1) = (R 0).n + cntR (fun k => R (k + 1)) m
  | 0 => by simp [cntR]
  | m + 1 => by
    show cntR R (m + 1) + (R (m + 1)).n = (R 0).n + (cntR (fun k => R (k + 1)) m + (R (m + 1)).n)
    rw [cntR_split R m]; omega
theorem cntR_cg {R R' : Nat → Rn} : ∀ m, (∀ k, k < m → (R k).n = (R' k).n) → cntR R m = cntR R' m
  | 0, _ => rfl
  | m + 1, h => by show cntR R m + _ = cntR R' m + _; rw [cntR_cg m fun k hk => h k (by omega), h m (by omega)]
theorem cntR_rev (R : Nat → Rn) : ∀ m, cntR (revR R m) m = cntR R m
  | 0 => rfl
  | m + 1 => by
    rw [cntR_split (revR R (m + 1)) m]
    have e : cntR (fun k => revR R (m + 1) (k + 1)) m = cntR (revR R m) m := cntR_cg m fun k hk => by unfold revR; rw [show m + 1 - 1 - (k + 1) = m - 1 - k by omega]
    rw [e, cntR_rev R m]
    show (R (m + 1 - 1 - 0)).n + _ = _
    rw [show m + 1 - 1 - 0 = m by omega]
    show _ = cntR R m + (R m).n
    omega
theorem rev_mem (R : Nat → Rn) (m : Nat) (e : En) : e ∈ allE (revR R m) m ↔ e ∈ allE R m := by
  rw [allE_mem, allE_mem]
  constructor
  · rintro ⟨r, hr, p, hp, rfl⟩; exact ⟨m - 1 - r, by omega, p, hp, rfl⟩
  · rintro ⟨r, hr, p, hp, rfl⟩
    refine ⟨m - 1 - r, by omega, p, ?_, ?_⟩ <;> unfold revR <;> rw [show m - 1 - (m - 1 - r) = r by omega]
    exact hp
theorem rev_ok (R : Nat → Rn) (m : Nat) : runsOk (revR R m) m ↔ runsOk R m := by
  unfold runsOk
  rw [cntR_rev]
  refine and_congr_left fun _ => ⟨fun f k hk => ?_, fun f k hk => f _ (by omega)⟩
  have := f (m - 1 - k) (by omega)
  unfold revR at this
  rw [show m - 1 - (m - 1 - k) = k by omega] at this
  exact this
theorem allE_app (R : Nat → Rn) : ∀ m, allE R (m + 1) = (List.range (R 0).n).map (R 0).o ++ allE (fun k => R (k + 1)) m
  | 0 => by simp [allE]
  | m + 1 => by
    show allE R (m + 1) ++ _ = _ ++ (allE (fun k => R (k + 1)) m ++ _)
    rw [allE_app R m, List.append_assoc]
theorem allE_cg {R R' : Nat → Rn} : ∀ m, (∀ k, k < m → R k = R' k) → allE R m = allE R' m
  | 0, _ => rfl
  | m + 1, h => by show allE R m ++ _ = allE R' m ++ _; rw [allE_cg m fun k hk => h k (by omega), h m (by omega)]
theorem rev_perm (R : Nat → Rn) : ∀ m, (allE (revR R m) m).Perm (allE R m)
  | 0 => .nil
  | m + 1 => by
    rw [allE_app (revR R (m + 1)) m]
    have e : allE (fun k => revR R (m + 1) (k + 1)) m = allE (revR R m) m := allE_cg m fun k hk => by unfold revR; rw [show m + 1 - 1 - (k + 1) = m - 1 - k by omega]
    rw [e]
    have e0 : revR R (m + 1) 0 = R m := by unfold revR; rw [show m + 1 - 1 - 0 = m by omega]
    rw [e0]
    show ((List.range (R m).n).map (R m).o ++ allE (revR R m) m).Perm (allE R m ++ (List.range (R m).n).map (R m).o)
    exact List.perm_append_comm.trans ((rev_perm R m).append_right _)
theorem mrL_rev {R : Nat → Rn} {m : Nat} (fl : Int) (hn : (sqA R m).Nodup) : mrL (revR R m) m fl = mrL R m fl := by
  by_cases h : m ≤ 20 ∧ runsOk R m
  · rw [mrL_ok h, mrL_ok ⟨h.1, (rev_ok R m).2 h.2⟩]
    obtain ⟨S, hS⟩ := sd_ex (enA (allE R m)) (cntR R m)
    obtain ⟨S', hS'⟩ := sd_ex (enA (allE (revR R m) m)) (cntR (revR R m) m)
    rw [mgV_eq hS, mgV_eq hS']
    have a1 : Sd (enA (allE R m)) (allE R m).length S := by rw [allE_len]; exact hS
    have a2 : Sd (enA (allE (revR R m) m)) (allE (revR R m) m).length S' := by rw [allE_len]; exact hS'
    have n1 : ((allE R m).map En.sq).Nodup := by rw [allE_sq]; exact hn
    have n2 : ((allE (revR R m) m).map En.sq).Nodup := (((rev_perm R m).map En.sq).nodup_iff).2 n1
    rw [enUniq (sd_strict a2 n2) (sd_strict a1 n1) fun x => by rw [sd_mem a2, sd_mem a1, rev_mem]]
  · rw [mrL_no h, mrL_no fun q => h ⟨q.1, (rev_ok R m).1 q.2⟩]
/-- what comes out is a right run -/
theorem run_of {L : List En} (h1 : L.length ≤ 1000) (h2 : ∀ e ∈ L, fitE e) (h3 : L.Pairwise enLt) (h4 : (L.map En.sq).Nodup) : runOk L.length (enA L) := by
  have get : ∀ k, k < L.length → L[k]? = some (enA L k) := fun k hk => enA_get hk
  refine ⟨h1, fun k hk => h2 _ (List.mem_of_getElem? (get k hk)), fun k k0 hk => ?_, fun i j hij hj e => ?_⟩
  · have := List.pairwise_iff_getElem.1 h3 (k - 1) k (by omega) hk (by omega)
    have a := get (k - 1) (by omega)
    have b := get k hk
    rw [List.getElem?_eq_getElem (by omega)] at a
    rw [List.getElem?_eq_getElem hk] at b
    rw [← Option.some.inj a, ← Option.some.inj b]
    exact this
  · have e1 : (L.map En.sq)[i]? = some (enA L i).sq := by rw [List.getElem?_map, get i (by omega)]; rfl
    have e2 : (L.map En.sq)[j]? = some (enA L j).sq := by rw [List.getElem?_map, get j hj]; rfl
    have hh : (L.map En.sq)[i]? = (L.map En.sq)[j]? := by rw [e1, e2, e]
    have := (List.getElem?_inj (by rw [List.length_map]; omega) h4).1 hh
    omega
theorem mrL_run {R : Nat → Rn} {m : Nat} (fl : Int) (hn : (sqA R m).Nodup) : runOk (mrL R m fl).length (enA (mrL R m fl)) := by
  refine run_of (mrL_len R m fl) (mrL_fit R m fl) ?_ ?_
  · by_cases h : m ≤ 20 ∧ runsOk R m
    · obtain ⟨S, hS⟩ := sd_ex (enA (allE R m)) (cntR R m)
      rw [mrL_ok h, mgV_eq hS]
      have a1 : Sd (enA (allE R m)) (allE R m).length S := by rw [allE_len]; exact hS
      exact (sd_strict a1 (by rw [allE_sq]; exact hn)).sublist (mgP_sub fl _ _)
    · rw [mrL_no h]; exact List.Pairwise.nil
  · by_cases h : m ≤ 20 ∧ runsOk R m
    · obtain ⟨S, hS⟩ := sd_ex (enA (allE R m)) (cntR R m)
      rw [mrL_ok h, mgV_eq hS]
      have a1 : Sd (enA (allE R m)) (allE R m).length S := by rw [allE_len]; exact hS
      have n1 : ((allE R m).map En.sq).Nodup := by rw [allE_sq]; exact hn
      have p : (S.map Prod.fst).Perm (allE R m) := by
        refine (List.perm_ext_iff_of_nodup ?_ ?_).2 (sd_mem a1)
        · exact (sd_strict a1 n1).imp fun {a b} q e => by subst e; exact enLt_asymm q q
        · exact (List.pairwise_map.1 n1).imp fun {a b} q e => q (by rw [e])
      exact (((p.map En.sq).nodup_iff).2 n1).sublist ((mgP_sub fl _ _).map _)
    · rw [mrL_no h]; exact List.nodup_nil
end Go.Proofs.Ytekdphfifdfmbaa
namespace Go.Proofs.Ytekdphfifdfmbaa
open Go.RowKit
set_option linter.unusedVariables false
/-! FnMerged. -/
def bkQ (R : Nat → Rn) (m k : Nat) : List (Value × List En) := (List.range k).map fun j => (.slice (R (m - 1 - j)).ad (R (m - 1 - j)).n (R (m - 1 - j)).cap, [])
theorem bkQ_succ (R : Nat → Rn) (m k : Nat) : bkQ R m (k + 1) = bkQ R m k ++ [(.slice (R (m - 1 - k)).ad (R (m - 1 - k)).n (R (m - 1 - k)).cap, [])] := by unfold bkQ; rw [List.range_succ, List.map_append]; rfl
theorem bkQ_len (R : Nat → Rn) (m k : Nat) : (bkQ R m k).length = k := by unfold bkQ; rw [List.length_map, List.length_range]
theorem bk_rns {w : World} {base : Nat} {v : Value} {R : Nat → Rn} {m : Nat} (h : w.ownsRow base 28 1 v (bkQ R m m).length ((bkQ R m m).map Prod.fst)) (hE : ∀ k, k < m → Ens w (R k).ad (R k).n (R k).cap (R k).o) : ∃ a cap, v = .slice a m cap ∧ Rns w a m cap (revR R m) := by
  have hl := bkQ_len R m m
  have hE' : ∀ k, k < m → Ens w (revR R m k).ad (revR R m k).n (revR R m k).cap (revR R m k).o := fun k hk => hE (m - 1 - k) (by omega)
  rcases h.2 with ⟨h1, h2⟩ | ⟨g, cap, cur, he, hb, hr, hnc, hm, hsz2, htk⟩
  · rw [hl] at h2
    exact ⟨none, 0, by rw [h1, h2], by omega, .inl h2, hE'⟩
  · subst he
    refine ⟨some ⟨g, 0, none⟩, cap, by rw [hl], by rw [← hl]; exact hnc, .inr ⟨g, 0, rfl, (show RowAt w g _ cur from hr).lt, fun k hk => ?_⟩, hE'⟩
    have e1 : ((bkQ R m m).map Prod.fst)[k]? = some (.slice (revR R m k).ad (revR R m k).n (revR R m k).cap) := by unfold bkQ revR; rw [List.map_map, List.getElem?_map, List.getElem?_range hk]; rfl
    have := World.ownsRow.cells h rfl k _ e1
    have hadd : (⟨g, 0, none⟩ : Addr).add k = ⟨g, k, none⟩ := by unfold Addr.add; split <;> simp_all
    rw [hadd] at this
    rw [Nat.zero_add]; exact this
theorem rev_sz {R : Nat → Rn} {m : Nat} (h : RnSz R m) : RnSz (revR R m) m := fun k hk => h (m - 1 - k) (by omega)
set_option maxRecDepth 20000 in
set_option maxHeartbeats 16000000 in
theorem mergedWalk (a : Option Addr) (len cap : Nat) (hl : len ≤ 1048576) (w : World) (KD : Hid (Calls Try.prog 6 #[.slice a len cap] w fun e w' => (∃ ar m cr R fl, e = .returned (.tuple #[.slice ar m cr, .int .i64 fl]) ∧ RnG w' ar m cr R) ∧ Below w.heap.size w w')) :
    Calls Try.prog 3 #[.slice a len cap] w fun e w' => e = .returned (.bool true) ∧ Below w.heap.size w w' := by
  have d0 : decide ((1048576 : Int) < (len : Int)) = false := by simp; omega
  go_enter Try.func3, Try.ntmps3
  go_wp2_with fail
  refine KD.out.mono ?_
  rintro e w1 ⟨⟨ar, m, cr, R, fl, rfl, hG⟩, hb1⟩
  have RG := hid hG
  have B1 := hid hb1
  have KI := fun wx (hb : Below w1.heap.size w1 wx) => hid (iMR ar m cr R fl (by have := hG.cnt; omega) (by have := hG.ml; omega) hG.sz wx (hG.rn.below hb))
  have KS := fun wx (hb : Below w1.heap.size w1 wx) => hid (sMR ar m cr R fl (by have := hG.cnt; omega) (by have := hG.ml; omega) hG.sz hG.nil wx (hG.rn.below hb))
  obtain ⟨L, hL⟩ : ∃ L, L = mrL R m fl := ⟨_, rfl⟩
  obtain ⟨N, hN⟩ : ∃ N, N = L.length := ⟨_, rfl⟩
  have hNb : N ≤ 1000 := by rw [hN, hL]; exact mrL_len R m fl
  have hml : m ≤ 30 := hG.ml
  rw [← hL] at KI KS
  have HL := hid hL
  have HN := hid hN
  clear hG hb1 KD hL hN
  go_wp2_with fail
  refine (KI w1 (Below.refl _ _)).out.mono ?_
  rintro e w2 ⟨⟨v2, rfl, hO2⟩, hb2⟩
  obtain ⟨a2, c2, hv2⟩ := hO2.slice
  rw [← HN.out] at hv2
  subst hv2
  obtain ⟨W3, hW3⟩ : ∃ W, W = w2.alloc (.cells #[.slice a2 N c2] 28) := ⟨_, rfl⟩
  have b23 : Below w2.heap.size w2 W3 := by rw [hW3]; exact (Below.refl _ _).alloc (Nat.le_refl _) _
  have M3 : Hid (RowAt W3 w2.heap.size 28 #[.slice a2 N c2]) := by rw [hW3]; exact RowAt.new _ _ _
  have B13 : Hid (Below w1.heap.size w1 W3) := hb2.trans (b23.mono hb2.size)
  have O3 := hid (hO2.below b23)
  clear hO2 hb2 b23
  go_upto_region 5 with ((refine wpList_store_row rfl 28 (.tmp 5) (.tmp 22) rfl w2.heap.size #[.slice a2 N c2] rfl rfl _ _ (RowAt.new w2 _ _) (by kernel_rfl) rfl (by simp [Value.oneCell']) ?_); rw [World.setRow_alloc_new])
  rw [← hW3]
  obtain ⟨x1, hx1⟩ : ∃ x, x = w2.heap.size := ⟨_, rfl⟩
  rw [← hx1] at M3 ⊢
  clear hW3 hx1
  go_wp2_with fail
  refine (KS W3 B13.out).out.mono ?_
  rintro e w4 ⟨⟨v4, rfl, hO4⟩, hb4⟩
  obtain ⟨a4, c4, hv4⟩ := hO4.slice
  rw [← HN.out] at hv4
  subst hv4
  obtain ⟨W5, hW5⟩ : ∃ W, W = w4.alloc (.cells #[.slice a4 N c4] 28) := ⟨_, rfl⟩
  have b45 : Below w4.heap.size w4 W5 := by rw [hW5]; exact (Below.refl _ _).alloc (Nat.le_refl _) _
  have b35 : Below W3.heap.size W3 W5 := hb4.trans (b45.mono hb4.size)
  have N5 : Hid (RowAt W5 w4.heap.size 28 #[.slice a4 N c4]) := by rw [hW5]; exact RowAt.new _ _ _
  have M5 := hid (M3.out.below b35 M3.out.lt)
  have B15 : Hid (Below w1.heap.size w1 W5) := B13.out.trans (b35.mono B13.out.size)
  have E5 := hid ((O3.out.below b35).ens.2)
  have F5 := hid ((hO4.below b45).ens.2)
  clear hO4 hb4 b45 b35 M3 O3 B13
  go_upto_region 6 with ((refine wpList_store_row rfl 28 (.tmp 6) (.tmp 25) rfl w4.heap.size #[.slice a4 N c4] rfl rfl _ _ (RowAt.new w4 _ _) (by kernel_rfl) rfl (by simp [Value.oneCell']) ?_); rw [World.setRow_alloc_new])
  rw [← hW5]
  obtain ⟨x2, hx2⟩ : ∃ x, x = w4.heap.size := ⟨_, rfl⟩
  rw [← hx2] at N5 ⊢
  clear hW5 hx2
  have m0 := M5.out.cell 0
  have n0 := N5.out.cell 0
  have KL := hid (lwEns a2 N c2 a4 c4 (enA L) (by omega) W5 E5.out F5.out)
  go_wp2_with fail
  refine KL.out.mono ?_
  rintro e w6 ⟨rfl, hb6⟩
  have M6 := hid (M5.out.below hb6 M5.out.lt)
  have N6 := hid (N5.out.below hb6 N5.out.lt)
  have E6 := hid (E5.out.below hb6)
  have F6 := hid (F5.out.below hb6)
  have B16 : Hid (Below w1.heap.size w1 w6) := B15.out.trans (hb6.mono B15.out.size)
  have RN6 := hid (RG.out.rn.below B16.out)
  clear hb6 m0 n0 M5 N5 E5 F5 B15 KL
  have hmw : IntKind.i64.wrap ((m : Int) - 1) = (m : Int) - 1 := by simp [IntKind.wrap, IntKind.bits, IntKind.signed]; omega
  go_wp2_with fail
  go_loopw [8, 7] (fun q v wr => ∃ (k : Nat) (V : Value), k ≤ m ∧ q = .int .i64 ((m : Int) - 1 - (k : Int)) ∧ V = v ∧ wr.ownsRow w6.heap.size 28 1 V (bkQ R m k).length ((bkQ R m k).map Prod.fst) ∧ Below w6.heap.size w6 wr) (fun q _ _ => (intOf q + 1).toNat)
  case atStart => exact ⟨0, _, Nat.zero_le _, by congr 1; omega, rfl, World.ownsRow_made w6 #[] 0 (Nat.le_refl _) (by decide) rfl, (Below.refl _ _).alloc (Nat.le_refl _) _⟩
  case round =>
    obtain ⟨k, v, hk, rfl, rfl, hO, hB⟩ := hrel
    have OO := hid hO
    have BB := hid hB
    clear hO hB
    by_cases hlt : k < m
    · obtain ⟨j, hj⟩ : ∃ j : Nat, j = m - 1 - k := ⟨_, rfl⟩
      have ej : (m : Int) - 1 - (k : Int) = (j : Int) := by omega
      rw [ej]
      have j0 : (0 : Int) ≤ (j : Int) := by omega
      have jm : (j : Int) < (m : Int) := by omega
      have jw : IntKind.i64.wrap ((j : Int) - 1) = (j : Int) - 1 := by simp [IntKind.wrap, IntKind.bits, IntKind.signed]; omega
      rcases (RN6.out.below BB.out).2.1 with h00 | ⟨bb, off, rfl, hbl, hcc⟩
      · omega
      have c0 := hcc j (by omega)
      have BS : Hid (bkQ R m (k + 1) = bkQ R m k ++ [(Value.slice (R j).ad (R j).n (R j).cap, [])]) := by rw [bkQ_succ, hj]; rfl
      have BLn : Hid ((bkQ R m k).length ≤ 30) := by show _ ≤ _; rw [bkQ_len]; omega
      have EJ := hid ej
      clear hcc ej hj
      generalize (R j).ad = A at c0 BS
      generalize (R j).n = NN at c0 BS
      generalize (R j).cap = C at c0 BS
      go_wp2_with (at_builtin; refine lockT ?_)
      refine hid ?_
      refine append_run w6.heap.size _ rfl (.tmp 40) (.tmp 45) rfl v (bkQ R m k) (Value.slice A NN C, []) rfl OO.out BB.out.size rfl rfl (by have := BLn.out; omega) ?_
      intro v7 w7 hR7 hg7
      rw [← BS.out] at hR7
      have B7 := hid (BB.out.grown hg7 BB.out.size (fun g e => (or_row OO.out e).1))
      have R7 := hid hR7
      clear hR7 hg7 c0 OO BB
      go_wp2
      go_roundw
      case rel => exact ⟨k + 1, _, by omega, by have := EJ.out; first | (congr 1; omega) | congr 1, rfl, R7.out, B7.out⟩
      case measure => have := EJ.out; simp [intOf] <;> omega
    · obtain rfl : k = m := by omega
      have ej : (k : Int) - 1 - (k : Int) = -1 := by omega
      rw [ej]
      obtain ⟨ak, ck, hv, hRv⟩ := bk_rns OO.out (fun q hq => (RN6.out.below BB.out).2.2 q hq)
      subst hv
      have B1r : Hid (Below w1.heap.size w1 wr) := B16.out.trans (BB.out.mono B16.out.size)
      have Mr := hid (M6.out.below BB.out M6.out.lt)
      have Nr := hid (N6.out.below BB.out N6.out.lt)
      have Er := hid (E6.out.below BB.out)
      have Fr := hid (F6.out.below BB.out)
      have RNr := hid (RN6.out.below BB.out)
      have RV := hid hRv
      obtain ⟨W8, rfl⟩ : ∃ W : World, W = wr := ⟨wr, rfl⟩
      clear OO hRv BB B16 M6 N6 E6 F6 RN6 hmw KI KS hk hlt ej
      have hCn := RG.out.cnt
      go_wp2_with fail
      go_loopw [10, 9] (fun q v wx => ∃ i : Nat, i ≤ k ∧ q = .int .i64 i ∧ OwnNums wx W8.heap.size 2 .i64 v (sqA R i) ∧ (sqA R i).Nodup ∧ Below W8.heap.size W8 wx) (fun q _ _ => k - (intOf q).toNat)
      case atStart => exact ⟨0, Nat.zero_le _, rfl, OwnNums.empty W8 _ _, List.nodup_nil, (Below.refl _ _).alloc (Nat.le_refl _) _⟩
      case round =>
        obtain ⟨i, hi, rfl, hO, hD, hB⟩ := hrel
        have HO := hid hO
        have HD := hid hD
        have HB := hid hB
        clear hO hD hB
        by_cases hlt : i < k
        · have hlt' : (i : Int) < (k : Int) := by omega
          have i0 : (0 : Int) ≤ (i : Int) := by omega
          have hE := hid (RNr.out.2.2 i hlt)
          have hkm := cntR_mono R (show i + 1 ≤ k by omega)
          have HCELL : Hid (∃ b off, ar = some ⟨b, off, none⟩ ∧ ∀ wx, Below W8.heap.size W8 wx → wx.cell? ⟨b, off + i, none⟩ = some (.slice (R i).ad (R i).n (R i).cap)) := by
            rcases RNr.out.2.1 with h00 | ⟨b', off', he, hbw, hcw⟩
            · omega
            · exact ⟨b', off', he, fun wx hb => (hb.cell (p := ⟨b', off' + i, none⟩) hbw).trans (hcw i hlt)⟩
          obtain ⟨b, off, rfl, hCELL⟩ := HCELL.out
          have CELL := hid hCELL
          have HA : Hid (sqA R (i + 1) = sqA R i ++ sqL (R i).o (R i).n) := rfl
          have Z0 : Hid (sqA R i ++ sqL (R i).o 0 = sqA R i) := by show _ = _; simp [sqL]
          have HLA : Hid ((sqA R i).length + (R i).n ≤ 5000) := by show _ ≤ _; rw [sqA_len]; exact Nat.le_trans hkm hCn
          obtain ⟨A, hA⟩ : ∃ v, v = (R i).ad := ⟨_, rfl⟩
          obtain ⟨NN, hN'⟩ : ∃ v, v = (R i).n := ⟨_, rfl⟩
          obtain ⟨C, hC⟩ : ∃ v, v = (R i).cap := ⟨_, rfl⟩
          rw [← hA, ← hN', ← hC] at CELL hE
          rw [← hN'] at HA HLA
          have c0 := CELL.out wr HB.out
          have hNN : NN ≤ 5000 := Nat.le_trans (Nat.le_add_left _ _) HLA.out
          clear hCELL HCELL hA hC hkm hN'
          go_wp2_with fail
          clear c0
          go_loopw [11, 9] (fun q v wx => ∃ j : Nat, j ≤ NN ∧ q = .int .i64 j ∧ OwnNums wx W8.heap.size 2 .i64 v (sqA R i ++ sqL (R i).o j) ∧ (sqA R i ++ sqL (R i).o j).Nodup ∧ Below W8.heap.size W8 wx) (fun q _ _ => NN - (intOf q).toNat)
          case atStart => exact ⟨0, Nat.zero_le _, rfl, by rw [Z0.out]; exact HO.out, by rw [Z0.out]; exact HD.out, HB.out⟩
          case round =>
            obtain ⟨j, hj, rfl, hO, hD, hB⟩ := hrel
            have JB := hid hB
            have JD := hid hD
            have cR := CELL.out wr hB
            obtain ⟨ys, hys⟩ : ∃ ys, ys = sqA R i ++ sqL (R i).o j := ⟨_, rfl⟩
            rw [← hys] at hO JD
            have HY := hid hys
            obtain ⟨av, cv, rfl, hI, hcv⟩ := own_intsR hO
            have JO := hid hO
            have JI := hid hI
            have HLJ : Hid (ys.length ≤ 5000) := by show _ ≤ _; rw [hys, List.length_append, sqL_len]; have := HLA.out; omega
            clear hB hD hO hI hcv hys HO HD HB
            by_cases hjl : j < NN
            · have hjl' : (j : Int) < (NN : Int) := by omega
              have j0 : (0 : Int) ≤ (j : Int) := by omega
              rcases (hE.out.below JB.out).2 with h00 | ⟨g, of, rfl, hgl, hcc⟩
              · omega
              obtain ⟨_, c1, _, _⟩ := hcc j hjl
              have HSQ : Hid (sqA R i ++ sqL (R i).o (j + 1) = sqA R i ++ sqL (R i).o j ++ [((R i).o j).sq]) := by show _ = _; rw [sqL_succ, List.append_assoc]
              obtain ⟨X, hX⟩ : ∃ v, v = ((R i).o j).sq := ⟨_, rfl⟩
              rw [← hX] at c1 HSQ
              rw [← HY.out] at HSQ
              clear hcc hX
              have KI := hid (lwHas8 av _ cv _ X (by have := HLJ.out; omega) wr JI.out)
              cases hin : decide (X ∈ ys) with
              | true =>
                rw [hin] at KI
                clear hin
                go_wp2_with fail
                refine KI.out.mono ?_
                rintro e w4 ⟨rfl, rfl⟩
                go_wp2
                go_ret
                exact ⟨rfl, B1.out.trans ((B1r.out.trans (JB.out.mono B1r.out.size)).mono B1.out.size)⟩
              | false =>
                have HLL : Hid (ys.length ≤ 17592186044414) := by show _ ≤ _; have := HLJ.out; omega
                have E : Hid ((ys ++ [X]).Nodup) := by
                  show List.Nodup _
                  rw [List.nodup_append]
                  refine ⟨JD.out, by simp, fun x hx y hy e => ?_⟩
                  rw [List.mem_singleton] at hy
                  subst hy; subst e
                  simp [hx] at hin
                rw [hin] at KI
                clear hin
                go_wp2_with fail
                refine KI.out.mono ?_
                rintro e w4 ⟨rfl, rfl⟩
                clear KI
                go_wp2_with (refine append_num W8 w4 (by rfl) (.tmp 75) (.tmp 85) 31 (by rfl) 2 .i64 8 Try.underlying31 Try.info64 (by decide) _ _ X (by rfl) JO.out JB.out (by rfl) HLL.out ?_; intro v' w6 hown' hbel' hsome)
                go_roundw
                case rel => exact ⟨j + 1, by omega, by go_num, by rw [HSQ.out]; exact hown', by rw [HSQ.out]; exact E.out, hbel'⟩
                case measure => simp [intOf]; omega
            · have hjl' : ¬ (j : Int) < (NN : Int) := by omega
              have hje : j = NN := by omega
              subst hje
              have O9 : Hid (OwnNums wr W8.heap.size 2 .i64 (.slice av ys.length cv) (sqA R (i + 1))) := by rw [HA.out, ← HY.out]; exact JO.out
              have D9 : Hid ((sqA R (i + 1)).Nodup) := by rw [HA.out, ← HY.out]; exact JD.out
              go_wp2
              go_roundw
              case rel => exact ⟨i + 1, by omega, by go_num, O9.out, D9.out, JB.out⟩
              case measure => simp [intOf]; omega
        · have hlt' : ¬ (i : Int) < (k : Int) := by omega
          have hke : i = k := by omega
          subst hke
          have b1 := B1r.out.trans (HB.out.mono B1r.out.size)
          have bW : Hid (Below w.heap.size w wr) := B1.out.trans (b1.mono B1.out.size)
          have hM := Mr.out.below HB.out Mr.out.lt
          have hN := Nr.out.below HB.out Nr.out.lt
          have Er9 := hid (Er.out.below HB.out)
          have Fr9 := hid (Fr.out.below HB.out)
          have RV9 := hid (RV.out.below HB.out)
          have KI := fun wx (hb : Below wr.heap.size wr wx) => hid (iMR ak i ck (revR R i) fl (by rw [cntR_rev]; omega) (by omega) (rev_sz RG.out.sz) wx (RV9.out.below hb))
          have hML : mrL (revR R i) i fl = L := by rw [mrL_rev fl HD.out, HL.out]
          have hRun : runV N (enA L) = 0 := by rw [HN.out, HL.out]; exact runV_ok (mrL_run fl HD.out)
          have KF := fun wx (hb : Below wr.heap.size wr wx) => hid (iRunF a2 N c2 (enA L) (by omega) (fun q hq => by
            have hm : enA L q ∈ L := List.mem_of_getElem? (enA_get (by rw [← HN.out]; exact hq))
            have := mrL_fit R i fl (enA L q) (by rw [← HL.out]; exact hm)
            exact ⟨by have := this.2.1; omega, by have := this.2.2.2.2; omega⟩) wx (Er9.out.below hb))
          rw [hML] at KI
          rw [hRun] at KF
          clear b1 hML hRun HO HD RV Er Fr Mr Nr
          have fR := fun a n c wx => fldR (.slice a n c) wx
          go_wp2_with fail
          go_region_held3 (fun wx => wx.cell? ⟨x1, 0, none⟩ = some (.slice a2 N c2) ∧ wx.cell? ⟨x2, 0, none⟩ = some (.slice a4 N c4))
            ((first | exact ⟨hM.cell 0, hN.cell 0⟩))
            ((first
              | (go_at_call 7; refine (KI _ (Below.refl _ wr).drew).out.mono ?_; rintro e w9 ⟨⟨v9, rfl, hO9⟩, hb9⟩; replace hM := RowAt.nx hb9 hM; replace hN := RowAt.nx hb9 hN; obtain ⟨a9, c9, hv9⟩ := hO9.slice; rw [← HN.out] at hv9; subst hv9; have E9 := hO9.ens.2; have Z9 : Below wr.heap.size wr w9 := (Below.refl _ wr).drew.trans hb9)
              | (go_at_call 9; refine (lwEns a9 N c9 a4 c4 (enA L) (by omega) _ E9 (Fr9.out.below Z9)).mono ?_; rintro e w10 ⟨rfl, hb10⟩; have Z10 : Below wr.heap.size wr w10 := Z9.trans (hb10.mono Z9.size); replace hM := RowAt.nx hb10 hM; replace hN := RowAt.nx hb10 hN)
              | (go_at_call 11; refine (KF _ Z10).out.mono ?_; rintro e w11 ⟨rfl, hb11⟩; have Z11 : Below wr.heap.size wr w11 := Z10.trans (hb11.mono Z10.size); replace hM := RowAt.nx hb11 hM; replace hN := RowAt.nx hb11 hN)))
          all_goals go_wp2
          all_goals go_ret
          all_goals exact ⟨rfl, bW.out.trans (Z11.mono bW.out.size)⟩
theorem fnMerged_walk {w : World} (a0 : Option Addr) (len0 cap0 : Nat) (z0 : List Int) (h0 : IsRow .u8 w a0 len0 cap0 z0) :
    Calls Try.prog 3 #[.slice a0 len0 cap0] w fun e w' => e = .returned (.bool true) ∧ Below w.heap.size w w' := by
  have m0 := h0.le
  unfold maxLen at m0
  by_cases hl0 : len0 ≤ 1048576
  · exact mergedWalk a0 len0 cap0 hl0 w (hid (drawMR_all w a0 len0 cap0 (codeOk_of w a0 len0 cap0 z0 h0 hl0) m0.1))
  · have d0 : decide ((1048576 : Int) < (len0 : Int)) = true := by simp; omega
    go_enter Try.func3, Try.ntmps3
    go_wp2
    go_ret
    exact ⟨rfl, Below.refl _ _⟩
end Go.Proofs.Ytekdphfifdfmbaa
