import Derived.Test.YtcbmgpdpjagaoaaGreatT1
import Derived.Test.YtcbmgpdpjagaoaaGreatI2
import Derived.BigQuiet
import Derived.Test.YtcbmgpdpjagaoaaGreatDrawRt
import Derived.Test.YtcbmgpdpjagaoaaGreatDkT
import Derived.Test.YtcbmgpdpjagaoaaGreatRtbL
namespace Go.Proofs.YtcbmgpdpjagaoaaGreat
open Go.RowKit
set_option linter.unusedVariables false
set_option maxRecDepth 20000 in
set_option maxHeartbeats 4000000 in
theorem lwEns (a : Option Addr) (n cap : Nat) (a' : Option Addr) (cap' : Nat) (o : Nat → En) (hl : n ≤ 1048576) (w : World) (h : Ens w a n cap o) (h' : Ens w a' n cap' o) :
 Calls Tryz.prog 11 #[.slice a n cap, .slice a' n cap'] w fun e w' => e = .returned (.bool true) ∧ Below w.heap.size w w' := by
 have HH := hid h; have HH' := hid h'; have dn : ((n : Int) != (n : Int)) = false := by simp
 clear h h'
 go_enter Tryz.func11, Tryz.ntmps11
 go_wp2_with fail
 go_loopw [5] (fun q wr => ∃ (k : Nat), k ≤ n ∧ q = .int .i64 k ∧ Below w.heap.size w wr) (fun q _ => n - (intOf q).toNat)
 case atStart => exact ⟨0, Nat.zero_le _, rfl, Below.refl _ _⟩
 case round =>
  obtain ⟨k, hk, rfl, hB⟩ := hrel; have HB := hid hB; clear hB
  by_cases hlt : k < n
  · have hlt' : (k : Int) < (n : Int) := by omega
    have k0 : (0 : Int) ≤ (k : Int) := by omega
    rcases (HH.out.below HB.out).2 with h00 | ⟨b, off, rfl, hbl, hc⟩
    · omega
    rcases (HH'.out.below HB.out).2 with h00 | ⟨b', off', rfl, hbl', hc'⟩
    · omega
    obtain ⟨c0, c1, c2, c3⟩ := hc k hlt; obtain ⟨e0, e1, e2, e3⟩ := hc' k hlt; obtain ⟨X0, hX0⟩ : ∃ v, v = (o k).ky := ⟨_, rfl⟩; obtain ⟨X1, hX1⟩ : ∃ v, v = (o k).sq := ⟨_, rfl⟩; obtain ⟨X2, hX2⟩ : ∃ v, v = (o k).gn := ⟨_, rfl⟩; obtain ⟨X3, hX3⟩ : ∃ v, v = (o k).tx := ⟨_, rfl⟩; rw [← hX0] at c0 e0; rw [← hX1] at c1 e1; rw [← hX2] at c2 e2; rw [← hX3] at c3 e3; clear hc hc' hX0 hX1 hX2 hX3; have dX : (X0.toList == X0.toList) = true := by simp
    have N2 : Hid (∀ d, Below w.heap.size w (wr.drewN d)) := fun d => below_dN HB.out d; clear HB
    go_wp2_with fail
    go_quiet (fail)
    go_wp2
    go_roundw
    case rel => exact ⟨k + 1, by omega, by go_num, N2.out _⟩
    case measure => simp [intOf]; omega
  · have hlt' : ¬ (k : Int) < (n : Int) := by omega
    go_wp2
    go_ret
    exact ⟨rfl, HB.out⟩
end Go.Proofs.YtcbmgpdpjagaoaaGreat
namespace Go.Proofs.YtcbmgpdpjagaoaaGreat
open Go.RowKit
set_option linter.unusedVariables false
theorem le_sum8 : ∀ (l : List Nat) (x : Nat), x ∈ l → x ≤ l.sum
 | [], x, h => by cases h
 | y :: l, x, h => by
  rw [List.sum_cons]
  rcases List.mem_cons.1 h with rfl | h
  · exact Nat.le_add_right _ _
  · exact Nat.le_trans (le_sum8 l x h) (Nat.le_add_left _ _)
structure TbG (w : World) (aF : Option Addr) (nF cF : Nat) (F : List En) (aR : Option Addr) (nR cR : Nat) (Q : List (Value × List En)) : Prop where
 lF : nF = F.length
 lR : nR = Q.length
 en : Ens w aF nF cF (enA F)
 rn : Rns w aR nR cR (Rq Q)
 ra : RnA w aR nR cR (Rq Q)
 zF : aF = none → cF = 0
 zR : ∀ k, k < nR → (Rq Q k).ad = none → (Rq Q k).cap = 0
 sz : RnSz (Rq Q) nR
 sF : ∀ k, k < nF → (enA F k).ky.size ≤ 1048576 ∧ (enA F k).tx.size ≤ 1048576
 cn : cntR (Rq Q) nR + nF ≤ 5000
 bF : nF ≤ 1001
 bR : nR ≤ 21
theorem TbG.below {w w' : World} {aF : Option Addr} {nF cF : Nat} {F : List En} {aR : Option Addr} {nR cR : Nat} {Q : List (Value × List En)} (h : TbG w aF nF cF F aR nR cR Q) (hb : Below w.heap.size w w') : TbG w' aF nF cF F aR nR cR Q :=
 ⟨h.lF, h.lR, h.en.below hb, h.rn.below hb, h.ra.below hb, h.zF, h.zR, h.sz, h.sF, h.cn, h.bF, h.bR⟩
theorem cnt_Q {w : World} {base : Nat} {Q : List (Value × List En)} (hu : ∀ p ∈ Q, OwnEn w base p.1 p.2) : cntR (Rq Q) Q.length = (Q.map fun p => p.2.length).sum := by
 have h : ∀ k, k < Q.length → (Rq Q k).n = (Q.getD k (.slice none 0 0, [])).2.length := fun k hk => by
  have e2 : Q[k]? = some Q[k] := List.getElem?_eq_getElem hk; have eg : Q.getD k (.slice none 0 0, []) = Q[k] := by rw [List.getD_eq_getElem?_getD, e2]; rfl
  unfold Rq; rw [eg]; exact (hu Q[k] (List.getElem_mem hk)).rnOf.2.1
 have g : ∀ m, m ≤ Q.length → cntR (Rq Q) m = ((Q.take m).map fun p => p.2.length).sum := fun m => by
  induction m with
  | zero => intro _; rfl
  | succ m ih =>
   intro hm; have hk : m < Q.length := by omega
   show cntR (Rq Q) m + (Rq Q m).n = _
   have et : Q.take (m + 1) = Q.take m ++ [Q[m]] := by rw [List.take_add_one, List.getElem?_eq_getElem hk]; rfl
   have eg : Q.getD m (.slice none 0 0, []) = Q[m] := by rw [List.getD_eq_getElem?_getD, List.getElem?_eq_getElem hk]; rfl
   rw [ih (by omega), h m hk, et, List.map_append, List.sum_append, eg]
   rfl
 rw [g Q.length (Nat.le_refl _), List.take_length]
theorem tbg_of {w : World} {base : Nat} {aF aR : Option Addr} {nF cF nR cR : Nat} {F : List En} {Q : List (Value × List En)} (hF : OwnEn w base (.slice aF nF cF) F) (hr : w.ownsRow base 25 1 (.slice aR nR cR) Q.length (Q.map Prod.fst)) (hu : ∀ p ∈ Q, OwnEn w base p.1 p.2) (b1 : F.length ≤ 1001) (b2 : Q.length ≤ 21) (b3 : (Q.map fun p => p.2.length).sum ≤ 3000) (s1 : ∀ e ∈ F, e.ky.size ≤ 1048576 ∧ e.tx.size ≤ 1048576) (s2 : ∀ p ∈ Q, ∀ e ∈ p.2, e.ky.size ≤ 1048576 ∧ e.tx.size ≤ 1048576) : TbG w aF nF cF F aR nR cR Q := by
 obtain ⟨q1, q2, q3, q4, q5⟩ := OwnEn.rnOf (p := (.slice aF nF cF, F)) hF; obtain ⟨a, c, hv, g1, g2, g3, _⟩ := rs_rnA hr hu
 injection hv with e1 e2 e3
 subst e1 e2 e3; have hcq := cnt_Q hu; have e4 : nF = F.length := q2; refine ⟨e4, rfl, by rw [q3] at q4; exact q4, g1, g2, q5, g3, fun k hk => ?_, fun k hk => ?_, by omega, by omega, b2⟩
 · have e2 : Q[k]? = some Q[k] := List.getElem?_eq_getElem hk
   have eg : Q.getD k (.slice none 0 0, []) = Q[k] := by rw [List.getD_eq_getElem?_getD, e2]; rfl
   have hp : Q[k] ∈ Q := List.getElem_mem hk; obtain ⟨_, r1, r2, _, _⟩ := (hu Q[k] hp).rnOf; unfold Rq; rw [eg, r1, r2]; refine ⟨?_, fun i hi => s2 _ hp _ (List.mem_of_getElem? (enA_get hi))⟩; have := le_sum8 _ _ (List.mem_map.2 ⟨Q[k], hp, rfl⟩ : Q[k].2.length ∈ Q.map fun p => p.2.length)
   omega
 · exact s1 _ (List.mem_of_getElem? (enA_get (by omega)))
theorem tbg_tb {w : World} {base : Nat} {aF aR : Option Addr} {nF cF nR cR : Nat} {t : Tt} {Q : List (Value × List En)} (hT : TbOk t) (hF : OwnEn w base (.slice aF nF cF) t.fr) (hr : w.ownsRow base 25 1 (.slice aR nR cR) Q.length (Q.map Prod.fst)) (hu : ∀ p ∈ Q, OwnEn w base p.1 p.2) (he : Q.map Prod.snd = t.rs) : TbG w aF nF cF t.fr aR nR cR Q ∧ ttOf t.sq t.fl nF (enA t.fr) nR (Rq Q) = t := by
 have hl : Q.length = t.rs.length := by rw [← he, List.length_map]
 have hs : (Q.map fun p => p.2.length).sum = t.rs.flatten.length := by
  rw [← he, List.length_flatten, List.map_map]
  rfl
 have hc := hT.cnt; unfold Tt.all at hc; rw [List.length_append] at hc; have g := tbg_of hF hr hu (by omega) (by rw [hl]; exact Nat.le_trans hT.m (by decide)) (by omega) (fun e h => fit_sz (hT.fit e (List.mem_append_left _ h)).1) (fun p hp e h => fit_sz (hT.fit e (List.mem_append_right _ (by rw [← he]; exact List.mem_flatten.2 ⟨p.2, List.mem_map.2 ⟨p, hp, rfl⟩, h⟩))).1); refine ⟨g, ?_⟩; rw [g.lF, g.lR, hl]; exact tt_eq t _ (rq_of hu he)
theorem ou_cells {w : World} {base : Nat} {v : Value} {O : List (Ot × Value)} (h : w.ownsRow base 41 3 v O.length (ouL O)) : ∃ a c, v = .slice a O.length c ∧ (O.length = 0 ∨ ∃ g, a = some ⟨g, 0, none⟩ ∧ g < w.heap.size ∧ ∀ k u x, O[k]? = some (u, x) → w.cell? ⟨g, k * 3, none⟩ = some (.int .i64 u.cd) ∧ w.cell? ⟨g, k * 3 + 1, none⟩ = some (.string u.tx) ∧ w.cell? ⟨g, k * 3 + 2, none⟩ = some x) := by
 rcases h.2 with ⟨h1, h2⟩ | ⟨g, cap, cur, he, hb, hr, hnc, hm, hsz, htk⟩
 · exact ⟨none, 0, by rw [h1, h2], .inl h2⟩
 · subst he
   refine ⟨_, _, rfl, .inr ⟨g, rfl, (show RA w g _ cur from hr).lt, fun k u x hk => ?_⟩⟩; have hadd : ∀ j, (⟨g, 0, none⟩ : Addr).add j = ⟨g, j, none⟩ := fun j => by unfold Addr.add; split <;> simp_all
   have e : ∀ (L : List (Ot × Value)) (k : Nat) (p : Ot × Value), L[k]? = some p → (ouL L)[k * 3]? = some (.int .i64 p.1.cd) ∧ (ouL L)[k * 3 + 1]? = some (.string p.1.tx) ∧ (ouL L)[k * 3 + 2]? = some p.2 := fun L => by
    induction L with
    | nil => intro k p hk; simp at hk
    | cons q L ih =>
     intro k p hk; have e0 : ouL (q :: L) = [.int .i64 q.1.cd, .string q.1.tx, q.2] ++ ouL L := rfl; rw [e0]
     cases k with
     | zero => simp at hk; subst hk; exact ⟨rfl, rfl, rfl⟩
     | succ k =>
      simp at hk
      obtain ⟨a1, a2, a3⟩ := ih k p hk
      have r : ∀ j, ([.int .i64 q.1.cd, .string q.1.tx, q.2] ++ ouL L)[(k + 1) * 3 + j]? = (ouL L)[k * 3 + j]? := fun j => by
       rw [List.getElem?_append_right (by simp; omega)]
       congr 1
       simp
       omega
      exact ⟨by rw [show (k + 1) * 3 = (k + 1) * 3 + 0 from rfl, r]; exact a1, by rw [r]; exact a2, by rw [r]; exact a3⟩
   obtain ⟨a1, a2, a3⟩ := e O k (u, x) hk; have c0 := World.ownsRow.cells h rfl (k * 3) _ a1; have c1 := World.ownsRow.cells h rfl (k * 3 + 1) _ a2; have c2 := World.ownsRow.cells h rfl (k * 3 + 2) _ a3; rw [hadd] at c0 c1 c2; exact ⟨c0, c1, c2⟩
end Go.Proofs.YtcbmgpdpjagaoaaGreat
namespace Go.Proofs.YtcbmgpdpjagaoaaGreat
open Go.RowKit
set_option linter.unusedVariables false
end Go.Proofs.YtcbmgpdpjagaoaaGreat
