import Derived.Test.YtcbmgpdpjagaoaaGreatRfLaw
import Derived.Test.YtcbmgpdpjagaoaaGreatG5
import Derived.Shelf.Abstract
import Derived.Shelf.RegionOpen
import Derived.OwnWalkIn
import Derived.TacticsInMore
import Derived.LoopNIn
import Derived.LoopIn
import Derived.Deep.LoopGhost
namespace Go.Proofs.YtcbmgpdpjagaoaaGreat
open Go.RowKit Go.Shelf
set_option linter.unusedVariables false
attribute [local go_sem] Oper.semAt_some
theorem RQ.row {A B : World} {k : Nat} {t : TypeId} {cs : Array Value} (h : RQ A B) (hr : RA A k t cs) (h1 : t ≠ 109) (h2 : t ≠ 112) (h3 : t ≠ 114) : RA B k t cs := by
 rcases h.keep k hr.lt with ⟨u, ds, q, hu⟩ | q
 · have := hr.symm.trans q
   simp at this
   rcases hu with rfl | rfl | rfl
   · exact absurd this.2 h1
   · exact absurd this.2 h2
   · exact absurd this.2 h3
 · exact q.trans hr
structure KpQ (B0 : Nat) (A B : World) : Prop where
 os : B.os = A.os
 tape : B.tape = A.tape
 output : B.output = A.output
 size : A.heap.size ≤ B.heap.size
 low : ∀ k, k < B0 → B.heap[k]? = A.heap[k]?
 rows : ∀ k t cs, (t = 109 ∨ t = 112 ∨ t = 114) → RA A k t cs → RA B k t cs
theorem KpQ.trans {B0 : Nat} {A B C : World} (h : KpQ B0 A B) (k : KpQ B0 B C) : KpQ B0 A C := ⟨k.os.trans h.os, k.tape.trans h.tape, k.output.trans h.output, Nat.le_trans h.size k.size, fun j hj => (k.low j hj).trans (h.low j hj), fun j t cs ht hr => k.rows j t cs ht (h.rows j t cs ht hr)⟩
theorem QH.kp {W0 A B : World} {q n : Nat} {H : Nat → Nat} {cu : Nat → Cu} (h : QH W0 A q n H cu) (k : KpQ W0.heap.size A B) : QH W0 B q n H cu := by
 obtain ⟨v, hr, ho⟩ := h.row; refine ⟨⟨k.os.trans h.old.os, k.tape.trans h.old.tape, k.output.trans h.old.output, Nat.le_trans h.old.size k.size, fun j hj => (k.low j hj).trans (h.old.block j hj)⟩, ⟨v, k.rows _ _ _ (.inl rfl) hr, ho.keep fun g cs _ r => k.rows _ _ _ (.inr (.inl rfl)) r⟩, h.bq, fun i hi => ⟨k.rows _ _ _ (.inr (.inr rfl)) (h.cus i hi).1, (h.cus i hi).2⟩⟩
theorem Mst.kp {W0 A B : World} {q n : Nat} {H : Nat → Nat} {cu : Nat → Cu} {R : Nat → Rn} {mB : Nat} {pos : Nat → Nat} (h : Mst W0 A q n H cu R mB pos) (k : KpQ W0.heap.size A B) : Mst W0 B q n H cu R mB pos := ⟨h.qh.kp k, h.pz, h.hp, h.inj, h.cur, h.ex, h.un⟩
def RQB (B0 : Nat) (A B : World) : Prop := RQ A B ∧ ∀ j, j < B0 → B.heap[j]? = A.heap[j]?
theorem QH.qs2 {W0 w : World} {q n : Nat} {H : Nat → Nat} {cu : Nat → Cu} (h : QH W0 w q n H cu) (hn : 0 < n) : ∃ gI C, QS W0 w q gI C n H cu ∧ C ≤ maxLen := by
 obtain ⟨v, hr, ho⟩ := h.row; have hl : ((List.range n).map H).length = n := by simp
 rcases ho.2 with ⟨_, h1⟩ | ⟨g, cap, cur, he, hb, _, _, hm, _⟩
 · rw [hl] at h1; omega
 · subst he
   rw [hl] at hr ho; obtain ⟨_, hbg, hnC, f, hf, hh⟩ := ho.frow; exact ⟨g, cap, ⟨h.old, hr, ⟨f, hf, fun i hi => by rw [hh i hi, rangeD H hi]⟩, hnC, h.bq, hbg, h.cus⟩, hm⟩
theorem QS.adv {W0 w : World} {q gI C n : Nat} {H : Nat → Nat} {cu : Nat → Cu} (h : QS W0 w q gI C n H cu) (hi : Inj H n) (n0 : 0 < n) (hH : W0.heap.size ≤ H 0) {a2 : Option Addr} {n2 c2 : Nat} {o2 : Nat → En} (he : Ens W0 a2 n2 c2 o2) :
 QS W0 (w.setCell ⟨H 0, 1, none⟩ (.slice a2 n2 c2)) q gI C n H (cuU cu (H 0) ⟨(cu (H 0)).no, a2, n2, c2, o2⟩) := by
 obtain ⟨f, hf, hh⟩ := h.itm; have r0 := (h.cus 0 n0).1; refine ⟨h.old.grown (grown_setCellQ w (H 0) 1 _) h.old.size (fun k e => by have := Option.some.inj e; omega), h.row.other _ _ (rowApartQ h.row r0 (by decide)), ⟨f, hf.other _ _ (rowApartQ hf.row r0 (by decide)), hh⟩, h.le, h.bq, h.bg, fun i hin => ?_⟩
 by_cases e : i = 0
 · subst e
   rw [cuU_b]; exact ⟨r0.set 1 _, he⟩
 · have ne : H i ≠ H 0 := fun q => e (hi i 0 hin n0 q)
   rw [cuU_o _ _ ne]; exact ⟨(h.cus i hin).1.other _ _ ne, (h.cus i hin).2⟩
theorem adv_dn {H : Nat → Nat} {n : Nat} {cu : Nat → Cu} {c : Cu} (hh : Heap (nbC cu) H n) (hi : Inj H n) (n0 : 0 < n) : ∀ k, 0 < k → k < n → (k - 1) / 2 ≠ 0 → nbC (cuU cu (H 0) c) (H k) (H ((k - 1) / 2)) := fun k k0 kn kp => by
 have e1 : H k ≠ H 0 := fun e => by have := hi k 0 kn n0 e; omega
 have e2 : H ((k - 1) / 2) ≠ H 0 := fun e => kp (hi _ 0 (by omega) n0 e); have := hh k k0 kn; unfold nbC at this ⊢; rw [cuU_o _ _ e1, cuU_o _ _ e2]; exact this
def IvM (w : World) (q : Nat) (R : Nat → Rn) (m : Nat) (S : List Tg) (J : Nat → World → Prop) (k : Nat) (wr : World) : Prop := k ≤ S.length ∧ J k wr ∧ ∃ (n : Nat) (H : Nat → Nat) (cu : Nat → Cu) (pos : Nat → Nat), n ≤ m ∧ (∀ i, i < n → w.heap.size ≤ H i) ∧ Mst w wr q n H cu R m pos ∧ Rem S R m pos k
set_option maxRecDepth 100000 in
set_option maxHeartbeats 4000000 in
theorem iMrg (fu bR bF : Nat) (a : Option Addr) (m cap : Nat) (R : Nat → Rn) (k : ByteArray) (hm : m ≤ 1000) (hn : ∀ r, r < m → (R r).n ≤ 1048576) (st : Nat → Nat) (S : List Tg) (w0 w : World) (hw0 : Below w0.heap.size w0 w)
 (hA : RA w bR 26 #[.slice a m cap]) (hF : RA w bF 9 #[.string k]) (hN : Rns w0 a m cap R) (hR : RSrt R m) (hst : StOk R m k st) (hS : S.Pairwise tLt) (hM : Rem S R m st 0) :
 SeqR Fence.wide fu Tryz.prog 68 #[.pointer (some ⟨bR, 0, none⟩), .pointer (some ⟨bF, 0, none⟩)] S.length (fun i => #[.agg #[.string (S.getD i (en0, 0)).1.ky, .int .i64 (S.getD i (en0, 0)).1.sq, .bool (S.getD i (en0, 0)).1.gn, .string (S.getD i (en0, 0)).1.tx]]) (RQB w0.heap.size) (KpQ w0.heap.size) w := by
 intro l J Jx W hW hJ hJx hY h0; have A0 := hid (hA.below hW hA.lt); have F0 := hid (hF.below hW hF.lt); have N0 := hid hN; have HJ := hid hJ; have HY := hid hY; have HJ0 := hid h0; have HR := hid hR; have HST := hid hst; have HS := hid hS; have HM := hid hM; have HN := hid hn; have BW := hid (hw0.trans (hW.mono hw0.size)); clear hJ hJx hY h0 hA hF hN hR hst hS hM hn hW; obtain ⟨W1, hW1⟩ : ∃ x, x = W.alloc (.cells #[.func (.func 69) #[] #[], .slice none 0 0] 109) := ⟨_, rfl⟩; have b1 : Hid (Below W.heap.size W W1) := by rw [hW1]; exact (Below.refl _ _).alloc (Nat.le_refl _) _
 have Q1 : Hid (RA W1 W.heap.size 109 #[.func (.func 69) #[] #[], .slice none 0 0]) := by rw [hW1]; exact RA.new _ _ _
 have c1 : W1.cell? ⟨bR, 0, none⟩ = some (.slice a m cap) := (A0.out.below b1.out A0.out.lt).cell 0; rw [hW1] at c1; have M1 : Hid (Mst w0 W1 W.heap.size 0 (fun _ => 0) (fun _ => ⟨0, none, 0, 0, fun _ => en0⟩) R 0 st) := ⟨⟨BW.out.trans (b1.out.mono BW.out.size), ⟨_, Q1.out, OwnPt.nil _ _⟩, BW.out.size, fun i hi => absurd hi (Nat.not_lt_zero _)⟩, fun i hi => absurd hi (Nat.not_lt_zero _), fun k _ hk => absurd hk (Nat.not_lt_zero _), fun i j hi _ _ => absurd hi (Nat.not_lt_zero _), fun i hi => absurd hi (Nat.not_lt_zero _), fun r hr => absurd hr (Nat.not_lt_zero _), fun i j hi _ _ => absurd hi (Nat.not_lt_zero _)⟩; have R1 := hid (RQ.below b1.out); refine callsIn_of_wp Tryz.func68 rfl trivial ?_ rfl; simp only [Tryz.ntmps68, List.size_toArray, List.length_cons, List.length_nil, Nat.reduceAdd, Nat.reduceSub, Array.replicate_succ, Array.replicate_zero, List.push_toArray, List.append_toArray, List.nil_append, List.cons_append]
 gi_wp2_with fail
 rw [← hW1]; clear hW1 c1 A0 Q1 b1
 gi_loopw [13] (fun v wr => ∃ (i n : Nat) (H : Nat → Nat) (cu : Nat → Cu), v = .int .i64 (i : Int) ∧ i ≤ m ∧ n ≤ i ∧ (∀ j, j < n → w0.heap.size ≤ H j) ∧ Mst w0 wr W.heap.size n H cu R i st ∧ RQ W wr) (fun v _ => m - (intOf v).toNat)
 case atStart => exact ⟨0, 0, _, _, rfl, Nat.zero_le _, Nat.le_refl _, fun j hj => absurd hj (Nat.not_lt_zero _), M1.out, R1.out⟩
 case round =>
  obtain ⟨i, n, H, cu, rfl, him, hni, hHb, hMs, hRq⟩ := hrel; obtain ⟨WR, hWR⟩ : ∃ v, v = wr := ⟨_, rfl⟩; subst hWR; have MS := hid hMs; have RR := hid hRq; have HB := hid hHb; clear hMs hRq hHb M1 R1; have OLD := hid (MS.out.qh.old)
  by_cases hlt : i < m
  · have d0 : (i : Int) < (m : Int) := by omega
    have d1 : (0 : Int) ≤ (i : Int) := by omega
    rcases (N0.out.below OLD.out).2.1 with h00 | ⟨g, og, rfl, hgl, hc⟩
    · omega
    have x0 := hc i hlt; have EN := hid (N0.out.2.2 i hlt); obtain ⟨W2, hW2⟩ : ∃ x, x = WR.alloc (.cells #[.slice (R i).ad (R i).n (R i).cap] 25) := ⟨_, rfl⟩; have b2 : Hid (Below WR.heap.size WR W2) := by rw [hW2]; exact (Below.refl _ _).alloc (Nat.le_refl _) _
    have S2 : Hid (RA W2 WR.heap.size 25 #[.slice (R i).ad (R i).n (R i).cap]) := by rw [hW2]; exact RA.new _ _ _
    have O2 := hid (OLD.out.trans (b2.out.mono OLD.out.size)); have s0 := S2.out.cell 0; have f0 := (((RR.out.row F0.out (by decide) (by decide) (by decide)).below b2.out (RR.out.row F0.out (by decide) (by decide) (by decide)).lt)).cell 0; rw [hW2] at s0 f0; have KE := hid (iEF (R i).ad (R i).n (R i).cap (R i).o (HN.out i hlt) k W2 (EN.out.below O2.out) (HR.out i hlt))
    gi_wp2_with fail
    rw [← hW2]; clear hW2 x0 hc s0 f0; refine ⟨trivial, fun h => (by cases h), (callsIn_wide.2 KE.out).mono ?_⟩
    rintro e w3 ⟨⟨at_, a', c', rfl, hat, hen, hlo, hhi⟩, hb3⟩
    obtain rfl : at_ = st i := HST.out.uniq hlt hat hlo hhi; have EN3 := hid (hen w0 EN.out); have b3 := hid (b2.out.trans (hb3.mono b2.out.size)); have M3 := hid (MS.out.below b3.out); have R3 := hid (RR.out.trans (RQ.below b3.out)); clear hen hlo hhi hb3 KE
    by_cases hz : (R i).n - st i = 0
    · have d2 : ¬ (0 : Int) < (((R i).n - st i : Nat) : Int) := by omega
      have P3 := hid (M3.out.pass (by omega))
      gi_wp2
      go_roundw
      case rel => exact ⟨i + 1, n, H, cu, by go_num, by omega, by omega, HB.out, P3.out, R3.out⟩
      case measure => simp [intOf]; omega
    · have d2 : (0 : Int) < (((R i).n - st i : Nat) : Int) := by omega
      obtain ⟨W4, hW4⟩ : ∃ x, x = w3.alloc (.cells #[.int .i64 (i : Int), .slice a' ((R i).n - st i) c'] 114) := ⟨_, rfl⟩; have b4 : Hid (Below w3.heap.size w3 W4) := by rw [hW4]; exact (Below.refl _ _).alloc (Nat.le_refl _) _
      have C4 : Hid (RA W4 w3.heap.size 114 #[.int .i64 (i : Int), .slice a' ((R i).n - st i) c']) := by rw [hW4]; exact RA.new _ _ _
      have M4 := hid (M3.out.below b4.out); have R4 := hid (R3.out.trans (RQ.below b4.out)); have FR : Hid (∀ j, j < n → H j ≠ w3.heap.size) := fun j hj e => by have := (M3.out.qh.cus j hj).1.lt; omega
      obtain ⟨c, hc⟩ : ∃ c : Cu, c = ⟨i, a', (R i).n - st i, c', fun t => (R i).o (st i + t)⟩ := ⟨_, rfl⟩; have EQ : Hid (∀ j, j < n → cuU cu w3.heap.size c (H j) = cu (H j)) := fun j hj => cuU_o _ _ (FR.out j hj); have KP := hid (iHPush w0 W.heap.size n w3.heap.size (by omega) H (cuU cu w3.heap.size c) W4 (M4.out.qh.cg EQ.out) (fun j hj => by rw [EQ.out j hj]; exact M4.out.pz j hj) (heap_cu M4.out.hp EQ.out) (by rw [cuU_b, hc]; exact ⟨C4.out, EN3.out, by show 0 < (R i).n - st i; omega⟩))
      gi_wp2_with fail
      rw [← hW4]; clear hW4; refine ⟨trivial, fun h => (by cases h), (callsIn_wide.2 KP.out).mono ?_⟩
      rintro e w5 ⟨⟨v5, rfl⟩, H', hQ5, hH5, hP5, hR5⟩
      have M5 := hid (M4.out.push FR.out (by rw [hc]; show 0 < (R i).n - st i; omega) (by rw [hc]) (by rw [hc]) (by rw [hc]; intro t _; rfl) hQ5 hH5 hP5); have R5 := hid (R4.out.trans hR5)
      have HB5 : Hid (∀ j, j < n + 1 → w0.heap.size ≤ H' j) := fun j hj => by
       obtain ⟨t, ht, e⟩ := (hP5.mem (H' j)).1 ⟨j, hj, rfl⟩; rw [← e]; unfold snocH
       by_cases z : t < n
       · rw [if_pos z]; exact HB.out t z
       · rw [if_neg z]; exact M3.out.qh.old.size
      clear hQ5 hH5 hP5 hR5 KP
      gi_wp2
      go_roundw
      case rel => exact ⟨i + 1, n + 1, H', _, by go_num, by omega, by omega, HB5.out, M5.out, R5.out⟩
      case measure => simp [intOf]; omega
  · have d0 : ¬ (i : Int) < (m : Int) := by omega
    obtain rfl : i = m := by omega
    have I0 : Hid (IvM w0 W.heap.size R i S J 0 WR) := ⟨Nat.zero_le _, HJ.out 0 W WR HJ0.out ⟨RR.out, fun j hj => (MS.out.qh.old.block j hj).trans (BW.out.block j hj).symm⟩, n, H, cu, st, hni, HB.out, MS.out, HM.out⟩; clear MS RR HB OLD HJ0 HM; obtain ⟨m, hm2⟩ : ∃ m, m = i := ⟨_, rfl⟩; subst hm2
    gi_wp2_with fail
    gi_loopw [] (fun wr => ∃ k, IvM w0 W.heap.size R m S J k wr) (fun wr => leastOf (fun x => ∃ k, IvM w0 W.heap.size R m S J k wr ∧ x = S.length - k))
    case atStart => exact ⟨0, I0.out⟩
    case round =>
     obtain ⟨kx, hIx⟩ := hrel; obtain ⟨⟨kk, hI, he⟩, _⟩ := leastOf_spec (p := fun x => ∃ k, IvM w0 W.heap.size R m S J k wr ∧ x = S.length - k) ⟨_, kx, hIx, rfl⟩; have LE := hid he; clear hIx he I0; obtain ⟨hk, hj, n, H, cu, pos, hnm, hHb, hMs, hRem⟩ := hI; obtain ⟨WQ, hWQ⟩ : ∃ v, v = wr := ⟨_, rfl⟩; subst hWQ; have JK := hid hj; have HB2 := hid hHb; have MS := hid hMs; have RM := hid hRem; clear hj hHb hMs hRem; obtain ⟨v, hr, ho⟩ := MS.out.qh.row; obtain ⟨av, cv, hv⟩ := ho.slice; rw [show ((List.range n).map H).length = n by simp] at hv; subst hv; have KN := hid (iLenA W.heap.size n cv av WQ _ hr); clear hr ho
     by_cases n0 : n = 0
     · have d5 : ¬ (0 : Int) < (n : Int) := by omega
       have KE : Hid (kk = S.length) := by
        show kk = S.length
        have hd : S.drop kk = [] := by
         cases e : S.drop kk with
         | nil => rfl
         | cons x r =>
          obtain ⟨r, hr, p, h1, h2, _⟩ := (RM.out x).1 (by rw [e]; simp); obtain ⟨i, hi, _⟩ := MS.out.ex r hr (by omega)
          omega
        have := congrArg List.length hd
        simp at this
        omega
       clear n0
       gi_wp2_with fail
       refine ⟨trivial, fun h => (by cases h), (callsIn_wide.2 KN.out).mono ?_⟩
       rintro e w2 ⟨rfl, rfl⟩
       gi_wp2
       go_end0
       exact ⟨⟨_, rfl⟩, .inl (by rw [← KE.out]; exact JK.out)⟩
     · have n0 : 0 < n := by omega
       have d5 : (0 : Int) < (n : Int) := by omega
       have SK := hid (MS.out.least HR.out HS.out RM.out n0); have hkl : kk < S.length := (List.getElem?_eq_some_iff.1 SK.out).1; obtain ⟨gI, C, hQS, _⟩ := MS.out.qh.qs2 n0; obtain ⟨f, hf, hh⟩ := hQS.itm; have i0 := hf.at_ 0 (by have := hQS.le; omega); rw [hh 0 n0] at i0; have q1 := hQS.row.cell 1; have r1 := (hQS.cus 0 n0).1.cell 1; have EN := hid (hQS.cus 0 n0).2; have OLD := hid hQS.old; have KN := hid (iLenA W.heap.size n C _ WQ _ hQS.row); have cur0 := MS.out.cur 0 n0; have pz0 := MS.out.pz 0 n0; obtain ⟨C0, hC0⟩ : ∃ c, c = cu (H 0) := ⟨_, rfl⟩; rw [← hC0] at r1 EN cur0 pz0 SK; obtain ⟨no, ad, nn, cc, oo⟩ := C0; dsimp only at r1 EN cur0 pz0 SK; have HC0 := hid hC0
       rcases EN.out.2 with h00 | ⟨g, og, rfl, hgl, hcc⟩
       · omega
       obtain ⟨y0, y1, y2, y3⟩ := hcc 0 pz0; simp only [Nat.zero_mul, Nat.add_zero] at y0 y1 y2 y3; have z0 := (OLD.out.cell (p := ⟨g, og, none⟩) hgl).trans y0; have z1 := (OLD.out.cell (p := ⟨g, og + 1, none⟩) hgl).trans y1; have z2 := (OLD.out.cell (p := ⟨g, og + 2, none⟩) hgl).trans y2; have z3 := (OLD.out.cell (p := ⟨g, og + 3, none⟩) hgl).trans y3; have oo0 : oo 0 = (R no).o (pos no) := by have := cur0.2.2 0 pz0; rwa [Nat.add_zero] at this
       have hY2 := HY.out kk WQ hkl JK.out; have eS : S.getD kk (en0, 0) = tgR R no (pos no) := by rw [List.getD_eq_getElem?_getD, SK.out]; rfl
       rw [eS, show (tgR R no (pos no)).1 = oo 0 from oo0.symm] at hY2; have RN := hid (RM.out.next HS.out SK.out cur0.1 (by have := cur0.2.1; omega)); have eno : (cu (H 0)).no = no := by rw [← HC0.out]
       rw [← eno] at RN; clear eno; have d6 : (0 : Int) < (nn : Int) := by omega
       obtain ⟨fn, tmps, assign, body, hy, hR⟩ := hY2; clear hcc y0 y1 y2 y3 oo0 eS hQS hf hh hC0 cur0
       gi_wp2_with fail
       refine ⟨trivial, fun h => (by cases h), (callsIn_wide.2 KN.out).mono ?_⟩
       rintro e w2 ⟨rfl, rfl⟩
       gi_wp2
       refine ⟨fun h => (by cases h), hR.mono ?_⟩
       rintro e W3 (⟨rfl, hJ3, hk3⟩ | ⟨rfl, hJx3⟩)
       · have M3 := hid (MS.out.kp hk3)
         have J3 := hid hJ3; obtain ⟨gI3, C3, hQS3, hCM3⟩ := M3.out.qh.qs2 n0; have QS3 := hid hQS3; have CM := hid hCM3; have MI := hid M3.out.inj; have r3 : W3.cell? ⟨H 0, 1, none⟩ = some (.slice (some ⟨g, og, none⟩) nn cc) := by have := (hQS3.cus 0 n0).1.cell 1; rw [← HC0.out] at this; exact this
         have f3 := (hQS3.cus 0 n0).1.free 1; clear hJ3 hk3 hQS3 hCM3 z0 z1 z2 z3 r1 q1 i0 KN; have d7 : (1 : Int) ≤ (nn : Int) := by omega
         by_cases hc1 : cc = 1
         · subst hc1
           have E4 : Ens w0 (some ⟨g, og, none⟩) (nn - 1) (0) (fun t => oo (1 + t)) := ⟨by have := EN.out.1; omega, .inl (by have := EN.out.1; omega)⟩; have ADV := hid (QS3.out.adv MI.out n0 (HB2.out 0 n0) E4); have DN := hid (adv_dn (c := ⟨(cu (H 0)).no, some ⟨g, og, none⟩, nn - 1, 0, fun t => oo (1 + t)⟩) M3.out.hp M3.out.inj n0)
           have PZ0 : Hid (∀ j, 0 < j → j < n → 0 < ((cuU cu (H 0) ⟨(cu (H 0)).no, some ⟨g, og, none⟩, nn - 1, 0, fun t => oo (1 + t)⟩) (H j)).n) := fun j j0 hj => by
            rw [cuU_o _ _ (fun e => by have := MI.out j 0 hj n0 e; omega)]; exact M3.out.pz j hj
           obtain ⟨W4, hW4⟩ : ∃ x, x = W3.setCell ⟨H 0, 1, none⟩ (.slice (some ⟨g, og, none⟩) (nn - 1) (0)) := ⟨_, rfl⟩; have RQ4 : Hid (RQ W3 W4) := by rw [hW4]; exact RQ.grown (grown_setCellQ _ _ _ _) (QS3.out.cus 0 n0).1 (.inr (.inr rfl))
           have l4 : W4.cell? ⟨H 0, 1, none⟩ = some (.slice (some ⟨g, og, none⟩) (nn - 1) (0)) := by rw [hW4]; exact ((QS3.out.cus 0 n0).1.set 1 _).cell 1
           rw [← hW4] at ADV; rw [hW4] at l4
           by_cases hz : nn - 1 = 0
           · have d4 : ¬ (0 : Int) < ((nn - 1 : Nat) : Int) := by omega
             have KP := hid (iHPop w0 W.heap.size gI3 C3 n n0 (by omega) H (cuU cu (H 0) ⟨(cu (H 0)).no, some ⟨g, og, none⟩, nn - 1, 0, fun t => oo (1 + t)⟩) W4 ADV.out PZ0.out DN.out); have HZ := hid hz; clear hz
             gi_wp2_with fail
             rw [← hW4]; clear hW4 l4; refine ⟨trivial, fun h => (by cases h), (callsIn_wide.2 KP.out).mono ?_⟩
             rintro e w5 ⟨⟨v5, rfl⟩, H', hQ5, hH5, hm5, hi5, hR5⟩
             have M5 := hid (M3.out.pop (c := ⟨(cu (H 0)).no, some ⟨g, og, none⟩, nn - 1, 0, fun t => oo (1 + t)⟩) n0 (by rw [← HC0.out]; show nn = 1; have := HZ.out; omega) (hQ5.qh CM.out) hH5 hm5 (hi5 MI.out)); have J5 := hid (HJ.out (kk + 1) W3 w5 J3.out ⟨RQ4.out.trans hR5, fun j hj => (M5.out.qh.old.block j hj).trans (M3.out.qh.old.block j hj).symm⟩)
             have B5 : Hid (∀ j, j < n - 1 → w0.heap.size ≤ H' j) := fun j hj => by
              obtain ⟨t, _, ht, e⟩ := (hm5 (H' j)).1 ⟨j, hj, rfl⟩; rw [← e]; exact HB2.out t ht
             have I5 : Hid (IvM w0 W.heap.size R m S J (kk + 1) w5) := ⟨by omega, J5.out, n - 1, H', _, _, by omega, B5.out, M5.out, RN.out⟩; clear hQ5 hH5 hm5 hi5 hR5 KP
             gi_wp2
             go_roundw
             case rel => exact ⟨kk + 1, I5.out⟩
             case measure =>
              rw [LE.out]; have := (leastOf_spec (p := fun x => ∃ k, IvM w0 W.heap.size R m S J k w5 ∧ x = S.length - k) ⟨_, kk + 1, I5.out, rfl⟩).2 (S.length - (kk + 1)) ⟨kk + 1, I5.out, rfl⟩
              omega
           · have d4 : (0 : Int) < ((nn - 1 : Nat) : Int) := by omega
             have KF := hid (iHFix w0 W.heap.size gI3 C3 n (by omega) n0 H (cuU cu (H 0) ⟨(cu (H 0)).no, some ⟨g, og, none⟩, nn - 1, 0, fun t => oo (1 + t)⟩) W4 ADV.out (fun j hj => by
              by_cases z : j = 0
              · rw [z, cuU_b]; show 0 < nn - 1; omega
              · exact PZ0.out j (by omega) hj) (Heap.dn0 _ DN.out))
             have HZ := hid hz; clear hz
             gi_wp2_with fail
             rw [← hW4]; clear hW4 l4; refine ⟨trivial, fun h => (by cases h), (callsIn_wide.2 KF.out).mono ?_⟩
             rintro e w5 ⟨⟨v5, rfl⟩, H', hQ5, hH5, hP5, hR5⟩
             have M5 := hid (M3.out.fix (c := ⟨(cu (H 0)).no, some ⟨g, og, none⟩, nn - 1, 0, fun t => oo (1 + t)⟩) n0 (by show 0 < nn - 1; have := HZ.out; omega) rfl (show nn - 1 = (cu (H 0)).n - 1 by rw [← HC0.out]) (fun t _ => show oo (1 + t) = (cu (H 0)).o (1 + t) by rw [← HC0.out]) (hQ5.qh CM.out) hH5 hP5); have J5 := hid (HJ.out (kk + 1) W3 w5 J3.out ⟨RQ4.out.trans hR5, fun j hj => (M5.out.qh.old.block j hj).trans (M3.out.qh.old.block j hj).symm⟩)
             have B5 : Hid (∀ j, j < n → w0.heap.size ≤ H' j) := fun j hj => by
              obtain ⟨t, ht, e⟩ := (hP5.mem (H' j)).1 ⟨j, hj, rfl⟩; rw [← e]; exact HB2.out t ht
             have I5 : Hid (IvM w0 W.heap.size R m S J (kk + 1) w5) := ⟨by omega, J5.out, n, H', _, _, by omega, B5.out, M5.out, RN.out⟩; clear hQ5 hH5 hP5 hR5 KF
             gi_wp2
             go_roundw
             case rel => exact ⟨kk + 1, I5.out⟩
             case measure =>
              rw [LE.out]; have := (leastOf_spec (p := fun x => ∃ k, IvM w0 W.heap.size R m S J k w5 ∧ x = S.length - k) ⟨_, kk + 1, I5.out, rfl⟩).2 (S.length - (kk + 1)) ⟨kk + 1, I5.out, rfl⟩
              omega
         · have hc2 : 1 < cc := by have := EN.out.1; omega
           have E4 : Ens w0 (some ⟨g, og + 4, none⟩) (nn - 1) (cc - 1) (fun t => oo (1 + t)) := by have := EN.out.dropE (d := 1) (by omega); simpa [Addr.add] using this
           have ADV := hid (QS3.out.adv MI.out n0 (HB2.out 0 n0) E4); have DN := hid (adv_dn (c := ⟨(cu (H 0)).no, some ⟨g, og + 4, none⟩, nn - 1, cc - 1, fun t => oo (1 + t)⟩) M3.out.hp M3.out.inj n0)
           have PZ0 : Hid (∀ j, 0 < j → j < n → 0 < ((cuU cu (H 0) ⟨(cu (H 0)).no, some ⟨g, og + 4, none⟩, nn - 1, cc - 1, fun t => oo (1 + t)⟩) (H j)).n) := fun j j0 hj => by
            rw [cuU_o _ _ (fun e => by have := MI.out j 0 hj n0 e; omega)]; exact M3.out.pz j hj
           obtain ⟨W4, hW4⟩ : ∃ x, x = W3.setCell ⟨H 0, 1, none⟩ (.slice (some ⟨g, og + 4, none⟩) (nn - 1) (cc - 1)) := ⟨_, rfl⟩; have RQ4 : Hid (RQ W3 W4) := by rw [hW4]; exact RQ.grown (grown_setCellQ _ _ _ _) (QS3.out.cus 0 n0).1 (.inr (.inr rfl))
           have l4 : W4.cell? ⟨H 0, 1, none⟩ = some (.slice (some ⟨g, og + 4, none⟩) (nn - 1) (cc - 1)) := by rw [hW4]; exact ((QS3.out.cus 0 n0).1.set 1 _).cell 1
           rw [← hW4] at ADV; rw [hW4] at l4
           by_cases hz : nn - 1 = 0
           · have d4 : ¬ (0 : Int) < ((nn - 1 : Nat) : Int) := by omega
             have KP := hid (iHPop w0 W.heap.size gI3 C3 n n0 (by omega) H (cuU cu (H 0) ⟨(cu (H 0)).no, some ⟨g, og + 4, none⟩, nn - 1, cc - 1, fun t => oo (1 + t)⟩) W4 ADV.out PZ0.out DN.out); have HZ := hid hz; clear hz
             gi_wp2_with fail
             rw [← hW4]; clear hW4 l4; refine ⟨trivial, fun h => (by cases h), (callsIn_wide.2 KP.out).mono ?_⟩
             rintro e w5 ⟨⟨v5, rfl⟩, H', hQ5, hH5, hm5, hi5, hR5⟩
             have M5 := hid (M3.out.pop (c := ⟨(cu (H 0)).no, some ⟨g, og + 4, none⟩, nn - 1, cc - 1, fun t => oo (1 + t)⟩) n0 (by rw [← HC0.out]; show nn = 1; have := HZ.out; omega) (hQ5.qh CM.out) hH5 hm5 (hi5 MI.out)); have J5 := hid (HJ.out (kk + 1) W3 w5 J3.out ⟨RQ4.out.trans hR5, fun j hj => (M5.out.qh.old.block j hj).trans (M3.out.qh.old.block j hj).symm⟩)
             have B5 : Hid (∀ j, j < n - 1 → w0.heap.size ≤ H' j) := fun j hj => by
              obtain ⟨t, _, ht, e⟩ := (hm5 (H' j)).1 ⟨j, hj, rfl⟩; rw [← e]; exact HB2.out t ht
             have I5 : Hid (IvM w0 W.heap.size R m S J (kk + 1) w5) := ⟨by omega, J5.out, n - 1, H', _, _, by omega, B5.out, M5.out, RN.out⟩; clear hQ5 hH5 hm5 hi5 hR5 KP
             gi_wp2
             go_roundw
             case rel => exact ⟨kk + 1, I5.out⟩
             case measure =>
              rw [LE.out]; have := (leastOf_spec (p := fun x => ∃ k, IvM w0 W.heap.size R m S J k w5 ∧ x = S.length - k) ⟨_, kk + 1, I5.out, rfl⟩).2 (S.length - (kk + 1)) ⟨kk + 1, I5.out, rfl⟩
              omega
           · have d4 : (0 : Int) < ((nn - 1 : Nat) : Int) := by omega
             have KF := hid (iHFix w0 W.heap.size gI3 C3 n (by omega) n0 H (cuU cu (H 0) ⟨(cu (H 0)).no, some ⟨g, og + 4, none⟩, nn - 1, cc - 1, fun t => oo (1 + t)⟩) W4 ADV.out (fun j hj => by
              by_cases z : j = 0
              · rw [z, cuU_b]; show 0 < nn - 1; omega
              · exact PZ0.out j (by omega) hj) (Heap.dn0 _ DN.out))
             have HZ := hid hz; clear hz
             gi_wp2_with fail
             rw [← hW4]; clear hW4 l4; refine ⟨trivial, fun h => (by cases h), (callsIn_wide.2 KF.out).mono ?_⟩
             rintro e w5 ⟨⟨v5, rfl⟩, H', hQ5, hH5, hP5, hR5⟩
             have M5 := hid (M3.out.fix (c := ⟨(cu (H 0)).no, some ⟨g, og + 4, none⟩, nn - 1, cc - 1, fun t => oo (1 + t)⟩) n0 (by show 0 < nn - 1; have := HZ.out; omega) rfl (show nn - 1 = (cu (H 0)).n - 1 by rw [← HC0.out]) (fun t _ => show oo (1 + t) = (cu (H 0)).o (1 + t) by rw [← HC0.out]) (hQ5.qh CM.out) hH5 hP5); have J5 := hid (HJ.out (kk + 1) W3 w5 J3.out ⟨RQ4.out.trans hR5, fun j hj => (M5.out.qh.old.block j hj).trans (M3.out.qh.old.block j hj).symm⟩)
             have B5 : Hid (∀ j, j < n → w0.heap.size ≤ H' j) := fun j hj => by
              obtain ⟨t, ht, e⟩ := (hP5.mem (H' j)).1 ⟨j, hj, rfl⟩; rw [← e]; exact HB2.out t ht
             have I5 : Hid (IvM w0 W.heap.size R m S J (kk + 1) w5) := ⟨by omega, J5.out, n, H', _, _, by omega, B5.out, M5.out, RN.out⟩; clear hQ5 hH5 hP5 hR5 KF
             gi_wp2
             go_roundw
             case rel => exact ⟨kk + 1, I5.out⟩
             case measure =>
              rw [LE.out]; have := (leastOf_spec (p := fun x => ∃ k, IvM w0 W.heap.size R m S J k w5 ∧ x = S.length - k) ⟨_, kk + 1, I5.out, rfl⟩).2 (S.length - (kk + 1)) ⟨kk + 1, I5.out, rfl⟩
              omega
       · gi_wp2
         refine bodyPost_ret (results_none rfl _ _ _) rfl ?_; exact ⟨⟨_, rfl⟩, .inr ⟨kk + 1, by omega, hJx3⟩⟩
end Go.Proofs.YtcbmgpdpjagaoaaGreat
