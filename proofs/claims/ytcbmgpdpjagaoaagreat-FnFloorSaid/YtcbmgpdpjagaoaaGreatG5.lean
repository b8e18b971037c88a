import Derived.Test.YtcbmgpdpjagaoaaGreatQ2
import Derived.Test.YtcbmgpdpjagaoaaGreatB1
import Derived.Test.YtcbmgpdpjagaoaaGreatI1
import Derived.Test.YtcbmgpdpjagaoaaGreatG4
import Derived.Test.YtcbmgpdpjagaoaaGreatEnO
import Derived.Test.YtcbmgpdpjagaoaaGreatI2
namespace Go.Proofs.YtcbmgpdpjagaoaaGreat
open Go.RowKit
set_option linter.unusedVariables false
def tgR (R : Nat → Rn) (r p : Nat) : Tg := ((R r).o p, cntR R r + p)
def RSrt (R : Nat → Rn) (m : Nat) : Prop := ∀ r, r < m → ∀ i j, i < j → j < (R r).n → enLt ((R r).o i) ((R r).o j)
def StOk (R : Nat → Rn) (m : Nat) (k : ByteArray) (st : Nat → Nat) : Prop := ∀ r, r < m → st r ≤ (R r).n ∧ (∀ i, i < st r → enLt ((R r).o i) (plE k 9223372036854775807)) ∧ ∀ i, st r ≤ i → i < (R r).n → ¬ enLt ((R r).o i) (plE k 9223372036854775807)
theorem StOk.uniq {R : Nat → Rn} {m : Nat} {k : ByteArray} {st : Nat → Nat} (h : StOk R m k st) {r a : Nat} (hr : r < m) (ha : a ≤ (R r).n) (h1 : ∀ i, i < a → enLt ((R r).o i) (plE k 9223372036854775807)) (h2 : ∀ i, a ≤ i → i < (R r).n → ¬ enLt ((R r).o i) (plE k 9223372036854775807)) : a = st r := by
 obtain ⟨g0, g1, g2⟩ := h r hr
 rcases Nat.lt_trichotomy a (st r) with q | q | q
 · exact absurd (g1 a q) (h2 a (Nat.le_refl _) (by omega))
 · exact q
 · exact absurd (h1 (st r) q) (g2 (st r) (Nat.le_refl _) (by omega))
structure Mst (W0 w : World) (q n : Nat) (H : Nat → Nat) (cu : Nat → Cu) (R : Nat → Rn) (mB : Nat) (pos : Nat → Nat) : Prop where
 qh : QH W0 w q n H cu
 pz : ∀ i, i < n → 0 < (cu (H i)).n
 hp : Heap (nbC cu) H n
 inj : Inj H n
 cur : ∀ i, i < n → (cu (H i)).no < mB ∧ (cu (H i)).n = (R (cu (H i)).no).n - pos (cu (H i)).no ∧ ∀ t, t < (cu (H i)).n → (cu (H i)).o t = (R (cu (H i)).no).o (pos (cu (H i)).no + t)
 ex : ∀ r, r < mB → pos r < (R r).n → ∃ i, i < n ∧ (cu (H i)).no = r
 un : ∀ i j, i < n → j < n → (cu (H i)).no = (cu (H j)).no → i = j
theorem Mst.below {W0 w w' : World} {q n : Nat} {H : Nat → Nat} {cu : Nat → Cu} {R : Nat → Rn} {mB : Nat} {pos : Nat → Nat} (h : Mst W0 w q n H cu R mB pos) (hb : Below w.heap.size w w') : Mst W0 w' q n H cu R mB pos := ⟨h.qh.below hb, h.pz, h.hp, h.inj, h.cur, h.ex, h.un⟩
theorem cntR_lt {R : Nat → Rn} {r r' : Nat} (h : r < r') : cntR R r + (R r).n ≤ cntR R r' := cntR_mono R (show r + 1 ≤ r' by omega)
def Rem (S : List Tg) (R : Nat → Rn) (m : Nat) (pos : Nat → Nat) (k : Nat) : Prop := ∀ x, x ∈ S.drop k ↔ ∃ r, r < m ∧ ∃ p, pos r ≤ p ∧ p < (R r).n ∧ x = tgR R r p
theorem Mst.least {W0 w : World} {q n : Nat} {H : Nat → Nat} {cu : Nat → Cu} {R : Nat → Rn} {m : Nat} {pos : Nat → Nat} (h : Mst W0 w q n H cu R m pos) (hR : RSrt R m) {S : List Tg} {k : Nat} (hS : S.Pairwise tLt) (hm : Rem S R m pos k) (n0 : 0 < n) :
 S[k]? = some (tgR R (cu (H 0)).no (pos (cu (H 0)).no)) := by
 obtain ⟨c1, c2, c3⟩ := h.cur 0 n0; have p0 := h.pz 0 n0; have e0 : (cu (H 0)).o 0 = (R (cu (H 0)).no).o (pos (cu (H 0)).no) := by have := c3 0 p0; rwa [Nat.add_zero] at this
 refine least_next hS ((hm _).2 ⟨_, c1, _, Nat.le_refl _, by omega, rfl⟩) fun x hx => ?_; obtain ⟨r, hr, p, hp1, hp2, rfl⟩ := (hm x).1 hx; have inrun : ∀ r, r < m → ∀ p, pos r < p → p < (R r).n → tLt (tgR R r (pos r)) (tgR R r p) := fun r hr p h1 h2 => .inl (hR r hr _ _ h1 h2)
 by_cases e : r = (cu (H 0)).no
 · subst e
   by_cases e2 : p = pos (cu (H 0)).no
   · exact .inl (by rw [e2])
   · exact .inr (inrun _ hr p (by omega) hp2)
 · obtain ⟨i, hi, hno⟩ := h.ex r hr (by omega)
   obtain ⟨d1, d2, d3⟩ := h.cur i hi; have pi := h.pz i hi; rw [hno] at d2 d3; have ei : (cu (H i)).o 0 = (R r).o (pos r) := by have := d3 0 pi; rwa [Nat.add_zero] at this
   have nb := heap_min (nbC cu) (nbC_ord cu) h.hp i hi
   have lt : cuCmp (cu (H 0)) (cu (H i)) < 0 := by
    unfold nbC at nb; have s := cuCmp_swap (cu (H 0)) (cu (H i))
    rcases Int.lt_trichotomy (cuCmp (cu (H 0)) (cu (H i))) 0 with q | q | q
    · exact q
    · exfalso
      unfold cuCmp orI at q
      by_cases z : enCmp ((cu (H 0)).o 0) ((cu (H i)).o 0) = 0
      · rw [if_neg (fun h => h z)] at q
        unfold cmpI at q; rw [hno] at q
        split at q
        · omega
        · split at q
          · omega
          · exact e (by omega)
      · rw [if_pos z] at q; exact z q
    · omega
   have tl : tLt (tgR R (cu (H 0)).no (pos (cu (H 0)).no)) (tgR R r (pos r)) := by
    rw [cuCmp_lt, e0, ei, hno] at lt
    rcases lt with lt | ⟨z, lt⟩
    · exact .inl lt
    · refine .inr ⟨fun hl => ?_, ?_⟩
      · have := (enCmp_lt _ _).2 hl
        have s := enCmp_swap ((R (cu (H 0)).no).o (pos (cu (H 0)).no)) ((R r).o (pos r)); have : enCmp ((R r).o (pos r)) ((R (cu (H 0)).no).o (pos (cu (H 0)).no)) < 0 := this
        omega
      · have := cntR_lt (R := R) lt
        show cntR R (cu (H 0)).no + pos (cu (H 0)).no < cntR R r + pos r
        omega
   by_cases e2 : p = pos r
   · exact .inr (by rw [e2]; exact tl)
   · exact .inr (tLt_trans tl (inrun r hr p (by omega) hp2))
def posU (pos : Nat → Nat) (r : Nat) (x : Nat) : Nat := if x = r then pos r + 1 else pos x
theorem Rem.next {S : List Tg} {R : Nat → Rn} {m : Nat} {pos : Nat → Nat} {k r : Nat} (h : Rem S R m pos k) (hS : S.Pairwise tLt) (hk : S[k]? = some (tgR R r (pos r))) (hr : r < m) (hin : pos r < (R r).n) : Rem S R m (posU pos r) (k + 1) := fun x => by
 rw [drop_next hS hk, h x]
 constructor
 · rintro ⟨⟨r', hr', p, h1, h2, rfl⟩, hn⟩
   refine ⟨r', hr', p, ?_, h2, rfl⟩; unfold posU
   by_cases e : r' = r
   · rw [if_pos e]
     subst e; have : p ≠ pos r' := fun e => hn (by rw [e])
     omega
   · rw [if_neg e]; exact h1
 · rintro ⟨r', hr', p, h1, h2, rfl⟩
   unfold posU at h1
   by_cases e : r' = r
   · rw [if_pos e] at h1
     subst e; refine ⟨⟨r', hr', p, by omega, h2, rfl⟩, fun q => ?_⟩; have : cntR R r' + p = cntR R r' + pos r' := congrArg Prod.snd q
     omega
   · rw [if_neg e] at h1
     refine ⟨⟨r', hr', p, h1, h2, rfl⟩, fun q => ?_⟩; have q2 : cntR R r' + p = cntR R r + pos r := congrArg Prod.snd q
     rcases Nat.lt_or_gt_of_ne e with z | z
     · have := cntR_lt (R := R) z; omega
     · have := cntR_lt (R := R) z; omega
def cuU (cu : Nat → Cu) (b : Nat) (c : Cu) (x : Nat) : Cu := if x = b then c else cu x
theorem cuU_b (cu : Nat → Cu) (b : Nat) (c : Cu) : cuU cu b c b = c := if_pos rfl
theorem cuU_o (cu : Nat → Cu) {b x : Nat} (c : Cu) (h : x ≠ b) : cuU cu b c x = cu x := if_neg h
theorem QH.cg {W0 w : World} {q n : Nat} {H : Nat → Nat} {cu cu' : Nat → Cu} (h : QH W0 w q n H cu) (e : ∀ i, i < n → cu' (H i) = cu (H i)) : QH W0 w q n H cu' := ⟨h.old, h.row, h.bq, fun i hi => by rw [e i hi]; exact h.cus i hi⟩
theorem heap_cu {H : Nat → Nat} {n : Nat} {cu cu' : Nat → Cu} (h : Heap (nbC cu) H n) (e : ∀ i, i < n → cu' (H i) = cu (H i)) : Heap (nbC cu') H n := fun k k0 kn => by
 have := h k k0 kn; unfold nbC at this ⊢; rw [e k kn, e _ (by omega)]; exact this
theorem inj_snoc {H : Nat → Nat} {n b : Nat} (h : Inj H n) (hb : ∀ j, j < n → H j ≠ b) : Inj (snocH H n b) (n + 1) := fun i j hi hj e => by
 unfold snocH at e
 by_cases a : i < n
 · rw [if_pos a] at e
   by_cases c : j < n
   · rw [if_pos c] at e; exact h i j a c e
   · rw [if_neg c] at e; exact absurd e (hb i a)
 · rw [if_neg a] at e
   by_cases c : j < n
   · rw [if_pos c] at e; exact absurd e.symm (hb j c)
   · omega
theorem Mst.push {W0 w w' : World} {q n : Nat} {H H' : Nat → Nat} {cu : Nat → Cu} {R : Nat → Rn} {i b : Nat} {pos : Nat → Nat} {c : Cu} (h : Mst W0 w q n H cu R i pos) (hb : ∀ j, j < n → H j ≠ b) (c0 : 0 < c.n) (c1 : c.no = i) (c2 : c.n = (R i).n - pos i) (c3 : ∀ t, t < c.n → c.o t = (R i).o (pos i + t))
 (hq : QH W0 w' q (n + 1) H' (cuU cu b c)) (hh : Heap (nbC (cuU cu b c)) H' (n + 1)) (hp : Pm (snocH H n b) H' (n + 1)) : Mst W0 w' q (n + 1) H' (cuU cu b c) R (i + 1) pos := by
 have inj := inj_snoc h.inj hb; have inj' := hp.inj inj
 have sh : ∀ t, t < n + 1 → ∃ j, j < n + 1 ∧ snocH H n b j = H' t := fun t ht => by
  obtain ⟨j, hj, e⟩ := (hp.mem (H' t)).1 ⟨t, ht, rfl⟩; exact ⟨j, hj, e⟩
 have old : ∀ j, j < n → cuU cu b c (snocH H n b j) = cu (H j) := fun j hj => by
  unfold snocH; rw [if_pos hj, cuU_o _ _ (hb j hj)]
 have new : cuU cu b c (snocH H n b n) = c := by
  unfold snocH; rw [if_neg (Nat.lt_irrefl _), cuU_b]
 refine ⟨hq, fun t ht => ?_, hh, inj', fun t ht => ?_, fun r hr hlt => ?_, fun t u ht hu e => ?_⟩
 · obtain ⟨j, hj, e⟩ := sh t ht
   rw [← e]
   by_cases z : j < n
   · rw [old j z]; exact h.pz j z
   · rw [show j = n by omega, new]; exact c0
 · obtain ⟨j, hj, e⟩ := sh t ht
   rw [← e]
   by_cases z : j < n
   · rw [old j z]
     obtain ⟨g1, g2, g3⟩ := h.cur j z; exact ⟨by omega, g2, g3⟩
   · rw [show j = n by omega, new, c1]; exact ⟨by omega, c2, c3⟩
 · by_cases z : r = i
   · subst z
     obtain ⟨t, ht, e⟩ := (hp.mem b).2 ⟨n, by omega, by unfold snocH; rw [if_neg (Nat.lt_irrefl _)]⟩; exact ⟨t, ht, by rw [e, cuU_b, c1]⟩
   · obtain ⟨j, hj, e⟩ := h.ex r (by omega) hlt
     obtain ⟨t, ht, e2⟩ := (hp.mem (H j)).2 ⟨j, by omega, by unfold snocH; rw [if_pos hj]⟩; exact ⟨t, ht, by rw [e2, cuU_o _ _ (hb j hj)]; exact e⟩
 · obtain ⟨j, hj, e1⟩ := sh t ht
   obtain ⟨l, hl, e2⟩ := sh u hu; rw [← e1, ← e2] at e
   have : j = l := by
    by_cases z : j < n
    · rw [old j z] at e
      by_cases y : l < n
      · rw [old l y] at e; exact h.un j l z y e
      · rw [show l = n by omega, new, c1] at e
        have := (h.cur j z).1
        omega
    · rw [show j = n by omega, new, c1] at e
      by_cases y : l < n
      · rw [old l y] at e
        have := (h.cur l y).1
        omega
      · omega
   subst this; exact inj' t u ht hu (e1.symm.trans e2)
theorem Mst.pass {W0 w : World} {q n : Nat} {H : Nat → Nat} {cu : Nat → Cu} {R : Nat → Rn} {i : Nat} {pos : Nat → Nat} (h : Mst W0 w q n H cu R i pos) (hi : (R i).n ≤ pos i) : Mst W0 w q n H cu R (i + 1) pos :=
 ⟨h.qh, h.pz, h.hp, h.inj, fun t ht => ⟨by have := (h.cur t ht).1; omega, (h.cur t ht).2⟩, fun r hr hlt => by
  by_cases z : r = i
  · subst z; omega
  · exact h.ex r (by omega) hlt, h.un⟩
theorem Mst.fix {W0 w w' : World} {q n : Nat} {H H' : Nat → Nat} {cu : Nat → Cu} {R : Nat → Rn} {m : Nat} {pos : Nat → Nat} {c : Cu} (h : Mst W0 w q n H cu R m pos) (n0 : 0 < n) (c0 : 0 < c.n) (c1 : c.no = (cu (H 0)).no) (c2 : c.n = (cu (H 0)).n - 1) (c3 : ∀ t, t < c.n → c.o t = (cu (H 0)).o (1 + t))
 (hq : QH W0 w' q n H' (cuU cu (H 0) c)) (hh : Heap (nbC (cuU cu (H 0) c)) H' n) (hp : Pm H H' n) : Mst W0 w' q n H' (cuU cu (H 0) c) R m (posU pos (cu (H 0)).no) := by
 have sh : ∀ t, t < n → ∃ j, j < n ∧ H j = H' t := fun t ht => (hp.mem (H' t)).1 ⟨t, ht, rfl⟩
 have no : ∀ j, j < n → (cuU cu (H 0) c (H j)).no = (cu (H j)).no := fun j hj => by
  by_cases z : j = 0
  · rw [z, cuU_b, c1]
  · rw [cuU_o _ _ (fun e => z (h.inj j 0 hj n0 e))]
 refine ⟨hq, fun t ht => ?_, hh, hp.inj h.inj, fun t ht => ?_, fun r hr hlt => ?_, fun t u ht hu e => ?_⟩
 · obtain ⟨j, hj, e⟩ := sh t ht
   rw [← e]
   by_cases z : j = 0
   · rw [z, cuU_b]; exact c0
   · rw [cuU_o _ _ (fun e => z (h.inj j 0 hj n0 e))]; exact h.pz j hj
 · obtain ⟨j, hj, e⟩ := sh t ht
   rw [← e]
   by_cases z : j = 0
   · rw [z, cuU_b, c1]
     obtain ⟨g1, g2, g3⟩ := h.cur 0 n0; refine ⟨g1, ?_, fun t ht => ?_⟩
     · unfold posU; rw [if_pos rfl]; omega
     · unfold posU; rw [if_pos rfl, c3 t ht, g3 (1 + t) (by omega)]
       congr 1
       omega
   · rw [cuU_o _ _ (fun e => z (h.inj j 0 hj n0 e))]
     obtain ⟨g1, g2, g3⟩ := h.cur j hj; have ne : (cu (H j)).no ≠ (cu (H 0)).no := fun e => z (h.un j 0 hj n0 e); unfold posU; rw [if_neg ne]; exact ⟨g1, g2, g3⟩
 · have hlt' : pos r < (R r).n := by
    unfold posU at hlt
    by_cases z : r = (cu (H 0)).no
    · rw [if_pos z] at hlt; rw [z]; rw [z] at hlt; omega
    · rw [if_neg z] at hlt; exact hlt
   obtain ⟨j, hj, e⟩ := h.ex r hr hlt'; obtain ⟨t, ht, e2⟩ := (hp.mem (H j)).2 ⟨j, hj, rfl⟩; exact ⟨t, ht, by rw [e2, no j hj]; exact e⟩
 · obtain ⟨j, hj, e1⟩ := sh t ht
   obtain ⟨l, hl, e2⟩ := sh u hu; rw [← e1, ← e2, no j hj, no l hl] at e; have := h.un j l hj hl e; subst this; exact (hp.inj h.inj) t u ht hu (e1.symm.trans e2)
theorem Mst.pop {W0 w w' : World} {q n : Nat} {H H' : Nat → Nat} {cu : Nat → Cu} {R : Nat → Rn} {m : Nat} {pos : Nat → Nat} {c : Cu} (h : Mst W0 w q n H cu R m pos) (n0 : 0 < n) (hz : (cu (H 0)).n = 1)
 (hq : QH W0 w' q (n - 1) H' (cuU cu (H 0) c)) (hh : Heap (nbC (cuU cu (H 0) c)) H' (n - 1)) (hm : ∀ x, (∃ i, i < n - 1 ∧ H' i = x) ↔ ∃ i, 0 < i ∧ i < n ∧ H i = x) (hi : Inj H' (n - 1)) : Mst W0 w' q (n - 1) H' (cuU cu (H 0) c) R m (posU pos (cu (H 0)).no) := by
 have sh : ∀ t, t < n - 1 → ∃ j, 0 < j ∧ j < n ∧ H j = H' t := fun t ht => (hm (H' t)).1 ⟨t, ht, rfl⟩; have cu' : ∀ j, 0 < j → j < n → cuU cu (H 0) c (H j) = cu (H j) := fun j j0 hj => cuU_o _ _ (fun e => by have := h.inj j 0 hj n0 e; omega); have ne : ∀ j, 0 < j → j < n → (cu (H j)).no ≠ (cu (H 0)).no := fun j j0 hj e => by have := h.un j 0 hj n0 e; omega
 refine ⟨hq, fun t ht => ?_, hh, hi, fun t ht => ?_, fun r hr hlt => ?_, fun t u ht hu e => ?_⟩
 · obtain ⟨j, j0, hj, e⟩ := sh t ht
   rw [← e, cu' j j0 hj]; exact h.pz j hj
 · obtain ⟨j, j0, hj, e⟩ := sh t ht
   rw [← e, cu' j j0 hj]; obtain ⟨g1, g2, g3⟩ := h.cur j hj; unfold posU; rw [if_neg (ne j j0 hj)]; exact ⟨g1, g2, g3⟩
 · unfold posU at hlt
   by_cases z : r = (cu (H 0)).no
   · rw [if_pos z] at hlt
     have := (h.cur 0 n0).2.1; rw [z] at hlt
     omega
   · rw [if_neg z] at hlt
     obtain ⟨j, hj, e⟩ := h.ex r hr hlt
     have j0 : 0 < j := by
      rcases Nat.eq_zero_or_pos j with y | y
      · subst y; exact absurd e.symm z
      · exact y
     obtain ⟨t, ht, e2⟩ := (hm (H j)).2 ⟨j, j0, hj, rfl⟩; exact ⟨t, ht, by rw [e2, cu' j j0 hj]; exact e⟩
 · obtain ⟨j, j0, hj, e1⟩ := sh t ht
   obtain ⟨l, l0, hl, e2⟩ := sh u hu; rw [← e1, ← e2, cu' j j0 hj, cu' l l0 hl] at e; have := h.un j l hj hl e; subst this; exact hi t u ht hu (e1.symm.trans e2)
set_option maxRecDepth 20000 in
theorem iLenA (q n C : Nat) (ad : Option Addr) (w : World) (v : Value) (h : RA w q 109 #[v, .slice ad n C]) :
 Calls Tryz.prog 72 #[.pointer (some ⟨q, 0, none⟩)] w fun e w' => e = .returned (.int .i64 (n : Int)) ∧ w' = w := by
 have c1 := h.cell 1
 go_enter Tryz.func72, Tryz.ntmps72
 go_wp2
 go_ret
 exact ⟨rfl, rfl⟩
end Go.Proofs.YtcbmgpdpjagaoaaGreat
namespace Go.Proofs.YtcbmgpdpjagaoaaGreat
open Go.RowKit
set_option linter.unusedVariables false
def mgP (fl : Int) : ByteArray → List En → List En
 | _, [] => []
 | key, e :: r => if fl < e.sq then e :: mgP fl key r else if e.ky = key then mgP fl key r else (if e.gn = true then [] else [e]) ++ mgP fl e.ky r
def oldP (fl : Int) (pr : Option En) (e : En) : Prop := ∃ p, pr = some p ∧ p.ky = e.ky ∧ p.sq ≤ fl
open Classical in
noncomputable def mgS (fl : Int) : Option En → List En → List En
 | _, [] => []
 | pr, e :: r => (if e.sq ≤ fl ∧ (oldP fl pr e ∨ e.gn = true) then [] else [e]) ++ mgS fl (some e) r
theorem ky_between {a b c : En} (h1 : ¬ enLt b a) (h2 : ¬ enLt c b) (e : a.ky = c.ky) : b.ky = c.ky ∧ c.sq ≤ b.sq ∧ b.sq ≤ a.sq := by
 rcases kLt_tri b.ky a.ky with q | q | q
 · exact absurd (.inl q) h1
 · refine ⟨q.trans e, ?_, ?_⟩
   · rcases Int.lt_or_le b.sq c.sq with z | z
     · exact absurd (.inr ⟨(q.trans e).symm, z⟩) h2
     · exact z
   · rcases Int.lt_or_le a.sq b.sq with z | z
     · exact absurd (.inr ⟨q, z⟩) h1
     · exact z
 · exact absurd (.inl (by rw [← e]; exact q)) h2
structure MgI2 (fl : Int) (key : ByteArray) (pr : Option En) (rest : List En) : Prop where
 low : ∀ p, pr = some p → p.sq ≤ fl → key = p.ky
 last : key ≠ ⟨#[]⟩ → ∃ l p, pr = some p ∧ l.ky = key ∧ l.sq ≤ fl ∧ ¬ enLt p l
 bef : ∀ p, pr = some p → ∀ e ∈ rest, ¬ enLt e p
theorem MgI2.iff {fl : Int} {key : ByteArray} {pr : Option En} {e : En} {r : List En} (h : MgI2 fl key pr (e :: r)) (he : e.ky ≠ ⟨#[]⟩) : e.ky = key ↔ oldP fl pr e := by
 constructor
 · intro hk
   obtain ⟨l, p, hp, h1, h2, h3⟩ := h.last (by rw [← hk]; exact he); obtain ⟨q1, q2, q3⟩ := ky_between h3 (h.bef p hp e (by simp)) (h1.trans hk.symm); exact ⟨p, hp, q1, by omega⟩
 · rintro ⟨p, hp, h1, h2⟩
   rw [← h1, h.low p hp h2]
theorem mg_eq (fl : Int) : ∀ (es : List En) (key : ByteArray) (pr : Option En), MgI2 fl key pr es → es.Pairwise (fun a b => ¬ enLt b a) → (∀ e ∈ es, e.ky ≠ ⟨#[]⟩) → mgP fl key es = mgS fl pr es
 | [], _, _, _, _, _ => rfl
 | e :: r, key, pr, h, hs, hk => by
  rw [List.pairwise_cons] at hs; have hke := hk e (by simp); have hkr : ∀ x ∈ r, x.ky ≠ ⟨#[]⟩ := fun x hx => hk x (by simp [hx]); have hf := h.iff hke; unfold mgP mgS
  by_cases h1 : fl < e.sq
  · rw [if_pos h1, if_neg (fun q => by omega)]
    have nx : MgI2 fl key (some e) r := by
     refine ⟨fun p hp hl => by cases hp; omega, fun hkn => ?_, fun p hp x hx => by cases hp; exact hs.1 x hx⟩; obtain ⟨l, p, hp, g1, g2, g3⟩ := h.last hkn
     exact ⟨l, e, rfl, g1, g2, fun q => by
      have := h.bef p hp e (by simp)
      exact this (enLt_nt q g3)⟩
    rw [mg_eq fl r key (some e) nx hs.2 hkr]
    rfl
  · rw [if_neg h1]
    by_cases h2 : e.ky = key
    · rw [if_pos h2, if_pos ⟨by omega, .inl (hf.1 h2)⟩]
      have nx : MgI2 fl key (some e) r := ⟨fun p hp _ => by cases hp; exact h2.symm, fun _ => ⟨e, e, rfl, h2, by omega, fun q => enLt_asymm q q⟩, fun p hp x hx => by cases hp; exact hs.1 x hx⟩; rw [mg_eq fl r key (some e) nx hs.2 hkr]
      rfl
    · rw [if_neg h2]
      have nx : MgI2 fl e.ky (some e) r := ⟨fun p hp _ => by cases hp; rfl, fun _ => ⟨e, e, rfl, rfl, by omega, fun q => enLt_asymm q q⟩, fun p hp x hx => by cases hp; exact hs.1 x hx⟩; rw [mg_eq fl r e.ky (some e) nx hs.2 hkr]
      congr 1
      by_cases h3 : e.gn = true
      · rw [if_pos h3, if_pos ⟨by omega, .inr h3⟩]
      · rw [if_neg h3, if_neg (fun q => by rcases q.2 with z | z; exact h2 (hf.2 z); exact h3 z)]
theorem mg_same (fl : Int) (es : List En) (hs : es.Pairwise (fun a b => ¬ enLt b a)) (hk : ∀ e ∈ es, e.ky ≠ ⟨#[]⟩) : mgP fl ⟨#[]⟩ es = mgS fl none es :=
 mg_eq fl es _ _ ⟨fun p hp => (by cases hp), fun h => absurd rfl h, fun p hp => (by cases hp)⟩ hs hk
theorem sd_pw {S : List Tg} (h : S.Pairwise tLt) : (S.map Prod.fst).Pairwise (fun a b => ¬ enLt b a) := by
 rw [List.pairwise_map]
 exact h.imp fun {a b} q hl => by
  rcases q with q | ⟨q, _⟩
  · exact enLt_asymm q hl
  · exact q hl
end Go.Proofs.YtcbmgpdpjagaoaaGreat
namespace Go.Proofs.YtcbmgpdpjagaoaaGreat
open Go.RowKit
set_option linter.unusedVariables false
theorem sd_place {T : List Tg} (x : En) : ∀ k, k ≤ T.length → (∀ y ∈ T.drop k, enLt x y.1) → ∃ k', (k' = 0 ∨ ∃ y, T[k' - 1]? = some y ∧ ¬ enLt x y.1) ∧ ∀ y ∈ T.drop k', enLt x y.1
 | 0, _, h => ⟨0, .inl rfl, h⟩
 | k + 1, hk, h => by
  by_cases e : enLt x (T[k]'(by omega)).1
  · refine sd_place x k (by omega) fun y hy => ?_
    rw [List.drop_eq_getElem_cons (by omega : k < T.length)] at hy
    rcases List.mem_cons.1 hy with rfl | hy
    · exact e
    · exact h y hy
  · exact ⟨k + 1, .inr ⟨_, List.getElem?_eq_getElem (by omega : k < T.length), e⟩, h⟩
theorem sd_ex (a : Nat → En) : ∀ i, ∃ T, Sd a i T
 | 0 => ⟨[], Sd.zero a⟩
 | i + 1 => by
  obtain ⟨T, h⟩ := sd_ex a i; obtain ⟨k, h1, h2⟩ := sd_place (T := T) (a i) T.length (Nat.le_refl _) (fun y hy => by simp at hy); exact ⟨_, h.next h1 h2⟩
theorem Sd.uniq {a : Nat → En} {i : Nat} {A B : List Tg} (h : Sd a i A) (h' : Sd a i B) : A = B := tUniq h.pw h'.pw fun x => by rw [h.mem, h'.mem]
theorem Sd.cg {a a' : Nat → En} {i : Nat} {T : List Tg} (h : Sd a i T) (e : ∀ j, j < i → a j = a' j) : Sd a' i T := ⟨h.pw, fun x => by
 rw [h.mem]
 constructor
 · rintro ⟨j, hj, rfl⟩; exact ⟨j, hj, by rw [e j hj]⟩
 · rintro ⟨j, hj, rfl⟩; exact ⟨j, hj, by rw [e j hj]⟩⟩
def allE (R : Nat → Rn) : Nat → List En
 | 0 => []
 | m + 1 => allE R m ++ (List.range (R m).n).map (R m).o
theorem allE_len (R : Nat → Rn) : ∀ m, (allE R m).length = cntR R m
 | 0 => rfl
 | m + 1 => by simp [allE, cntR, allE_len R m]
theorem allE_at (R : Nat → Rn) : ∀ m r p, r < m → p < (R r).n → (allE R m)[cntR R r + p]? = some ((R r).o p)
 | 0, r, p, h, _ => absurd h (by omega)
 | m + 1, r, p, h, hp => by
  unfold allE
  by_cases e : r = m
  · subst e
    rw [List.getElem?_append_right (by rw [allE_len]; omega), allE_len, show cntR R r + p - cntR R r = p by omega, List.getElem?_map, List.getElem?_range hp]
    rfl
  · rw [List.getElem?_append_left (by rw [allE_len]; have := cntR_lt (R := R) (show r < m by omega); omega)]
    exact allE_at R m r p (by omega) hp
theorem cnt_split (R : Nat → Rn) : ∀ m j, j < cntR R m → ∃ r p, r < m ∧ p < (R r).n ∧ j = cntR R r + p
 | 0, j, h => absurd h (by simp [cntR])
 | m + 1, j, h => by
  by_cases e : j < cntR R m
  · obtain ⟨r, p, h1, h2, h3⟩ := cnt_split R m j e
    exact ⟨r, p, by omega, h2, h3⟩
  · have : cntR R (m + 1) = cntR R m + (R m).n := rfl
    exact ⟨m, j - cntR R m, by omega, by omega, by omega⟩
theorem Sd.rem {R : Nat → Rn} {m : Nat} {S : List Tg} (h : Sd (enA (allE R m)) (cntR R m) S) : Rem S R m (fun _ => 0) 0 := fun x => by
 have e : ∀ r p, r < m → p < (R r).n → enA (allE R m) (cntR R r + p) = (R r).o p := fun r p h1 h2 => by
  unfold enA; rw [List.getD_eq_getElem?_getD, allE_at R m r p h1 h2]; rfl
 rw [List.drop_zero, h.mem]
 constructor
 · rintro ⟨j, hj, rfl⟩
   obtain ⟨r, p, h1, h2, rfl⟩ := cnt_split R m j hj; exact ⟨r, h1, p, Nat.zero_le _, h2, by rw [e r p h1 h2]; rfl⟩
 · rintro ⟨r, h1, p, _, h2, rfl⟩
   exact ⟨cntR R r + p, by have := cntR_lt (R := R) h1; omega, by rw [e r p h1 h2]; rfl⟩
theorem run_srt {n : Nat} {o : Nat → En} (h : runTo n o) : ∀ j i, i < j → j < n → enLt (o i) (o j)
 | 0, i, h1, _ => absurd h1 (by omega)
 | j + 1, i, h1, h2 => by
  have a := h.2.1 (j + 1) (by omega) h2; rw [show j + 1 - 1 = j by omega] at a
  by_cases e : i = j
  · subst e; exact a
  · exact enLt_trans (run_srt h j i (by omega) (by omega)) a
theorem runs_srt {R : Nat → Rn} {m : Nat} (h : runsOk R m) : RSrt R m := fun r hr i j hi hj => run_srt (h.1 r hr).2 j i hi hj
theorem kLt_nil (a : ByteArray) : kLt a ⟨#[]⟩ = false := by
 unfold kLt; rw [baT, baT]
 cases a.data.toList <;> simp [Op.bytesLess]
theorem runs_st {R : Nat → Rn} {m : Nat} (h : runsOk R m) : StOk R m ⟨#[]⟩ (fun _ => 0) := fun r hr => ⟨Nat.zero_le _, fun i hi => absurd hi (Nat.not_lt_zero _), fun i _ hi hl => by
 have f := (h.1 r hr).2.1 i hi
 rcases hl with q | ⟨q, _⟩
 · have : kLt ((R r).o i).ky ⟨#[]⟩ = true := q
   rw [kLt_nil] at this; cases this
 · have q' : ((R r).o i).ky = ⟨#[]⟩ := q
   have := f.1; rw [q'] at this
   exact absurd this (by decide)⟩
theorem sd_fit {R : Nat → Rn} {m : Nat} (h : runsOk R m) {S : List Tg} (hS : Sd (enA (allE R m)) (cntR R m) S) : ∀ e ∈ S.map Prod.fst, fitE e := fun e he => by
 obtain ⟨x, hx, rfl⟩ := List.mem_map.1 he; rw [show S = S.drop 0 from rfl, hS.rem x] at hx; obtain ⟨r, hr, p, _, hp, rfl⟩ := hx; exact (h.1 r hr).2.1 p hp
end Go.Proofs.YtcbmgpdpjagaoaaGreat
