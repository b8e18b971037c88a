import Derived.Test.YtkcjigelenofhaaGreatDoorK2
import Derived.Test.YtkcjigelenofhaaGreatDoorK2
import Derived.Test.YtkcjigelenofhaaGreatDoorK2
import Derived.Test.YtkcjigelenofhaaGreatDoorG13
namespace Go.Proofs.YtkcjigelenofhaaGreatDoor
open Go.RowKit
theorem sum_lt (l : List UInt8) (h : l ≠ []) (s0 : Int) : sumL s0 l < 2147483647 := by
 obtain ⟨i, c, rfl⟩ : ∃ i c, l = i ++ [c] := ⟨l.dropLast, l.getLast h, (List.dropLast_concat_getLast h).symm⟩
 rw [sumL_snoc]
 exact (step_rng _ _).2
theorem sgS_lt {r : Rq} (hr : rqP r) (sec : ByteArray) (hs : sec.size ≤ 100) (ts : Nat → ByteArray) (m : Nat) (hm : m ≤ 10) (ht : ∀ i, i < m → (ts i).size ≤ 1000) : 0 ≤ sgS r sec ts m ∧ sgS r sec ts m < 2147483647 := by
 refine ⟨(sgS_bd hr sec hs ts m hm ht).1, ?_⟩
 unfold sgS sumOf
 have := canL_len hr ts m hm ht
 have e : sec.data.toList.length = sec.size := by simp
 rw [if_neg (by rw [ofL_size]; simp only [List.length_append, List.length_cons, List.length_nil]; omega), ofL_l]
 exact sum_lt _ (by simp) _
theorem splA_snoc (c : UInt8) (r : List UInt8) : ∀ (a cur : List UInt8), splA c cur (a ++ c :: r) = splA c cur a ++ splA c [] r
 | [], cur => by
  show splA c cur (c :: r) = _
  rw [splA, splA]
  simp
 | x :: t, cur => by
  rw [List.cons_append, splA, splA]
  by_cases h : x = c
  · rw [if_pos h, if_pos h, splA_snoc c r t []]
    rfl
  · rw [if_neg h, if_neg h]
    exact splA_snoc c r t _
theorem spl_join (ts : Nat → ByteArray) : ∀ m, (∀ i, i < m + 1 → (44 : UInt8) ∉ (ts i).data.toList) → splA 44 [] (jn ts (m + 1)) = jl ts (m + 1)
 | 0, h => by
  rw [jn_one, splA_none _ _ _ (h 0 (by omega))]
  rfl
 | m + 1, h => by
  rw [jn_next ts (m + 1) (by omega), List.append_assoc, show [(44 : UInt8)] ++ (ts (m + 1)).data.toList = 44 :: (ts (m + 1)).data.toList from rfl, splA_snoc, spl_join ts m (fun i hi => h i (by omega)), splA_none _ _ _ (h (m + 1) (by omega))]
  unfold jl
  rw [List.range_succ (n := m + 1), List.map_append]
  simp
theorem sgT_jn (ts : Nat → ByteArray) (m : Nat) (h : ∀ i, i < m → (44 : UInt8) ∉ (ts i).data.toList ∧ 1 ≤ (ts i).size) : sgT (ofL (jn ts m)) = (List.range m).map ts := by
 cases m with
 | zero => rw [jn_zero]; unfold sgT; rw [if_pos (by rw [ofL_size]; rfl)]; rfl
 | succ m =>
  have hn : (ofL (jn ts (m + 1))).size ≠ 0 := by
   rw [ofL_size]
   cases m with
   | zero => rw [jn_one]; have := (h 0 (by omega)).2; have e : (ts 0).data.toList.length = (ts 0).size := (by simp); omega
   | succ k => rw [jn_next ts (k + 1) (by omega)]; simp only [List.length_append, List.length_cons, List.length_nil]; omega
  unfold sgT
  rw [if_neg hn]
  unfold splB
  rw [ofL_l, spl_join ts m (fun i hi => (h i hi).1)]
  unfold jl
  rw [List.map_map]
  apply List.map_congr_left
  intro i _
  exact (ofL_of rfl).symm
theorem hn_comma {s : ByteArray} (h : hnP s) : (44 : UInt8) ∉ s.data.toList := by
 intro q
 obtain ⟨i, hi, e⟩ := List.getElem_of_mem q
 have hs : i < s.size := by simpa using hi
 have h1 := h.2.2.2 i hs
 have e2 : s[i]'hs = 44 := by rw [← e]; rfl
 rw [e2] at h1
 unfold nmC at h1
 have e3 : (44 : UInt8).toNat = 44 := rfl
 rw [e3] at h1
 omega
theorem hAt_app2 (A B : List Hp) (k : Nat) : hAt (A ++ B) (A.length + k) = hAt B k := by
 unfold hAt
 rw [List.getD_eq_getElem?_getD, List.getD_eq_getElem?_getD, List.getElem?_append_right (by omega)]
 simp
section
variable {r : Rq} {id sec : ByteArray} {nw ls : Int} {ts : Nat → ByteArray} {m : Nat}
noncomputable def sgFive (r : Rq) (id sec : ByteArray) (nw ls : Int) (ts : Nat → ByteArray) (m : Nat) : List Hp := [⟨⟨#[120, 45, 105, 100]⟩, id⟩, ⟨⟨#[120, 45, 102, 114, 111, 109]⟩, ofL (Lib.decDigits nw.toNat)⟩, ⟨⟨#[120, 45, 108, 97, 115, 116, 115]⟩, ofL (Lib.decDigits ls.toNat)⟩, ⟨⟨#[120, 45, 115, 105, 103, 110, 101, 100]⟩, ofL (jn ts m)⟩, ⟨⟨#[120, 45, 115, 117, 109]⟩, ofL (Lib.decDigits (sgS (sgR1 r id nw ls ts m) sec ts m).toNat)⟩]
theorem sgQ2_eq (r : Rq) (id sec : ByteArray) (nw ls : Int) (ts : Nat → ByteArray) (m : Nat) : sgQ2 r id sec nw ls ts m = hpList r.qs.o r.qs.n ++ sgFive r id sec nw ls ts m := by
 unfold sgQ2 sgQ1 sgFive
 rw [List.append_assoc]
 rfl
theorem sgQ2_len (r : Rq) (id sec : ByteArray) (nw ls : Int) (ts : Nat → ByteArray) (m : Nat) : (sgQ2 r id sec nw ls ts m).length = r.qs.n + 5 := by
 rw [sgQ2_eq, List.length_append, hpList_len]
 rfl
theorem sgQ2_lo (r : Rq) (id sec : ByteArray) (nw ls : Int) (ts : Nat → ByteArray) (m : Nat) {i : Nat} (h : i < r.qs.n) : hAt (sgQ2 r id sec nw ls ts m) i = r.qs.o i := by
 rw [sgQ2_eq, ← hAt_list r.qs.o r.qs.n i h]
 unfold hAt
 rw [List.getD_eq_getElem?_getD, List.getD_eq_getElem?_getD, List.getElem?_append_left (by rw [hpList_len]; exact h)]
theorem sgQ2_hi (r : Rq) (id sec : ByteArray) (nw ls : Int) (ts : Nat → ByteArray) (m k : Nat) : hAt (sgQ2 r id sec nw ls ts m) (r.qs.n + k) = hAt (sgFive r id sec nw ls ts m) k := by
 have := hAt_app2 (hpList r.qs.o r.qs.n) (sgFive r id sec nw ls ts m) k
 rw [hpList_len] at this
 rw [sgQ2_eq]
 exact this
theorem sg_V (r : Rq) (id sec : ByteArray) (nw ls : Int) (ts : Nat → ByteArray) (m k : Nat) : ckV (sgR2 r id sec nw ls ts m) k = (hAt (sgFive r id sec nw ls ts m) k).vl := by
 unfold ckV sgR2 mkRq
 show (hAt (sgQ2 r id sec nw ls ts m) ((sgQ2 r id sec nw ls ts m).length - 5 + k)).vl = _
 rw [sgQ2_len, Nat.add_sub_cancel, sgQ2_hi]
theorem sg_S (ok : sgOk r id sec nw ls ts m) : ckS (sgR2 r id sec nw ls ts m) = (List.range m).map ts := by
 unfold ckS
 rw [sg_V]
 refine sgT_jn ts m fun i hi => ?_
 obtain ⟨k, hk, e⟩ := (ok.1.2.2.2.2.2.2.2.2.2.1 i hi).1
 have hh := (ok.1.1.2.2.2.2.2.2 k hk).1
 rw [e] at hh
 exact ⟨hn_comma hh, hh.1⟩
theorem sg_tAt (ts : Nat → ByteArray) (m i : Nat) (h : i < m) : tAt ((List.range m).map ts) i = ts i := by
 unfold tAt
 rw [List.getD_eq_getElem?_getD]
 simp [h]
theorem sgL_congr (o : Nat → Hp) (n : Nat) {ts ts' : Nat → ByteArray} : ∀ m, (∀ i, i < m → ts i = ts' i) → sgL o n ts m = sgL o n ts' m
 | 0, _ => rfl
 | k + 1, h => by unfold sgL; rw [sgL_congr o n k (fun i hi => h i (by omega)), h k (by omega)]
theorem hpList_hAt (L : List Hp) (k : Nat) (h : k ≤ L.length) : hpList (hAt L) k = L.take k := by
 unfold hpList
 apply List.ext_getElem?
 intro i
 rw [List.getElem?_map, List.getElem?_take]
 by_cases hi : i < k
 · rw [List.getElem?_range hi, if_pos hi]
   simp [hAt, List.getElem?_eq_getElem (show i < L.length by omega)]
 · rw [if_neg hi, List.getElem?_eq_none (by simpa using hi)]
   rfl
theorem sg_sum (ok : sgOk r id sec nw ls ts m) (sec' : ByteArray) : sgS (ckB (sgR2 r id sec nw ls ts m)) sec' (tAt (ckS (sgR2 r id sec nw ls ts m))) (ckS (sgR2 r id sec nw ls ts m)).length = sgS (sgR1 r id nw ls ts m) sec' ts m := by
 have eQ : hpList (hAt (sgQ2 r id sec nw ls ts m)) (r.qs.n + 4) = sgQ1 r id nw ls ts m := by
  have l1 : (sgQ1 r id nw ls ts m).length = r.qs.n + 4 := by unfold sgQ1; rw [List.length_append, hpList_len]; rfl
  rw [hpList_hAt _ _ (by rw [sgQ2_len]; omega)]
  unfold sgQ2
  rw [← l1]
  exact List.take_left
 have eQ1 : hpList (hAt (sgQ1 r id nw ls ts m)) (sgQ1 r id nw ls ts m).length = sgQ1 r id nw ls ts m := by
  rw [hpList_hAt _ _ (Nat.le_refl _)]
  exact List.take_length
 have l1 : (sgQ1 r id nw ls ts m).length = r.qs.n + 4 := by unfold sgQ1; rw [List.length_append, hpList_len]; rfl
 rw [sg_S ok, List.length_map, List.length_range]
 unfold sgS canL ckB
 have e1 : (sgR2 r id sec nw ls ts m).qs.n - 1 = r.qs.n + 4 := by show (sgQ2 r id sec nw ls ts m).length - 1 = _; rw [sgQ2_len]; rfl
 dsimp only
 rw [e1, sgL_congr _ _ m (fun i hi => sg_tAt ts m i hi)]
 show sumOf (ofL (sec'.data.toList ++ [10] ++ (r.mt.data.toList ++ [10] ++ escV r.pt ++ [10] ++ canQ (selL (r.qs.n + 4) (hpList (hAt (sgQ2 r id sec nw ls ts m)) (r.qs.n + 4))) ++ [10] ++ sgL (hAt (sgH r)) (sgH r).length ts m ++ Lib.decDigits (sumOf r.bd 3).toNat))) 9 = sumOf (ofL (sec'.data.toList ++ [10] ++ (r.mt.data.toList ++ [10] ++ escV r.pt ++ [10] ++ canQ (selL (sgQ1 r id nw ls ts m).length (hpList (hAt (sgQ1 r id nw ls ts m)) (sgQ1 r id nw ls ts m).length)) ++ [10] ++ sgL (hAt (sgH r)) (sgH r).length ts m ++ Lib.decDigits (sumOf r.bd 3).toNat))) 9
 rw [eQ, eQ1, l1]
theorem sg_tsz (ok : sgOk r id sec nw ls ts m) (i : Nat) (hi : i < m) : (ts i).size ≤ 1000 := Nat.le_trans (sgn_sz ok.1.1 ok.1.2.2.2.2.2.2.2.2.2 i hi) (by omega)
theorem sg_bd (ok : sgOk r id sec nw ls ts m) : 0 ≤ sgS (sgR1 r id nw ls ts m) sec ts m ∧ sgS (sgR1 r id nw ls ts m) sec ts m < 2147483647 := sgS_lt ok.2.2.1 sec ok.1.2.2.2.1 ts m ok.1.2.2.2.2.2.2.2.2.1 (sg_tsz ok)
theorem sg_ckP (ok : sgOk r id sec nw ls ts m) : ckP (sgR2 r id sec nw ls ts m) := by
 have hS := sg_S ok
 have len : (sgR2 r id sec nw ls ts m).qs.n = r.qs.n + 5 := sgQ2_len r id sec nw ls ts m
 have ok2 := ok
 obtain ⟨⟨hr, hid, s1, s2, t1, t2, t3, t4, hm, hsg⟩, hx, hr1, hr2⟩ := ok2
 refine ⟨hr2, by rw [len]; omega, fun i hi => ?_, by rw [sg_V]; exact hid, ?_, ?_, ?_, ?_⟩
 · rw [len] at hi
   unfold ckO
   rw [len, Nat.add_sub_cancel]
   by_cases h : i < r.qs.n
   · rw [if_pos h]
     show ¬ bgP (hAt (sgQ2 r id sec nw ls ts m) i).nm _
     rw [sgQ2_lo _ _ _ _ _ _ _ h]
     exact hx i h
   · rw [if_neg h]
     show (hAt (sgQ2 r id sec nw ls ts m) i).nm = _
     obtain ⟨k, rfl⟩ : ∃ k, i = r.qs.n + k := ⟨i - r.qs.n, by omega⟩
     rw [sgQ2_hi, Nat.add_sub_cancel_left]
     rcases (by omega : k = 0 ∨ k = 1 ∨ k = 2 ∨ k = 3 ∨ k = 4) with rfl | rfl | rfl | rfl | rfl <;> rfl
 · rw [sg_V]
   exact ⟨nw.toNat, by omega, ofL_l _⟩
 · rw [sg_V]
   exact ⟨ls.toNat, by omega, ofL_l _⟩
 · rw [hS]
   have hl : ((List.range m).map ts).length = m := by simp
   rw [hl]
   refine ⟨fun i hi => ?_, hsg.2⟩
   obtain ⟨⟨k, hk, e⟩, hd⟩ := hsg.1 i hi
   show (∃ h, h < (sgH r).length ∧ (hAt (sgH r) h).nm = tAt ((List.range m).map ts) i) ∧ ∀ k, k < i → tAt ((List.range m).map ts) k ≠ tAt ((List.range m).map ts) i
   refine ⟨⟨k, by unfold sgH; rw [hpList_len]; exact hk, ?_⟩, fun q hq => ?_⟩
   · rw [sg_tAt ts m i hi]
     unfold sgH
     rw [hAt_list r.hs.o r.hs.n k hk]
     exact e
   · rw [sg_tAt ts m i hi, sg_tAt ts m q (by omega)]
     exact hd q hq
 · rw [sg_V]
   have hb := sg_bd ok
   exact ⟨(sgS (sgR1 r id nw ls ts m) sec ts m).toNat, by omega, ofL_l _⟩
theorem sg_smQ (ok : sgOk r id sec nw ls ts m) (sec' : ByteArray) : smQ (sgR2 r id sec nw ls ts m) sec' ↔ scQ sec' ∧ sgS (sgR1 r id nw ls ts m) sec' ts m = sgS (sgR1 r id nw ls ts m) sec ts m := by
 unfold smQ
 rw [sg_sum ok sec', sg_V]
 have hb := sg_bd ok
 have e : (numL (hAt (sgFive r id sec nw ls ts m) 4).vl.data.toList : Int) = sgS (sgR1 r id nw ls ts m) sec ts m := by
  show (numL (ofL (Lib.decDigits (sgS (sgR1 r id nw ls ts m) sec ts m).toNat)).data.toList : Int) = _
  rw [ofL_l, numL_dec]
  omega
 rw [e]
theorem sg_fst (_ok : sgOk r id sec nw ls ts m) (sec' : ByteArray) : fstK (fun _ => (⟨id, sec'⟩ : Ak)) (ckV (sgR2 r id sec nw ls ts m) 0) 1 = some 0 := fstK_first (by omega) (fun j hj => absurd hj (by omega)) (by rw [sg_V]; rfl)
end
end Go.Proofs.YtkcjigelenofhaaGreatDoor
namespace Go.Proofs.YtkcjigelenofhaaGreatDoor
open Go.RowKit
set_option linter.unusedVariables false
def rqPt (R : Rq) (p : ByteArray) : Rq := ⟨R.mt, p, R.qs, R.hs, R.bd⟩
def rqBd (R : Rq) (b : ByteArray) : Rq := ⟨R.mt, R.pt, R.qs, R.hs, b⟩
theorem rqP_pt {R : Rq} (h : rqP R) {p : ByteArray} (hp : ptP p) : rqP (rqPt R p) := ⟨h.1, hp, h.2.2⟩
theorem ckP_pt {R : Rq} (h : ckP R) {p : ByteArray} (hp : ptP p) : ckP (rqPt R p) := ⟨rqP_pt h.1 hp, h.2⟩
theorem ckP_bd {R : Rq} (h : ckP R) {b : ByteArray} (hb : b.size ≤ 100000) : ckP (rqBd R b) := ⟨⟨h.1.1, h.1.2.1, h.1.2.2.1, h.1.2.2.2.1, hb, h.1.2.2.2.2.2⟩, h.2⟩
theorem canL_pt (R : Rq) (ts : Nat → ByteArray) (m : Nat) : ∃ X Y : List UInt8, ∀ p, canL (rqPt R p) ts m = X ++ escV p ++ Y :=
 ⟨R.mt.data.toList ++ [10], [10] ++ canQ (selL R.qs.n (hpList R.qs.o R.qs.n)) ++ [10] ++ sgL R.hs.o R.hs.n ts m ++ Lib.decDigits (sumOf R.bd 3).toNat, fun p => by unfold canL rqPt; simp⟩
theorem sgS_pt {R : Rq} (hr : rqP R) {p : ByteArray} (hp : ptP p) (sec : ByteArray) (hs : sec.size ≤ 100) (ts : Nat → ByteArray) (m : Nat) (hm : m ≤ 10) (ht : ∀ i, i < m → (ts i).size ≤ 1000) {A B : List UInt8} {c d : UInt8} (h1 : escV R.pt = A ++ c :: B) (h2 : escV p = A ++ d :: B) (hcd : c ≠ d) : sgS (rqPt R p) sec ts m ≠ sgS R sec ts m := by
 obtain ⟨X, Y, hXY⟩ := canL_pt R ts m
 have l1 := canL_len hr ts m hm ht
 have l2 := canL_len (rqP_pt hr hp) ts m hm ht
 have e1 : canL R ts m = X ++ escV R.pt ++ Y := hXY R.pt
 have e2 := hXY p
 have hz : sec.data.toList.length = sec.size := by simp
 unfold sgS sumOf
 rw [if_neg (by rw [ofL_size]; simp only [List.length_append, List.length_cons, List.length_nil]; omega), if_neg (by rw [ofL_size]; simp only [List.length_append, List.length_cons, List.length_nil]; omega), ofL_l, ofL_l, e1, e2, h1, h2]
 have q := sum_turned (9 % 2147483647 + 1) (sec.data.toList ++ [10] ++ X ++ A) (B ++ Y) d c (fun e => hcd e.symm)
 simp only [List.append_assoc, List.cons_append] at q ⊢
 exact q
section
variable {r : Rq} {id sec : ByteArray} {nw ls : Int} {ts : Nat → ByteArray} {m : Nat}
theorem sg_sumP (ok : sgOk r id sec nw ls ts m) (p : ByteArray) (sec' : ByteArray) : sgS (ckB (rqPt (sgR2 r id sec nw ls ts m) p)) sec' (tAt (ckS (rqPt (sgR2 r id sec nw ls ts m) p))) (ckS (rqPt (sgR2 r id sec nw ls ts m) p)).length = sgS (rqPt (sgR1 r id nw ls ts m) p) sec' ts m := by
 have eQ : hpList (hAt (sgQ2 r id sec nw ls ts m)) (r.qs.n + 4) = sgQ1 r id nw ls ts m := by
  have l1 : (sgQ1 r id nw ls ts m).length = r.qs.n + 4 := by unfold sgQ1; rw [List.length_append, hpList_len]; rfl
  rw [hpList_hAt _ _ (by rw [sgQ2_len]; omega)]
  unfold sgQ2
  rw [← l1]
  exact List.take_left
 have eQ1 : hpList (hAt (sgQ1 r id nw ls ts m)) (sgQ1 r id nw ls ts m).length = sgQ1 r id nw ls ts m := by
  rw [hpList_hAt _ _ (Nat.le_refl _)]
  exact List.take_length
 have l1 : (sgQ1 r id nw ls ts m).length = r.qs.n + 4 := by unfold sgQ1; rw [List.length_append, hpList_len]; rfl
 have eS : ckS (rqPt (sgR2 r id sec nw ls ts m) p) = (List.range m).map ts := sg_S ok
 rw [eS, List.length_map, List.length_range]
 unfold sgS canL ckB
 have e1 : (rqPt (sgR2 r id sec nw ls ts m) p).qs.n - 1 = r.qs.n + 4 := by show (sgQ2 r id sec nw ls ts m).length - 1 = _; rw [sgQ2_len]; rfl
 dsimp only
 rw [e1, sgL_congr _ _ m (fun i hi => sg_tAt ts m i hi)]
 show sumOf (ofL (sec'.data.toList ++ [10] ++ (r.mt.data.toList ++ [10] ++ escV p ++ [10] ++ canQ (selL (r.qs.n + 4) (hpList (hAt (sgQ2 r id sec nw ls ts m)) (r.qs.n + 4))) ++ [10] ++ sgL (hAt (sgH r)) (sgH r).length ts m ++ Lib.decDigits (sumOf r.bd 3).toNat))) 9 = sumOf (ofL (sec'.data.toList ++ [10] ++ (r.mt.data.toList ++ [10] ++ escV p ++ [10] ++ canQ (selL (sgQ1 r id nw ls ts m).length (hpList (hAt (sgQ1 r id nw ls ts m)) (sgQ1 r id nw ls ts m).length)) ++ [10] ++ sgL (hAt (sgH r)) (sgH r).length ts m ++ Lib.decDigits (sumOf r.bd 3).toNat))) 9
 rw [eQ, eQ1, l1]
theorem sg_path (ok : sgOk r id sec nw ls ts m) {p : ByteArray} (hp : ptP p) {A B : List UInt8} {c d : UInt8} (h1 : escV r.pt = A ++ c :: B) (h2 : escV p = A ++ d :: B) (hcd : c ≠ d) (t : Int) : ckR (rqPt (sgR2 r id sec nw ls ts m) p) 1 (fun _ => ⟨id, sec⟩) t = (12, ⟨#[]⟩) := by
 refine ckR_12 ⟨ckP_pt (sg_ckP ok) hp, by omega⟩ (i := 0) (sg_fst ok sec) ?_
 intro q
 have q2 := q.2
 rw [sg_sumP ok p sec] at q2
 have q3 := ((sg_smQ ok sec).2 ⟨⟨ok.1.2.2.1, ok.1.2.2.2.1⟩, rfl⟩).2
 rw [sg_sum ok sec] at q3
 exact sgS_pt ok.2.2.1 hp sec ok.1.2.2.2.1 ts m ok.1.2.2.2.2.2.2.2.2.1 (sg_tsz ok) h1 h2 hcd (q2.trans q3.symm)
end
theorem esc_plain : ∀ l : List UInt8, (∀ c ∈ l, ePl c.toNat) → esc l = l
 | [], _ => rfl
 | c :: l, h => by
  have h1 : e1 c = [c] := by unfold e1; rw [if_pos (h c (by simp))]
  show e1 c ++ esc l = _
  rw [h1, esc_plain l (fun x hx => h x (by simp [hx]))]
  rfl
def bkB : ByteArray := ⟨#[47, 98, 117, 99, 107, 101, 116, 47]⟩
theorem tam_path {mt : ByteArray} (hm : mtP mt) {k : Nat} (k1 : 1 ≤ k) (k6 : k ≤ 6) {d : UInt8} (d1 : 97 ≤ d.toNat) (d2 : d.toNat ≤ 122) (hd : (bkB ++ mt).data.toList.getD k 0 ≠ d) :
 ptP ⟨((bkB ++ mt).data.toList.set k d).toArray⟩ ∧ ∃ A B c, escV (bkB ++ mt) = A ++ c :: B ∧ escV ⟨((bkB ++ mt).data.toList.set k d).toArray⟩ = A ++ d :: B ∧ c ≠ d := by
 have hl : (bkB ++ mt).data.toList = [47, 98, 117, 99, 107, 101, 116, 47] ++ mt.data.toList := ba_app _ _
 have hz : mt.data.toList.length = mt.size := by simp
 have m2 := hm.2.1
 have pl : ∀ c ∈ (bkB ++ mt).data.toList, ePl c.toNat := by
  rw [hl]
  intro c hc
  rcases List.mem_append.1 hc with h | h
  · simp at h
    unfold ePl
    rcases h with rfl | rfl | rfl | rfl | rfl | rfl | rfl | rfl <;> decide
  · obtain ⟨i, hi, e⟩ := List.getElem_of_mem h
    have q := hm.2.2 i (by rw [← hz]; exact hi)
    have e2 : mt[i]'(by rw [← hz]; exact hi) = c := e
    rw [e2] at q
    unfold mtC at q
    unfold ePl
    omega
 have hk : k < (bkB ++ mt).data.toList.length := by rw [hl]; simp; omega
 have e1 : (bkB ++ mt).data.toList = (bkB ++ mt).data.toList.take k ++ (bkB ++ mt).data.toList.getD k 0 :: (bkB ++ mt).data.toList.drop (k + 1) := by
  rw [List.getD_eq_getElem?_getD, List.getElem?_eq_getElem hk]
  have q := List.drop_eq_getElem_cons hk
  show _ = _ ++ _ :: _
  rw [Option.getD_some, ← q, List.take_append_drop]
 have e2 : (bkB ++ mt).data.toList.set k d = (bkB ++ mt).data.toList.take k ++ d :: (bkB ++ mt).data.toList.drop (k + 1) := by rw [List.set_eq_take_append_cons_drop, if_pos hk]
 have sz : (bkB ++ mt).size = 8 + mt.size := by rw [sizeApp]; rfl
 have sz2 : (⟨((bkB ++ mt).data.toList.set k d).toArray⟩ : ByteArray).size = 8 + mt.size := by
  show ((bkB ++ mt).data.toList.set k d).toArray.size = _
  rw [List.size_toArray, List.length_set, hl]; simp; omega
 refine ⟨⟨by rw [sz2]; omega, by rw [sz2]; omega, ?_⟩, (bkB ++ mt).data.toList.take k, (bkB ++ mt).data.toList.drop (k + 1), (bkB ++ mt).data.toList.getD k 0, ?_, ?_, hd⟩
 · show ((bkB ++ mt).data.toList.set k d)[0]'(by rw [List.length_set, hl]; simp) = 47
   rw [List.getElem_set_ne (by omega)]
   have : ∀ (l : List UInt8) (h : 0 < l.length), l = [47, 98, 117, 99, 107, 101, 116, 47] ++ mt.data.toList → l[0]'h = 47 := by
    intro l h e; subst e; rfl
   exact this _ _ hl
 · unfold escV
   rw [if_pos (by rw [sz]; omega), esc_plain _ pl]
   exact e1
 · unfold escV
   rw [if_pos (by rw [sz2]; omega)]
   show esc ((bkB ++ mt).data.toList.set k d) = _
   rw [esc_plain _ (fun c hc => by
    rcases List.mem_or_eq_of_mem_set hc with h | h
    · exact pl c h
    · subst h; unfold ePl; omega)]
   exact e2
end Go.Proofs.YtkcjigelenofhaaGreatDoor
