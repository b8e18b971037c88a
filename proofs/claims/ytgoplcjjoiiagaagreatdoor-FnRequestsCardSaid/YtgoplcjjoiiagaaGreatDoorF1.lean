import Derived.Test.YtgoplcjjoiiagaaGreatDoorLwR
import Derived.Test.YtgoplcjjoiiagaaGreatDoorRdA
import Derived.Test.YtgoplcjjoiiagaaGreatDoorSRead
import Derived.Test.YtgoplcjjoiiagaaGreatDoorRdO
import Derived.Test.YtgoplcjjoiiagaaGreatDoorS2
import Derived.Test.YtgoplcjjoiiagaaGreatDoorL1
import Derived.Test.YtgoplcjjoiiagaaGreatDoorL1
import Derived.Test.YtgoplcjjoiiagaaGreatDoorBase
import Derived.BigQuiet
namespace Go.Proofs.YtgoplcjjoiiagaaGreatDoor
open Go.RowKit
/-! ReadRequest: the law. -/
theorem Fr2.below {w wa wb : World} {v1 v2 : Value} {B : Nat} (h : Fr2 wa wb v1 v2) (hb : Below B w wa) (h1 : ∀ g, v1.ownBlock = some g → B ≤ g) (h2 : ∀ g, v2.ownBlock = some g → B ≤ g) (hB : B ≤ wa.heap.size) : Below B w wb :=
  ⟨h.os.trans hb.os, h.tape.trans hb.tape, h.output.trans hb.output, Nat.le_trans hb.size h.size, fun k hk => (h.block k (by omega) (fun e => by have := h1 k e; omega) (fun e => by have := h2 k e; omega)).trans (hb.block k hk)⟩
theorem OwnHp.is {w : World} {base : Nat} {a : Option Addr} {n c : Nat} {L : List Hp} (h : OwnHp w base (.slice a n c) L) (hn : n = L.length) : Hps w a n c (hAt L) := by subst hn; exact hps_of h rfl
end Go.Proofs.YtgoplcjjoiiagaaGreatDoor
namespace Go.Proofs.YtgoplcjjoiiagaaGreatDoor
open Go.RowKit
/-! What is written is read: mathematics. -/
theorem cutP_at (c : UInt8) (p : List UInt8) : ∀ (l r : List UInt8), c ∉ l → cutP (c :: p) (l ++ (c :: p) ++ r) = some (l, r)
  | [], r, _ => by
    rw [List.nil_append, cutP_hit (List.prefix_append _ _)]
    simp
  | x :: l, r, h => by
    have hx : ¬ (c :: p) <+: x :: (l ++ (c :: p) ++ r) := fun hp => by
      obtain ⟨t, ht⟩ := hp
      simp at ht
      exact h (by simp [ht.1])
    have e : (x :: l) ++ (c :: p) ++ r = x :: (l ++ (c :: p) ++ r) := by simp
    rw [e, cutP_miss hx, cutP_at c p l r (fun hm => h (by simp [hm]))]
    rfl
theorem cutP_no (c : UInt8) (p : List UInt8) : ∀ (l : List UInt8), c ∉ l → cutP (c :: p) l = none
  | [], _ => by unfold cutP; simp
  | x :: l, h => by
    have hx : ¬ (c :: p) <+: x :: l := fun hp => by
      obtain ⟨t, ht⟩ := hp
      simp at ht
      exact h (by simp [ht.1])
    rw [cutP_miss hx, cutP_no c p l (fun hm => h (by simp [hm]))]
    rfl
theorem eHx_pl (n : Nat) (h : n < 16) : ePl (eHx n).toNat := by
  have : ∀ n : Fin 16, ePl (eHx n.1).toNat := by decide
  exact this ⟨n, h⟩
theorem esc_mem {x : UInt8} {l : List UInt8} (h : x ∈ esc l) : ePl x.toNat ∨ x = 37 := by
  unfold esc at h
  obtain ⟨c, _, hc⟩ := List.mem_flatMap.1 h
  unfold e1 at hc
  split at hc
  · rename_i hp
    simp at hc
    subst hc
    exact .inl hp
  · simp at hc
    rcases hc with rfl | rfl | rfl
    · exact .inr rfl
    · exact .inl (eHx_pl _ (by have := c.toNat_lt; omega))
    · exact .inl (eHx_pl _ (Nat.mod_lt _ (by decide)))
theorem escV_mem {x : UInt8} {s : ByteArray} (h : x ∈ escV s) : ePl x.toNat ∨ x = 37 := by
  unfold escV at h
  split at h
  · exact esc_mem h
  · simp at h
theorem escV_no (s : ByteArray) (x : UInt8) (h : ¬ ePl x.toNat) (h2 : x ≠ 37) : x ∉ escV s := fun hm => (escV_mem hm).elim h h2
theorem un_escV (s : ByteArray) (h : s.size ≤ 1000) : unL (escV s) = some s.data.toList := by
  unfold unL
  refine unV_esc _ _ ?_ ?_
  · rw [ofL_l]; unfold escV; rw [if_pos (by omega)]
  · rw [ofL_size]; have := escV_len s; omega
theorem prL_no (q : Hp) (x : UInt8) (h : ¬ ePl x.toNat) (h2 : x ≠ 37) (h3 : x ≠ 61) : x ∉ prL q := by
  unfold prL
  simp only [List.mem_append, List.mem_singleton, not_or]
  exact ⟨⟨escV_no _ x h h2, h3⟩, escV_no _ x h h2⟩
theorem ofL_ba (b : ByteArray) : ofL b.data.toList = b := (ofL_of rfl).symm
theorem hAt_get {Q : List Hp} {i : Nat} (h : i < Q.length) : hAt Q i = Q[i] := by
  unfold hAt
  simp [List.getD, h]
theorem hAt_all {Q : List Hp} {P : Hp → Prop} (h : ∀ i, i < Q.length → P (hAt Q i)) : ∀ q ∈ Q, P q := fun q hq => by
  obtain ⟨i, hi, e⟩ := List.getElem_of_mem hq
  have := h i hi
  rwa [hAt_get hi, e] at this
theorem map_hAt (Q : List Hp) : (List.range Q.length).map (hAt Q) = Q := by
  apply List.ext_getElem
  · simp
  · intro i h1 h2
    simp [hAt_get h2]
theorem flat_hAt (g : Hp → List UInt8) (Q : List Hp) : (List.range Q.length).flatMap (fun i => g (hAt Q i)) = Q.flatMap g := by
  conv => rhs; rw [← map_hAt Q]
  rw [List.flatMap_map]
/-- a query as it is written -/
def qL : List Hp → List UInt8
  | [] => []
  | q :: Q => 63 :: (prL q ++ Q.flatMap fun x => 38 :: prL x)
theorem qyL_range (o : Nat → Hp) : ∀ n, qyL o (n + 1) = 63 :: (prL (o 0) ++ (List.range n).flatMap fun i => 38 :: prL (o (i + 1)))
  | 0 => by simp [qyL]
  | n + 1 => by
    have e : qyL o (n + 1 + 1) = qyL o (n + 1) ++ [if n + 1 = 0 then 63 else 38] ++ prL (o (n + 1)) := rfl
    rw [e, qyL_range o n, if_neg (by omega), List.range_succ]
    simp
theorem qyL_list (Q : List Hp) : qyL (hAt Q) Q.length = qL Q := by
  cases Q with
  | nil => rfl
  | cons q Q =>
    rw [List.length_cons, qyL_range]
    unfold qL
    have e0 : hAt (q :: Q) 0 = q := rfl
    have e1 : ∀ i, hAt (q :: Q) (i + 1) = hAt Q i := fun i => by unfold hAt; simp
    simp only [e0, e1]
    rw [flat_hAt (fun x => 38 :: prL x)]
def lnH (h : Hp) : List UInt8 := h.nm.data.toList ++ [58, 32] ++ h.vl.data.toList
theorem hdL_range (o : Nat → Hp) : ∀ n, hdL o n = (List.range n).flatMap fun i => lnH (o i) ++ [10]
  | 0 => rfl
  | n + 1 => by
    have e : hdL o (n + 1) = hdL o n ++ (o n).nm.data.toList ++ [58, 32] ++ (o n).vl.data.toList ++ [10] := rfl
    rw [e, hdL_range o n, List.range_succ]
    simp [lnH]
theorem hdL_list (H : List Hp) : hdL (hAt H) H.length = H.flatMap fun h => lnH h ++ [10] := by
  rw [hdL_range, flat_hAt (fun h => lnH h ++ [10])]
theorem splA_go (c : UInt8) : ∀ (l cur r : List UInt8), c ∉ l → splA c cur (l ++ r) = splA c (cur ++ l) r
  | [], cur, r, _ => by simp
  | x :: l, cur, r, h => by
    have hx : x ≠ c := fun e => h (by simp [e])
    rw [List.cons_append, splA, if_neg hx, splA_go c l _ _ (fun hm => h (by simp [hm])), List.append_assoc, List.singleton_append]
theorem splA_pr : ∀ (Q : List Hp) (cur : List UInt8), splA 38 cur (Q.flatMap fun x => 38 :: prL x) = cur :: Q.map prL
  | [], cur => rfl
  | q :: Q, cur => by
    rw [List.flatMap_cons, List.cons_append, splA, if_pos rfl, splA_go 38 _ _ _ (prL_no q 38 (by decide) (by decide) (by decide)), List.nil_append, splA_pr Q]
    rfl
theorem qyO_pr : ∀ Q : List Hp, (∀ q ∈ Q, qyP q) → qyO (Q.map prL) = some Q
  | [], _ => rfl
  | q :: Q, h => by
    have hq := h q (by simp)
    have hc : cutP [61] (prL q) = some (escV q.nm, escV q.vl) := by
      unfold prL
      exact cutP_at 61 [] _ _ (escV_no _ _ (by decide) (by decide))
    rw [List.map_cons, qyO_some hc (un_escV _ (by have := hq.2.1; omega)) (un_escV _ hq.2.2), qyO_pr Q fun x hx => h x (by simp [hx])]
    simp [ofL_ba]
theorem mem_ba {s : ByteArray} {x : UInt8} (h : x ∈ s.data.toList) : ∃ i, ∃ h : i < s.size, s[i]'h = x := by
  obtain ⟨i, hi, e⟩ := List.getElem_of_mem h
  exact ⟨i, by rw [← baLen]; exact hi, by rw [← e]; rfl⟩
/-- the first line -/
def flL (m p : ByteArray) (Q : List Hp) : List UInt8 := m.data.toList ++ [32] ++ (escV p ++ qL Q)
theorem rqP_less {m p : ByteArray} {Q H H' : List Hp} {b b' : ByteArray} (hr : rqP (mkRq m p Q (H ++ H') b)) (hb : b'.size ≤ 100000) : rqP (mkRq m p Q H b') := by
  obtain ⟨h1, h2, h3, h4, _, h6, h7⟩ := hr
  simp only [mkRq] at h1 h2 h3 h4 h6 h7
  have e : ∀ i, i < H.length → hAt (H ++ H') i = hAt H i := fun i hi => by
    unfold hAt
    simp only [List.getD, List.getElem?_append_left hi]
  have l : (H ++ H').length = H.length + H'.length := List.length_append
  refine ⟨h1, h2, h3, ⟨by have := h4.1; show H.length ≤ 30; omega, fun i hi k hk => ?_⟩, hb, h6, fun i hi => ?_⟩
  · have hi' : i < H.length := hi
    have := h4.2 i (by omega) k hk
    rw [e i hi', e k (by omega)] at this
    exact this
  · have hi' : i < H.length := hi
    have := h7 i (by omega)
    rw [e i hi'] at this
    exact this
theorem mt_no {m : ByteArray} (h : mtP m) (x : UInt8) (hx : ¬ mtC x.toNat) : x ∉ m.data.toList := fun hm => by
  obtain ⟨i, hi, e⟩ := mem_ba hm
  have := h.2.2 i hi
  rw [e] at this
  exact hx this
theorem fst_wr {m p : ByteArray} {Q : List Hp} (hr : rqP (mkRq m p Q [] ⟨#[]⟩)) : fstO (flL m p Q) = some (m, p, Q) := by
  have h1 : mtP m := hr.1
  obtain ⟨_, hp, _⟩ := hr.2.1
  have hp' : p.size ≤ 1000 := hp
  have hq : ∀ q ∈ Q, qyP q := hAt_all (P := qyP) hr.2.2.2.2.2.1
  have c1 : cutP [32] (flL m p Q) = some (m.data.toList, escV p ++ qL Q) := cutP_at 32 [] _ _ (mt_no h1 32 (by unfold mtC; decide))
  have u := un_escV p hp'
  cases Q with
  | nil =>
    have c2 : cutP [63] (escV p ++ qL []) = none := cutP_no 63 [] _ (by simpa [qL] using escV_no p 63 (by decide) (by decide))
    rw [fstO_plain c1 c2]
    have e : escV p ++ qL [] = escV p := by simp [qL]
    rw [e, finO_yes _ _ u (by rw [ofL_ba, ofL_ba]; exact hr), ofL_ba, ofL_ba]
  | cons q Q =>
    have c2 : cutP [63] (escV p ++ qL (q :: Q)) = some (escV p, prL q ++ Q.flatMap fun x => 38 :: prL x) := by
      have e : escV p ++ qL (q :: Q) = escV p ++ [63] ++ (prL q ++ Q.flatMap fun x => 38 :: prL x) := by simp [qL]
      rw [e]
      exact cutP_at 63 [] _ _ (escV_no p 63 (by decide) (by decide))
    have s : splA 38 [] (prL q ++ Q.flatMap fun x => 38 :: prL x) = (q :: Q).map prL := by
      rw [splA_go 38 _ _ _ (prL_no q 38 (by decide) (by decide) (by decide)), List.nil_append, splA_pr]
      rfl
    rw [fstO_query c1 c2, s, qyO_pr _ hq, finO_yes _ _ u (by rw [ofL_ba, ofL_ba]; exact hr), ofL_ba, ofL_ba]
theorem nm_no {h : Hp} (hh : hdP h) (x : UInt8) (hx : ¬ nmC x.toNat) : x ∉ h.nm.data.toList := fun hm => by
  obtain ⟨i, hi, e⟩ := mem_ba hm
  have := hh.1.2.2.2 i hi
  rw [e] at this
  exact hx this
theorem vl_no {h : Hp} (hh : hdP h) (x : UInt8) (hx : ¬ vlC x.toNat) : x ∉ h.vl.data.toList := fun hm => by
  obtain ⟨i, hi, e⟩ := mem_ba hm
  have := hh.2.2.2 i hi
  rw [e] at this
  exact hx this
theorem lnH_no {h : Hp} (hh : hdP h) : (10 : UInt8) ∉ lnH h := by
  unfold lnH
  simp only [List.mem_append, not_or]
  exact ⟨⟨nm_no hh 10 (by unfold nmC; decide), by decide⟩, vl_no hh 10 (by unfold vlC; decide)⟩
theorem lnH_len {h : Hp} (hh : hdP h) : ¬ lenS <+: lnH h := by
  rintro ⟨t, ht⟩
  have a := cutP_at 58 [] [108, 101, 110, 103, 116, 104] (32 :: t) (by decide)
  have b := cutP_at 58 [] h.nm.data.toList (32 :: h.vl.data.toList) (nm_no hh 58 (by unfold nmC; decide))
  have ea : [108, 101, 110, 103, 116, 104] ++ [58] ++ (32 :: t) = lenS ++ t := by simp [lenS]
  have eb : h.nm.data.toList ++ [58] ++ (32 :: h.vl.data.toList) = lnH h := by simp [lnH]
  rw [ea, ht] at a
  rw [eb, a] at b
  simp only [Option.some.injEq, Prod.mk.injEq] at b
  exact hh.1.2.2.1 (ba_extL b.1.symm)
theorem lnH_cut {h : Hp} (hh : hdP h) : cutP [58, 32] (lnH h) = some (h.nm.data.toList, h.vl.data.toList) := cutP_at 58 [32] _ _ (nm_no hh 58 (by unfold nmC; decide))
theorem dec_no (n : Nat) : (10 : UInt8) ∉ lenS ++ Lib.decDigits n := by
  simp only [List.mem_append, not_or]
  refine ⟨by decide, fun hm => ?_⟩
  have := decDigits_dg n 10 hm
  revert this
  unfold dgC
  decide
theorem lenS_drop (d : List UInt8) : (lenS ++ d).drop 8 = d := by
  exact List.drop_left' (show lenS.length = 8 from rfl)
/-- the lines behind the first, as they are written -/
def tlL (H : List Hp) (b : ByteArray) : List UInt8 := (H.flatMap fun h => lnH h ++ [10]) ++ (lenS ++ Lib.decDigits b.size ++ [10] ++ (10 :: b.data.toList))
theorem tlL_nil (b : ByteArray) : tlL [] b = lenS ++ Lib.decDigits b.size ++ [10] ++ (10 :: b.data.toList) := rfl
theorem tlL_cons (h : Hp) (H : List Hp) (b : ByteArray) : tlL (h :: H) b = lnH h ++ [10] ++ tlL H b := by simp [tlL]
theorem tlL_len (b : ByteArray) : ∀ H : List Hp, H.length ≤ (tlL H b).length
  | [] => Nat.zero_le _
  | h :: H => by
    rw [tlL_cons]
    have := tlL_len b H
    simp only [List.length_append, List.length_cons, List.length_nil]
    omega
theorem mem_hd {m p : ByteArray} {Q H0 H : List Hp} {h : Hp} {b : ByteArray} (hr : rqP (mkRq m p Q (H0 ++ h :: H) b)) : hdP h :=
  hAt_all (P := hdP) hr.2.2.2.2.2.2 h (by simp)
theorem one_more {m p : ByteArray} {Q H0 H : List Hp} {h : Hp} {b : ByteArray} (hr : rqP (mkRq m p Q (H0 ++ h :: H) b)) : rqP (mkRq m p Q (H0 ++ [(⟨ofL h.nm.data.toList, ofL h.vl.data.toList⟩ : Hp)]) ⟨#[]⟩) := by
  rw [ofL_ba, ofL_ba]
  have e : H0 ++ h :: H = (H0 ++ [h]) ++ H := by simp
  rw [e] at hr
  exact rqP_less hr (by decide)
theorem rdE_wr (m p : ByteArray) (Q H : List Hp) (line : Nat) (b : ByteArray) (E : List UInt8) : rdE m p Q H line b.size (10 :: (b.data.toList ++ E)) = .ok m p Q H b E.length := by
  have hl : b.data.toList.length = b.size := by rw [baLen]
  have e : rdE m p Q H line b.size (10 :: (b.data.toList ++ E)) = if (10 : UInt8) = 10 then (if (b.data.toList ++ E).length < b.size then .short else .ok m p Q H (ofL ((b.data.toList ++ E).take b.size)) ((b.data.toList ++ E).length - b.size)) else .bad (line + 1) := rfl
  rw [e, if_pos rfl, if_neg (by rw [List.length_append]; omega), List.take_left' hl, ofL_ba, List.length_append, hl, Nat.add_sub_cancel_left]
theorem rdH_wr {m p : ByteArray} {Q : List Hp} {b : ByteArray} (E : List UInt8) (hb : b.size ≤ 100000) : ∀ (H H0 : List Hp) (f line : Nat), H.length + 1 ≤ f → rqP (mkRq m p Q (H0 ++ H) b) → rdH m p Q f line H0 (tlL H b ++ E) = .ok m p Q (H0 ++ H) b E.length
  | [], H0, 0, line, hf, _ => by simp at hf
  | [], H0, f + 1, line, _, hr => by
    have e : tlL [] b ++ E = (lenS ++ Lib.decDigits b.size) ++ [10] ++ (10 :: (b.data.toList ++ E)) := by simp [tlL_nil]
    have c := cutP_at 10 [] (lenS ++ Lib.decDigits b.size) (10 :: (b.data.toList ++ E)) (dec_no _)
    rw [e, rdH_len c (List.prefix_append _ _) (by rw [lenS_drop]; exact ⟨b.size, hb, rfl⟩), lenS_drop, numL_dec, rdE_wr, List.append_nil]
  | h :: H, H0, 0, line, hf, _ => by simp at hf
  | h :: H, H0, f + 1, line, hf, hr => by
    have hh := mem_hd hr
    have e : tlL (h :: H) b ++ E = lnH h ++ [10] ++ (tlL H b ++ E) := by simp [tlL_cons]
    have c := cutP_at 10 [] (lnH h) (tlL H b ++ E) (lnH_no hh)
    have e2 : H0 ++ h :: H = (H0 ++ [h]) ++ H := by simp
    rw [e, rdH_go c (lnH_len hh) (lnH_cut hh) (one_more hr), ofL_ba, ofL_ba, e2]
    exact rdH_wr E hb H (H0 ++ [h]) f (line + 1) (by simp at hf; omega) (by rw [← e2]; exact hr)
theorem fl_no {m p : ByteArray} (Q : List Hp) (h : mtP m) : (10 : UInt8) ∉ flL m p Q := by
  unfold flL
  simp only [List.mem_append, not_or]
  refine ⟨⟨mt_no h 10 (by unfold mtC; decide), by decide⟩, escV_no p 10 (by decide) (by decide), ?_⟩
  cases Q with
  | nil => simp [qL]
  | cons q Q =>
    unfold qL
    simp only [List.mem_cons, List.mem_append, List.mem_flatMap, not_or, not_exists, not_and]
    exact ⟨by decide, prL_no q 10 (by decide) (by decide) (by decide), fun x _ => ⟨by decide, prL_no x 10 (by decide) (by decide) (by decide)⟩⟩
/-- what is written, ahead of anything, is read -/
theorem rdO_wr {m p : ByteArray} {Q H : List Hp} {b : ByteArray} (E : List UInt8) (hr : rqP (mkRq m p Q H b)) : rdO (flL m p Q ++ [10] ++ tlL H b ++ E) = .ok m p Q H b E.length := by
  have hb : b.size ≤ 100000 := hr.2.2.2.2.1
  have h0 : rqP (mkRq m p Q [] ⟨#[]⟩) := rqP_less (H := []) (H' := H) hr (by decide)
  have c := cutP_at 10 [] (flL m p Q) (tlL H b ++ E) (fl_no Q hr.1)
  have e : flL m p Q ++ [10] ++ tlL H b ++ E = flL m p Q ++ [10] ++ (tlL H b ++ E) := by simp
  rw [e, rdO_go c (fst_wr h0)]
  exact rdH_wr E hb H [] _ 2 (by have := tlL_len b H; rw [List.length_append]; omega) hr
theorem take_line {c : UInt8} {l : List UInt8} (r : List UInt8) (k : Nat) (h : c ∉ l) : cutP [c] ((l ++ [c] ++ r).take k) = none ∨ ∃ j, k = l.length + 1 + j ∧ cutP [c] ((l ++ [c] ++ r).take k) = some (l, r.take j) := by
  by_cases hk : k ≤ l.length
  · left
    rw [List.append_assoc, List.take_append_of_le_length hk]
    exact cutP_no c [] _ fun hm => h (List.mem_of_mem_take hm)
  · right
    refine ⟨k - l.length - 1, by omega, ?_⟩
    have e : (l ++ [c] ++ r).take k = l ++ [c] ++ r.take (k - l.length - 1) := by
      have hl : (l ++ [c]).length = l.length + 1 := by simp
      rw [List.take_append, List.take_of_length_le (by omega), hl, Nat.sub_sub]
    rw [e]
    exact cutP_at c [] _ _ h
theorem rdE_cut (m p : ByteArray) (Q H : List Hp) (line : Nat) (b : ByteArray) (j : Nat) (hj : j < b.size + 1) : rdE m p Q H line b.size ((10 :: b.data.toList).take j) = .short := by
  cases j with
  | zero => rfl
  | succ j =>
    have e : rdE m p Q H line b.size ((10 :: b.data.toList).take (j + 1)) = if (10 : UInt8) = 10 then (if (b.data.toList.take j).length < b.size then .short else .ok m p Q H (ofL ((b.data.toList.take j).take b.size)) ((b.data.toList.take j).length - b.size)) else .bad (line + 1) := rfl
    rw [e, if_pos rfl, if_pos (by rw [List.length_take]; omega)]
theorem rdH_cut {m p : ByteArray} {Q : List Hp} {b : ByteArray} (hb : b.size ≤ 100000) : ∀ (H H0 : List Hp) (f line k : Nat), k < (tlL H b).length → rqP (mkRq m p Q (H0 ++ H) b) → rdH m p Q f line H0 ((tlL H b).take k) = .short
  | _, _, 0, _, _, _, _ => rfl
  | [], H0, f + 1, line, k, hk, hr => by
    rw [tlL_nil] at hk ⊢
    have hl : b.data.toList.length = b.size := by rw [baLen]
    rcases take_line (10 :: b.data.toList) k (dec_no b.size) with c | ⟨j, rfl, c⟩
    · exact rdH_none c
    · rw [rdH_len c (List.prefix_append _ _) (by rw [lenS_drop]; exact ⟨b.size, hb, rfl⟩), lenS_drop, numL_dec]
      refine rdE_cut _ _ _ _ _ _ _ ?_
      simp only [List.length_append, List.length_cons, List.length_nil] at hk
      omega
  | h :: H, H0, f + 1, line, k, hk, hr => by
    rw [tlL_cons] at hk ⊢
    have hh := mem_hd hr
    have e2 : H0 ++ h :: H = (H0 ++ [h]) ++ H := by simp
    rcases take_line (tlL H b) k (lnH_no hh) with c | ⟨j, rfl, c⟩
    · exact rdH_none c
    · rw [rdH_go c (lnH_len hh) (lnH_cut hh) (one_more hr), ofL_ba, ofL_ba]
      refine rdH_cut hb H (H0 ++ [h]) f (line + 1) j ?_ (by rw [← e2]; exact hr)
      simp only [List.length_append, List.length_cons, List.length_nil] at hk
      omega
/-- of a piece of what is written it is said that it is too short -/
theorem rdO_cut {m p : ByteArray} {Q H : List Hp} {b : ByteArray} (k : Nat) (hk : k < (flL m p Q ++ [10] ++ tlL H b).length) (hr : rqP (mkRq m p Q H b)) : rdO ((flL m p Q ++ [10] ++ tlL H b).take k) = .short := by
  have hb : b.size ≤ 100000 := hr.2.2.2.2.1
  have h0 : rqP (mkRq m p Q [] ⟨#[]⟩) := rqP_less (H := []) (H' := H) hr (by decide)
  rcases take_line (tlL H b) k (fl_no (m := m) (p := p) Q hr.1) with c | ⟨j, rfl, c⟩
  · exact rdO_none c
  · rw [rdO_go c (fst_wr h0)]
    refine rdH_cut hb H [] _ 2 j ?_ hr
    simp only [List.length_append, List.length_cons, List.length_nil] at hk
    omega
theorem wrq_list {m p : ByteArray} {Q H : List Hp} {b : ByteArray} (hr : rqP (mkRq m p Q H b)) : wrqL (mkRq m p Q H b) = flL m p Q ++ [10] ++ tlL H b := by
  unfold wrqL
  rw [pb_t hr, if_pos rfl]
  unfold headL
  simp only [mkRq, qyL_list, hdL_list]
  simp [flL, tlL, lenS]
theorem wrq_len {r : Rq} (hr : rqP r) : (wrqL r).length ≤ 400000 ∧ 1 ≤ (wrqL r).length := by
  unfold wrqL
  rw [pb_t hr, if_pos rfl, List.length_append, baLen]
  have h1 := headL_len hr
  have h2 : r.bd.size ≤ 100000 := hr.2.2.2.2.1
  refine ⟨by omega, ?_⟩
  unfold headL
  simp only [List.length_append, List.length_cons, List.length_nil]
  omega
/-- what is written, between any texts, is read from its place on -/
theorem readO_wr {m p : ByteArray} {Q H : List Hp} {b : ByteArray} (hr : rqP (mkRq m p Q H b)) (A E : List UInt8) : ∃ left, readO (ofL (A ++ wrqL (mkRq m p Q H b) ++ E)) (A.length : Int) = .ok m p Q H b left ∧ min ((A ++ wrqL (mkRq m p Q H b) ++ E).length - A.length) 400000 - left = (wrqL (mkRq m p Q H b)).length := by
  obtain ⟨hl, _⟩ := wrq_len hr
  obtain ⟨T, hT⟩ : ∃ T, T = wrqL (mkRq m p Q H b) := ⟨_, rfl⟩
  rw [← hT] at hl ⊢
  refine ⟨(E.take (400000 - T.length)).length, ?_, ?_⟩
  · unfold readO
    rw [if_pos ⟨by omega, by rw [ofL_size]; simp only [List.length_append]; omega⟩, ofL_l, Int.toNat_natCast, List.append_assoc, List.drop_left' rfl, List.take_append, List.take_of_length_le hl, hT, wrq_list hr]
    exact rdO_wr _ hr
  · rw [List.length_take]
    simp only [List.length_append]
    omega
theorem readO_cut {m p : ByteArray} {Q H : List Hp} {b : ByteArray} (hr : rqP (mkRq m p Q H b)) (k : Nat) (hk : k < (wrqL (mkRq m p Q H b)).length) : readO (ofL ((wrqL (mkRq m p Q H b)).take k)) 0 = .short := by
  obtain ⟨hl, _⟩ := wrq_len hr
  unfold readO
  rw [if_pos ⟨by omega, by rw [ofL_size]; omega⟩, ofL_l]
  have e : (List.drop (0 : Int).toNat ((wrqL (mkRq m p Q H b)).take k)).take 400000 = (wrqL (mkRq m p Q H b)).take k := by
    rw [show (0 : Int).toNat = 0 from rfl, List.drop_zero, List.take_of_length_le (by rw [List.length_take]; omega)]
  rw [e, wrq_list hr] at *
  exact rdO_cut k hk hr
end Go.Proofs.YtgoplcjjoiiagaaGreatDoor
namespace Go.Proofs.YtgoplcjjoiiagaaGreatDoor
open Go.RowKit
/-! lwPairs, lwRequest: requests that are alike. -/
theorem below_drewQ {W w : World} (h : Below W.heap.size W w) (n : Nat) : Below W.heap.size W (w.drewN n) := ⟨h.os, h.tape, h.output, h.size, h.block⟩
set_option maxRecDepth 20000 in
set_option maxHeartbeats 1000000 in
theorem lwPairs_eq (a : Option Addr) (n cap : Nat) (a' : Option Addr) (cap' : Nat) (o : Nat → Hp) (w : World) (h : Hps w a n cap o) (h' : Hps w a' n cap' o) (hl : n ≤ 1048576) :
    Calls Tryz.prog 42 #[.slice a n cap, .slice a' n cap'] w fun e w' => e = .returned (.bool true) ∧ Below w.heap.size w w' := by
  have d0 : ((n : Int) != (n : Int)) = false := by simp
  go_enter Tryz.func42, Tryz.ntmps42
  go_wp2
  go_loopw [5] (fun y wr => ∃ (k : Nat), k ≤ n ∧ y = .int .i64 k ∧ Below w.heap.size w wr) (fun y _ => n - (intOf y).toNat)
  case atStart => exact ⟨0, Nat.zero_le _, rfl, Below.refl _ _⟩
  case round =>
    obtain ⟨k, hk, rfl, hb⟩ := hrel
    by_cases hlt : k < n
    · rcases h.2 with h00 | ⟨b, off, rfl, hbl, hc⟩
      · omega
      · rcases h'.2 with h01 | ⟨b', off', rfl, hbl', hc'⟩
        · omega
        · have c1 : wr.cell? ⟨b, off + k * 2, none⟩ = some (.string (o k).nm) := (hb.cell (p := ⟨b, off + k * 2, none⟩) hbl).trans (hc k hlt).1
          have c2 : wr.cell? ⟨b, off + k * 2 + 1, none⟩ = some (.string (o k).vl) := (hb.cell (p := ⟨b, off + k * 2 + 1, none⟩) hbl).trans (hc k hlt).2
          have c3 : wr.cell? ⟨b', off' + k * 2, none⟩ = some (.string (o k).nm) := (hb.cell (p := ⟨b', off' + k * 2, none⟩) hbl').trans (hc' k hlt).1
          have c4 : wr.cell? ⟨b', off' + k * 2 + 1, none⟩ = some (.string (o k).vl) := (hb.cell (p := ⟨b', off' + k * 2 + 1, none⟩) hbl').trans (hc' k hlt).2
          have hlt' : (k : Int) < (n : Int) := by omega
          have i0 : (0 : Int) ≤ (k : Int) := by omega
          obtain ⟨x, hx⟩ : ∃ x, x = (o k).nm := ⟨_, rfl⟩
          obtain ⟨y, hy⟩ : ∃ y, y = (o k).vl := ⟨_, rfl⟩
          rw [← hx] at c1 c3
          rw [← hy] at c2 c4
          clear hx hy
          go_wp2_with fail
          go_quiet (fail)
          go_wp2
          go_roundw
          case rel => exact ⟨k + 1, by omega, by go_num, below_drewQ hb nq⟩
          case measure => simp [intOf]; omega
    · go_wp2
      go_ret
      exact ⟨rfl, hb⟩
set_option maxRecDepth 20000 in
set_option maxHeartbeats 2000000 in
theorem lwRequest_eq (m p : ByteArray) (a1 : Option Addr) (n1 c1 : Nat) (a2 : Option Addr) (n2 c2 : Nat) (b : ByteArray) (s1 : Option Addr) (d1 : Nat) (s2 : Option Addr) (d2 : Nat) (o1 o2 : Nat → Hp) (w : World) (h1 : Hps w a1 n1 c1 o1) (h2 : Hps w a2 n2 c2 o2) (h1' : Hps w s1 n1 d1 o1) (h2' : Hps w s2 n2 d2 o2) (hn1 : n1 ≤ 1048576) (hn2 : n2 ≤ 1048576) :
    Calls Tryz.prog 13 #[.agg #[.string m, .string p, .slice a1 n1 c1, .slice a2 n2 c2, .string b], .agg #[.string m, .string p, .slice s1 n1 d1, .slice s2 n2 d2, .string b]] w fun e w' => e = .returned (.bool true) ∧ Below w.heap.size w w' := by
  have K1 := fun wx (hx : Below w.heap.size w wx) => hid (lwPairs_eq a1 n1 c1 s1 d1 o1 wx (h1.below hx) (h1'.below hx) hn1)
  have K2 := fun wx (hx : Below w.heap.size w wx) => hid (lwPairs_eq a2 n2 c2 s2 d2 o2 wx (h2.below hx) (h2'.below hx) hn2)
  obtain ⟨W0, hW0⟩ : ∃ W, W = (w.alloc (.cells #[.string m, .string p, .slice a1 n1 c1, .slice a2 n2 c2, .string b] 25)).alloc (.cells #[.string m, .string p, .slice s1 n1 d1, .slice s2 n2 d2, .string b] 25) := ⟨_, rfl⟩
  have B0 : Hid (Below w.heap.size w W0) := by rw [hW0]; exact ((Below.refl _ _).alloc (Nat.le_refl _) _).alloc (by simp) _
  have R0 : Hid (RowAt W0 w.heap.size 25 #[.string m, .string p, .slice a1 n1 c1, .slice a2 n2 c2, .string b]) := by rw [hW0]; exact (RowAt.new _ _ _).alloc _
  have S0 : Hid (RowAt W0 (w.heap.size + 1) 25 #[.string m, .string p, .slice s1 n1 d1, .slice s2 n2 d2, .string b]) := by rw [hW0]; exact RowAt.next _ _ _ (by rw [World.size_alloc])
  have r0 := R0.out.cell 0
  have s0' := S0.out.cell 0
  have r1 := R0.out.cell 1
  have s1' := S0.out.cell 1
  have r2 := R0.out.cell 2
  have s2' := S0.out.cell 2
  have r3 := R0.out.cell 3
  have s3' := S0.out.cell 3
  have r4 := R0.out.cell 4
  have s4' := S0.out.cell 4
  clear h1 h2 h1' h2'
  go_enter Tryz.func13, Tryz.ntmps13
  go_upto_region 1 with fail
  rw [← hW0]
  clear hW0
  go_wp2_with fail
  refine (K1 _ B0.out).out.mono ?_
  rintro e w1 ⟨rfl, hb1⟩
  have B1 := hid (B0.out.trans (hb1.mono B0.out.size))
  have R1 := hid (R0.out.below hb1 R0.out.lt)
  have S1 := hid (S0.out.below hb1 S0.out.lt)
  clear hb1 r0 r1 r2 r3 r4 s0' s1' s2' s3' s4'
  have r3 := R1.out.cell 3
  have s3' := S1.out.cell 3
  go_wp2_with fail
  refine (K2 _ B1.out).out.mono ?_
  rintro e w2 ⟨rfl, hb2⟩
  have B2 := hid (B1.out.trans (hb2.mono B1.out.size))
  clear hb2 r3 s3'
  go_wp2
  go_ret
  exact ⟨rfl, B2.out⟩
end Go.Proofs.YtgoplcjjoiiagaaGreatDoor
