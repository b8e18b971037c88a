import Derived.Test.YtkcjigelenofhaaGreatDoorG4
import Derived.Sort.Walk0
namespace Go.Proofs.YtkcjigelenofhaaGreatDoor
open Go.RowKit
theorem nLt_iff (a b : ByteArray) : nLt a b = true ↔ a.data.toList < b.data.toList := by
 unfold nLt
 rw [show a.toList = a.data.toList from ByteArray.toList_eq .., show b.toList = b.data.toList from ByteArray.toList_eq ..]
 rw [Go.Proofs.bytesLess_eq]
 simp
theorem bst_least (o : Nat → Hp) : ∀ k, 0 < k → ∀ i, i < k → (o (bstTo o k)).nm.data.toList ≤ (o i).nm.data.toList
 | 0, h, _, _ => absurd h (by omega)
 | k + 1, _, i, hi => by
  unfold bstTo
  by_cases e : k = 0
  · rw [if_pos e]
    have : i = 0 := by omega
    subst this
    exact List.le_refl _
  · rw [if_neg e]
    have ih := bst_least o k (by omega)
    by_cases hl : nLt (o k).nm (o (bstTo o k)).nm = true
    · rw [if_pos hl]
      have h1 : (o k).nm.data.toList ≤ (o (bstTo o k)).nm.data.toList := List.le_of_lt ((nLt_iff _ _).1 hl)
      rcases Nat.lt_or_ge i k with h2 | h2
      · exact List.le_trans h1 (ih i h2)
      · rw [show i = k by omega]; exact List.le_refl _
    · rw [if_neg hl]
      rcases Nat.lt_or_ge i k with h2 | h2
      · exact ih i h2
      · rw [show i = k by omega]
        exact List.not_lt.1 fun h => hl ((nLt_iff _ _).2 h)
theorem lessOne_perm (L : List Hp) (b : Nat) (h : b < L.length) : (hAt L b :: lessOne L b).Perm L := by
 have e : L = L.take b ++ hAt L b :: L.drop (b + 1) := by
  have : hAt L b = L[b] := by unfold hAt; rw [List.getD_eq_getElem?_getD, List.getElem?_eq_getElem h]; rfl
  rw [this, List.getElem_cons_drop, List.take_append_drop]
 exact (List.perm_middle.symm).trans (by rw [← e])
theorem sel_perm : ∀ (f : Nat) (L : List Hp), L.length = f → (selL f L).Perm L
 | 0, L, h => by rw [List.length_eq_zero_iff.1 h]; exact List.Perm.refl _
 | f + 1, L, h => by
  have hb := bstTo_lt (hAt L) L.length (by omega)
  exact (List.Perm.cons _ (sel_perm f _ (by rw [lessOne_len L _ hb]; omega))).trans (lessOne_perm L _ hb)
theorem hAt_of_mem {L : List Hp} {p : Hp} (h : p ∈ L) : ∃ i, i < L.length ∧ hAt L i = p := by
 obtain ⟨i, hi, e⟩ := List.getElem_of_mem h
 exact ⟨i, hi, by unfold hAt; rw [List.getD_eq_getElem?_getD, List.getElem?_eq_getElem hi]; exact e⟩
theorem sel_sorted : ∀ (f : Nat) (L : List Hp), L.length = f → (selL f L).Pairwise (fun x y => x.nm.data.toList ≤ y.nm.data.toList)
 | 0, L, h => List.Pairwise.nil
 | f + 1, L, h => by
  have hb := bstTo_lt (hAt L) L.length (by omega)
  refine List.Pairwise.cons (fun y hy => ?_) (sel_sorted f _ (by rw [lessOne_len L _ hb]; omega))
  have hm := mem_lessOne ((sel_perm f _ (by rw [lessOne_len L _ hb]; omega)).mem_iff.1 hy)
  obtain ⟨i, hi, rfl⟩ := hAt_of_mem hm
  exact bst_least (hAt L) L.length (by omega) i hi
theorem sel_names (L : List Hp) (ns : List (List UInt8)) (hn : ns.Perm (L.map fun p => p.nm.data.toList)) : ns.mergeSort (fun x y => decide (x ≤ y)) = (selL L.length L).map fun p => p.nm.data.toList := by
 refine List.Perm.eq_of_pairwise (le := fun x y => x ≤ y) (fun a b _ _ h1 h2 => List.le_antisymm h1 h2) ?_ ?_ ?_
 · have := List.pairwise_mergeSort (le := fun x y : List UInt8 => decide (x ≤ y)) (fun a b c h1 h2 => by simp at h1 h2 ⊢; exact List.le_trans h1 h2) (fun a b => by simp; exact List.le_total a b) ns
   exact this.imp (fun h => by simpa using h)
 · exact List.pairwise_map.2 (sel_sorted _ _ rfl)
 · exact (List.mergeSort_perm _ _).trans (hn.trans ((sel_perm _ _ rfl).map _).symm)
end Go.Proofs.YtkcjigelenofhaaGreatDoor
namespace Go.Proofs.YtkcjigelenofhaaGreatDoor
open Go.RowKit
set_option maxRecDepth 20000 in
set_option maxHeartbeats 2000000 in
theorem sFind (a : Option Addr) (n cap : Nat) (o : Nat → Hp) (x : ByteArray) (hl : n ≤ 1048576) (w : World) (h : Hps w a n cap o) :
 Calls Tryz.prog 90 #[.slice a n cap, .string x] w fun e w' => e = .returned (.int .i64 (fndV o x n)) ∧ w' = w := by
 have HH := hid h.2
 clear h
 go_enter Tryz.func90, Tryz.ntmps90
 go_wp2_with fail
 go_loopw [5] (fun v wr => ∃ k : Nat, k ≤ n ∧ v = .int .i64 (k : Int) ∧ (∀ i, i < k → (o i).nm ≠ x) ∧ wr = w) (fun v _ => n - (intOf v).toNat)
 case atStart => exact ⟨0, Nat.zero_le _, rfl, fun i hi => absurd hi (Nat.not_lt_zero _), rfl⟩
 case round =>
  obtain ⟨k, hk, rfl, hr, rfl⟩ := hrel
  have HR := hid hr
  clear hr
  by_cases hlt : k < n
  · have d3 : (k : Int) < (n : Int) := by omega
    have k0 : (0 : Int) ≤ (k : Int) := by omega
    rcases HH.out with q0 | ⟨b, off, rfl, hbl, hc⟩
    · omega
    have c0 := (hc k hlt).1
    clear hc
    obtain ⟨y, hy⟩ : ∃ y, (o k).nm = y := ⟨_, rfl⟩
    rw [hy] at c0
    have HY := hid hy
    clear hy
    by_cases e : y = x
    · have b1 : (y.toList == x.toList) = true := (ba_beqE y x).trans (decide_eq_true e)
      have E : Hid (fndV o x n = (k : Int)) := by show _ = _; unfold fndV; rw [fndTo_first hlt HR.out (by rw [HY.out]; exact e)]
      clear e
      go_wp2
      go_ret
      exact ⟨by rw [E.out]; rfl, rfl⟩
    · have b1 : (y.toList == x.toList) = false := (ba_beqE y x).trans (decide_eq_false e)
      have N : Hid (∀ i, i < k + 1 → (o i).nm ≠ x) := fun i hi => by
       by_cases q : i = k
       · rw [q, HY.out]; exact e
       · exact HR.out i (by omega)
      clear e
      go_wp2
      go_roundw
      case rel => exact ⟨k + 1, by omega, by go_num, N.out, trivial⟩
      case measure => simp [intOf]; omega
  · have d3 : ¬ (k : Int) < (n : Int) := by omega
    have E : Hid (fndV o x n = -1) := by show _ = _; unfold fndV; rw [fndTo_none.2 fun i hi => HR.out i (by omega)]
    go_wp2
    go_ret
    exact ⟨by rw [E.out]; rfl, rfl⟩
end Go.Proofs.YtkcjigelenofhaaGreatDoor
namespace Go.Proofs.YtkcjigelenofhaaGreatDoor
open Go.RowKit
theorem Tryz.infoHpC : (Tryz.prog.info? 66).map (fun i => (i.zero, i.size, i.bytes)) = some (some hz2, 2, 32) := by kernel_rfl
theorem row_of_below {W w' : World} {b : Nat} {t : TypeId} {c : Array Value} (h : RowAt W b t c) (hb : Below W.heap.size W w') : RowAt w' b t c := h.below hb h.lt
theorem below_own {W w w' : World} {base : Nat} {v : Value} {L : List Hp} (hB : Below W.heap.size W w) (hO : OwnHp w base v L) (hb : W.heap.size ≤ base) (hg : w.grownBy w' v.ownBlock) : Below W.heap.size W w' :=
 hB.grown hg hB.size fun k hk => Nat.le_trans hb (World.ownsRow.lt hO k hk).1
theorem hAt_take (L : List Hp) (b k : Nat) (h : k < b) : hAt (L.take b) k = hAt L k := by
 unfold hAt
 rw [List.getD_eq_getElem?_getD, List.getD_eq_getElem?_getD, List.getElem?_take, if_pos h]
theorem hAt_drop (L : List Hp) (b k : Nat) : hAt (L.drop b) k = hAt L (b + k) := by
 unfold hAt
 rw [List.getD_eq_getElem?_getD, List.getD_eq_getElem?_getD, List.getElem?_drop]
theorem bstTo_next (o : Nat → Hp) (k : Nat) (h : 0 < k) : bstTo o (k + 1) = if nLt (o k).nm (o (bstTo o k)).nm then k else bstTo o k := by
 conv => lhs; unfold bstTo
 rw [if_neg (by omega)]
set_option maxRecDepth 20000 in
set_option maxHeartbeats 8000000 in
theorem sCanon (mt pt : ByteArray) (qb qo n1 c1 : Nat) (o1 : Nat → Hp) (a2 : Option Addr) (n2 c2 : Nat) (o2 : Nat → Hp) (bd : ByteArray) (hr : rqP ⟨mt, pt, ⟨some ⟨qb, qo, none⟩, n1, c1, o1⟩, ⟨a2, n2, c2, o2⟩, bd⟩) (at' : Option Addr) (m mc : Nat) (ts : Nat → ByteArray) (hm : m ≤ 30) (hts : ∀ i, i < m → (ts i).size ≤ 1048576) (w : World) (h : RqIn w ⟨mt, pt, ⟨some ⟨qb, qo, none⟩, n1, c1, o1⟩, ⟨a2, n2, c2, o2⟩, bd⟩) (hS : Strs w at' m mc ts) :
 Calls Tryz.prog 91 #[.agg #[.string mt, .string pt, .slice (some ⟨qb, qo, none⟩) n1 c1, .slice a2 n2 c2, .string bd], .slice at' m mc] w fun e w' => e = .returned (.string (ofL (canL ⟨mt, pt, ⟨some ⟨qb, qo, none⟩, n1, c1, o1⟩, ⟨a2, n2, c2, o2⟩, bd⟩ ts m))) ∧ Below w.heap.size w w' := by
 have hmt := hr.1.2.1
 have hp : pt.size ≤ 1000 := hr.2.1.2.1
 have q1 := hr.2.2.1.1
 have q2 := hr.2.2.2.1.1
 have hbd := hr.2.2.2.2.1
 have SQ := hid hr.2.2.2.2.2.1
 have SH := hid hr.2.2.2.2.2.2
 dsimp only at hmt q1 q2 hbd SQ SH
 have J := Jn.box w 25 #[.string mt, .string pt, .slice (some ⟨qb, qo, none⟩) n1 c1, .slice a2 n2 c2, .string bd]
 have HQ := hid h.qs
 have HN := hid h.hs
 dsimp only at HQ HN
 have HS := hid hS
 have HTS := hid hts
 clear h hr hS hts
 obtain ⟨W0, hW0⟩ : ∃ W, W = w.alloc (.cells #[.string mt, .string pt, .slice (some ⟨qb, qo, none⟩) n1 c1, .slice a2 n2 c2, .string bd] 25) := ⟨_, rfl⟩
 rw [← hW0] at J
 have G0 : Hid (w.heap.size < W0.heap.size) := J.out.1.lt
 have K0 := fun wx => hid (sEscT pt (by omega) wx)
 have l0 : (ofL (escV pt)).size ≤ 3000 := by rw [ofL_size]; have := escV_len pt; omega
 have EE : Hid ((mt ++ ⟨#[10]⟩ ++ ofL (escV pt) ++ ⟨#[10]⟩).data.toList = mt.data.toList ++ [10] ++ escV pt ++ [10]) := by show _ = _; rw [ba_app, ba_app, ba_app, ofL_l]
 obtain ⟨E0, hE0⟩ : ∃ E, E = ofL (escV pt) := ⟨_, rfl⟩
 rw [← hE0] at K0 l0 EE
 clear hE0
 have S0 : Hid ((mt ++ ⟨#[10]⟩ ++ E0 ++ ⟨#[10]⟩).size ≤ 3100) := by show _ ≤ _; rw [sizeApp, sizeApp, sizeApp]; show mt.size + 1 + _ + 1 ≤ _; omega
 have z0 : ¬ 9223372036854775807 < mt.size + 1 := by omega
 have z1 : ¬ 9223372036854775807 < mt.size + 1 + E0.size := by omega
 have z2 : ¬ 9223372036854775807 < mt.size + 1 + E0.size + 1 := by omega
 have sb := sumL_bd bd.data.toList (3 % 2147483647 + 1) (by decide) (by decide)
 have eS : sumOf bd 3 = sumL (3 % 2147483647 + 1) bd.data.toList := by unfold sumOf; rw [if_neg (by omega)]
 rw [← eS] at sb
 have DL := dec_len (sumOf bd 3).toNat (by omega)
 have D0 := fun wx => hid (sDecI (sumOf bd 3) (sumOf bd 3).toNat (by omega) (by omega) wx)
 have D1 := fun wx => hid (ssum_all bd 3 (by decide) (by omega) wx)
 obtain ⟨SV, hSV⟩ : ∃ E, E = sumOf bd 3 := ⟨_, rfl⟩
 rw [← hSV] at D0 D1 DL
 obtain ⟨DD, hDD⟩ : ∃ E, E = ofL (Lib.decDigits SV.toNat) := ⟨_, rfl⟩
 rw [← hDD] at DL D0
 have HDD : Hid (DD.data.toList = Lib.decDigits SV.toNat) := by show _ = _; rw [hDD, ofL_l]
 clear hDD eS sb
 have FIN : Hid (∀ T : ByteArray, T.data.toList = mt.data.toList ++ [10] ++ escV pt ++ [10] ++ canQ (selL n1 (hpList o1 n1)) ++ [10] ++ sgL o2 n2 ts m → T ++ DD = ofL (canL ⟨mt, pt, ⟨some ⟨qb, qo, none⟩, n1, c1, o1⟩, ⟨a2, n2, c2, o2⟩, bd⟩ ts m)) := fun T hT => ofL_of (by rw [ba_app, hT, HDD.out, hSV]; rfl)
 obtain ⟨HB, hHB⟩ : ∃ E, E = ofL (canL ⟨mt, pt, ⟨some ⟨qb, qo, none⟩, n1, c1, o1⟩, ⟨a2, n2, c2, o2⟩, bd⟩ ts m) := ⟨_, rfl⟩
 rw [← hHB] at FIN
 rw [← hHB]
 clear hHB HDD hSV
 have x2 : W0.cell? ⟨w.heap.size, 2, none⟩ = some (.slice (some ⟨qb, qo, none⟩) n1 c1) := J.out.1.cell 2
 have QC : Hid (∀ k, k < n1 → W0.cell? ⟨qb, qo + k * 2, none⟩ = some (.string (hAt (hpList o1 n1) k).nm) ∧ W0.cell? ⟨qb, qo + k * 2 + 1, none⟩ = some (.string (hAt (hpList o1 n1) k).vl)) := fun k hk => by
  rcases (HQ.out.below J.out.2).2 with q0 | ⟨b, off, e, hbl, hc⟩
  · omega
  · cases e
    rw [hAt_list o1 n1 k hk]
    exact hc k hk
 have QC1 : Hid (∀ k, k < n1 → (W0.alloc (.cells #[] 66)).cell? ⟨qb, qo + k * 2, none⟩ = some (.string (hAt (hpList o1 n1) k).nm) ∧ (W0.alloc (.cells #[] 66)).cell? ⟨qb, qo + k * 2 + 1, none⟩ = some (.string (hAt (hpList o1 n1) k).vl)) := fun k hk => by
  have hb : Below W0.heap.size W0 (W0.alloc (.cells #[] 66)) := (Below.refl _ _).alloc (Nat.le_refl _) _
  have hl : qb < W0.heap.size := by
   rcases (HQ.out.below J.out.2).2 with q0 | ⟨b, off, e, hbl, hc⟩
   · omega
   · cases e; exact hbl
  exact ⟨(hb.cell (p := ⟨qb, _, none⟩) hl).trans (QC.out k hk).1, (hb.cell (p := ⟨qb, _, none⟩) hl).trans (QC.out k hk).2⟩
 clear QC
 have x2a : (W0.alloc (.cells #[] 66)).cell? ⟨w.heap.size, 2, none⟩ = some (.slice (some ⟨qb, qo, none⟩) n1 c1) := (J.out.1.alloc _).cell 2
 have BA : Hid (Below W0.heap.size W0 (W0.alloc (.cells #[] 66))) := (Below.refl _ _).alloc (Nat.le_refl _) _
 go_enter Tryz.func91, Tryz.ntmps91
 go_upto_region 1 with fail
 rw [← hW0]
 clear hW0
 go_upto_region 2 with (first | (at_builtin; refine append_hps W0.heap.size _ rfl (.tmp 14) (.tmp 16) 23 rfl Tryz.underlying23 Tryz.infoHpC _ [] rfl (OwnHp.empty W0) (by simp) qb qo n1 c1 (hpList o1 n1) rfl (hpList_len _ _) QC1.out (by simp; omega) ?_) | go_in)
 intro v1 w1 hO1 hg1
 have B1 := hid (below_own BA.out (OwnHp.empty W0) (Nat.le_refl _) hg1)
 have O1 := hid hO1
 have JW := J
 replace J : Hid (Jn W0 w1 w.heap.size 25 #[.string mt, .string pt, .slice (some ⟨qb, qo, none⟩) n1 c1, .slice a2 n2 c2, .string bd]) := ⟨row_of_below J.out.1 B1.out, B1.out⟩
 clear hO1 hg1 x2 x2a QC1 BA B1
 have y0 : w1.cell? ⟨w.heap.size, 0, none⟩ = some (.string mt) := J.out.1.cell 0
 have y1 : w1.cell? ⟨w.heap.size, 1, none⟩ = some (.string pt) := J.out.1.cell 1
 go_upto_region 2 with fail
 go_region_held3 (fun wx => wx.cell? ⟨w.heap.size, 0, none⟩ = some (.string mt) ∧ wx.cell? ⟨w.heap.size, 1, none⟩ = some (.string pt))
  (first | with_reducible exact ⟨y0, y1⟩ | exact ⟨J.out.1.cell 0, J.out.1.cell 1⟩)
  ((go_at_call_of 117 (Value.string pt); refine (K0 _).out.mono ?_; rintro e w2 ⟨rfl, hb2⟩; (first | replace J := Jn.next hb2 J | replace J := Jn.next hb2 (Jn.drew J)); replace O1 := hid (OwnHp.next hb2 O1.out); replace y0 := J.out.1.cell 0; replace y1 := J.out.1.cell 1; clear hb2))
 clear y0 y1 z0 z1 z2 K0
 go_wp2_with fail
 generalize mt ++ ⟨#[10]⟩ ++ E0 ++ ⟨#[10]⟩ = T0 at EE S0 ⊢
 clear l0
 obtain ⟨PRE, hPRE⟩ : ∃ P, P = mt.data.toList ++ [10] ++ escV pt ++ [10] := ⟨_, rfl⟩
 rw [← hPRE] at FIN EE
 clear hPRE
 obtain ⟨SL, hSL⟩ : ∃ S, S = selL n1 (hpList o1 n1) := ⟨_, rfl⟩
 rw [← hSL] at FIN
 have HL0 : Hid (hpList o1 n1 = hpList o1 n1 ∧ (hpList o1 n1).length = n1 ∧ ∀ p, p ∈ hpList o1 n1 → qyP p) := ⟨rfl, hpList_len _ _, fun p hp => by
  unfold hpList at hp
  obtain ⟨i, hi, rfl⟩ := List.mem_map.1 hp
  exact SQ.out i (List.mem_range.1 hi)⟩
 have HSL := hid hSL
 clear hSL SQ HQ
 go_loopw [5, 6, 7] (fun v t i wr => ∃ (L done : List Hp) (T : ByteArray), OwnHp wr W0.heap.size v L ∧ t = .string T ∧ i = .int .i64 (done.length : Int) ∧ done ++ selL L.length L = SL ∧ done.length + L.length = n1 ∧ (∀ p, p ∈ L → qyP p) ∧ T.data.toList = PRE ++ canQ done ∧ T.size ≤ 3100 + done.length * 3302 ∧ Jn W0 wr w.heap.size 25 #[.string mt, .string pt, .slice (some ⟨qb, qo, none⟩) n1 c1, .slice a2 n2 c2, .string bd]) (fun _ _ i _ => n1 - (intOf i).toNat)
 case atStart => exact ⟨hpList o1 n1, [], T0, O1.out, rfl, rfl, by rw [HL0.out.2.1, HSL.out]; rfl, by rw [HL0.out.2.1]; simp, HL0.out.2.2, by rw [EE.out]; simp [canQ, Lib.join], by have := S0.out; simp; omega, J.out⟩
 case round =>
  obtain ⟨L, done, T, hO, rfl, rfl, hsel, hlen, hqy, hT, hTs, hJ⟩ := hrel
  clear O1 HL0 HSL J EE S0
  have O := hid hO
  have HSEL := hid hsel
  have HQY := hid hqy
  have HT := hid hT
  have J := hid hJ
  clear hO hsel hqy hT hJ
  obtain ⟨dl, hdl⟩ : ∃ d, d = done.length := ⟨_, rfl⟩
  obtain ⟨n, hn⟩ : ∃ d, d = L.length := ⟨_, rfl⟩
  rw [← hdl, ← hn] at hlen
  rw [← hdl] at hTs ⊢
  rw [← hn] at HSEL
  by_cases h0 : 0 < n
  · obtain ⟨g, cap, rfl, hgb, hgl, hcap, hc⟩ := O.out.shape (by omega)
    rw [← hn] at hc hcap ⊢
    have HC := hid hc
    have HDL := hid hdl
    have HNN := hid hn
    clear hdl hn hc
    have d0 : (0 : Int) < (n : Int) := by omega
    go_wp2_with fail
    go_loopw [8, 9] (fun bv iv wr2 => ∃ (i j : Nat), 1 ≤ i ∧ i ≤ n ∧ iv = .int .i64 (i : Int) ∧ bv = .int .i64 (j : Int) ∧ j = bstTo (hAt L) i ∧ ∃ d, wr2 = wr.drewN d) (fun _ iv _ => n - (intOf iv).toNat)
    case atStart => exact ⟨1, 0, by omega, by omega, rfl, rfl, rfl, 0, rfl⟩
    case round =>
     obtain ⟨i, j, hi1, hi2, rfl, rfl, hj, d, rfl⟩ := hrel
     have hjl : j < i := by rw [hj]; exact bstTo_lt _ _ (by omega)
     have HJ := hid hj
     clear hj
     by_cases hlt : i < n
     · have d1 : (i : Int) < (n : Int) := by omega
       have i0 : (0 : Int) ≤ (i : Int) := by omega
       have j0 : (0 : Int) ≤ (j : Int) := by omega
       have j1 : (j : Int) < (n : Int) := by omega
       have u0 := (HC.out i hlt).1
       have u1 := (HC.out j (by omega)).1
       have BN := hid (bstTo_next (hAt L) i (by omega))
       rw [← HJ.out] at BN
       obtain ⟨x, hx⟩ : ∃ x, (hAt L i).nm = x := ⟨_, rfl⟩
       obtain ⟨y, hy⟩ : ∃ y, (hAt L j).nm = y := ⟨_, rfl⟩
       rw [hx] at u0 BN
       rw [hy] at u1 BN
       clear hx hy
       cases hb : Op.bytesLess x.toList y.toList with
       | true =>
        rw [show nLt x y = true from hb] at BN
        rw [if_pos rfl] at BN
        go_wp2_with fail
        go_quiet (fail)
        go_wp2
        go_roundw
        case rel => exact ⟨i + 1, i, by omega, by omega, by go_num, rfl, BN.out.symm, _, rfl⟩
        case measure => simp [intOf]; omega
       | false =>
        rw [show nLt x y = false from hb] at BN
        rw [if_neg (by decide)] at BN
        go_wp2_with fail
        go_quiet (fail)
        go_wp2
        go_roundw
        case rel => exact ⟨i + 1, j, by omega, by omega, by go_num, rfl, BN.out.symm, _, rfl⟩
        case measure => simp [intOf]; omega
     · have d1 : ¬ (i : Int) < (n : Int) := by omega
       have ei : i = n := by omega
       have HJN : Hid (j = bstTo (hAt L) n) := by show _ = _; rw [← ei]; exact HJ.out
       clear ei HJ
       have j0 : (0 : Int) ≤ (j : Int) := by omega
       have j1 : (j : Int) < (n : Int) := by omega
       have hjn : j < n := by omega
       have u0 := (HC.out j hjn).1
       have u1 := (HC.out j hjn).2
       have st := HQY.out _ (hAt_mem (L := L) (i := j) (by rw [← HNN.out]; exact hjn))
       have PL := prL_len st
       have s0 := st.2.1
       have s1 := st.2.2
       have SEL1 : Hid (selL n L = hAt L j :: selL (n - 1) (lessOne L j)) := by
        show _ = _
        obtain ⟨n', rfl⟩ : ∃ n', n = n' + 1 := ⟨n - 1, by omega⟩
        show hAt L (bstTo (hAt L) L.length) :: selL n' (lessOne L (bstTo (hAt L) L.length)) = _
        rw [← HNN.out, ← HJN.out]
        rfl
       obtain ⟨Y, hY⟩ : ∃ Y, hAt L j = Y := ⟨_, rfl⟩
       rw [hY] at u0 u1 s0 s1 PL SEL1
       clear hY st
       have P1 : Hid (∀ wx, Calls Tryz.prog 118 #[.agg #[.string Y.nm, .string Y.vl]] wx fun e w' => e = .returned (.string (ofL (prL Y))) ∧ Below wx.heap.size wx w') := fun wx => sPair Y.nm Y.vl (by omega) s1 wx
       have HP : Hid ((ofL (prL Y)).data.toList = prL Y) := ofL_l _
       rw [← ofL_size] at PL
       obtain ⟨PB, hPB⟩ : ∃ E, E = ofL (prL Y) := ⟨_, rfl⟩
       rw [← hPB] at P1 PL HP
       clear hPB
       obtain ⟨x, hx⟩ : ∃ x, x = Y.nm := ⟨_, rfl⟩
       obtain ⟨y, hy⟩ : ∃ x, x = Y.vl := ⟨_, rfl⟩
       rw [← hx] at u0 P1
       rw [← hy] at u1 P1
       clear hx hy
       have DN1 : Hid ((done ++ [Y]).length = dl + 1) := by show _ = _; rw [List.length_append, ← HDL.out]; rfl
       have LO : Hid ((lessOne L j).length = n - 1) := by show _ = _; rw [lessOne_len L j (by rw [← HNN.out]; exact hjn), ← HNN.out]
       have NS : Hid ((done ++ [Y]) ++ selL (lessOne L j).length (lessOne L j) = SL) := by
        show _ = _
        rw [LO.out, ← HSEL.out, SEL1.out]
        simp
       have NQ : Hid (∀ p, p ∈ lessOne L j → qyP p) := fun p hp => HQY.out p (mem_lessOne hp)
       clear s0 s1 SEL1 HSEL HQY
       by_cases dz : dl = 0
       · have dz1 : ¬ (0 : Int) < (dl : Int) := by omega
         have dn : Hid (done = []) := List.eq_nil_of_length_eq_zero (by rw [← HDL.out]; exact dz)
         clear dz
         have z3 : ¬ 9223372036854775807 < T.size + PB.size := by omega
         have NT : Hid ((T ++ PB).data.toList = PRE ++ canQ (done ++ [Y]) ∧ (T ++ PB).size ≤ 3100 + (dl + 1) * 3302) := ⟨by rw [ba_app, HT.out, HP.out, dn.out, List.nil_append, canQ_one]; simp [canQ, Lib.join], by rw [sizeApp]; omega⟩
         go_wp2_with fail
         refine (P1.out _).mono ?_
         rintro e w5 ⟨rfl, hb5⟩
         have C5 : Hid (∀ i, i < n → w5.cell? ⟨g, i * 2, none⟩ = some (.string (hAt L i).nm) ∧ w5.cell? ⟨g, i * 2 + 1, none⟩ = some (.string (hAt L i).vl)) := fun i hi => ⟨(hb5.cell (p := ⟨g, _, none⟩) hgl).trans (HC.out i hi).1, (hb5.cell (p := ⟨g, _, none⟩) hgl).trans (HC.out i hi).2⟩
         have J5 := Jn.next hb5 (Jn.drewN J d)
         have g5 : g < w5.heap.size := Nat.lt_of_lt_of_le hgl hb5.size
         clear hb5 u0 u1 O HC J
         have BE : Hid (Below w5.heap.size w5 (w5.alloc (.cells #[] 66))) := (Below.refl _ _).alloc (Nat.le_refl _) _
         have C6 : Hid (∀ k, k < j → (w5.alloc (.cells #[] 66)).cell? ⟨g, 0 + k * 2, none⟩ = some (.string (hAt (L.take j) k).nm) ∧ (w5.alloc (.cells #[] 66)).cell? ⟨g, 0 + k * 2 + 1, none⟩ = some (.string (hAt (L.take j) k).vl)) := fun k hk => by
          rw [hAt_take L j k hk, Nat.zero_add]
          exact ⟨(BE.out.cell (p := ⟨g, _, none⟩) g5).trans (C5.out k (by omega)).1, (BE.out.cell (p := ⟨g, _, none⟩) g5).trans (C5.out k (by omega)).2⟩
         have TL : Hid ((L.take j).length = j) := by show _ = _; rw [List.length_take, ← HNN.out]; omega
         have hjc : (j : Int) ≤ (cap : Int) := by omega
         go_upto_region 16 with (first | (at_builtin; refine append_hps w5.heap.size _ rfl (.tmp 60) (.tmp 63) 23 rfl Tryz.underlying23 Tryz.infoHpC _ [] rfl (OwnHp.empty w5) (by simp) g 0 j cap (L.take j) rfl TL.out C6.out (by simp; omega) ?_) | go_in)
         intro v6 w6 hO6 hg6
         have B6 := hid (below_own BE.out (OwnHp.empty w5) (Nat.le_refl _) hg6)
         try rw [List.nil_append] at hO6
         have O6 := hid hO6
         have C7 : Hid (∀ i, i < n → w6.cell? ⟨g, i * 2, none⟩ = some (.string (hAt L i).nm) ∧ w6.cell? ⟨g, i * 2 + 1, none⟩ = some (.string (hAt L i).vl)) := fun i hi => ⟨(B6.out.cell (p := ⟨g, _, none⟩) g5).trans (C5.out i hi).1, (B6.out.cell (p := ⟨g, _, none⟩) g5).trans (C5.out i hi).2⟩
         clear hO6 hg6 BE C6 C5
         have j2 : (j : Int) + 1 ≤ (n : Int) := by omega
         have j3 : (j : Int) + 1 ≤ (cap : Int) := by omega
         have j4 : (n : Int) ≤ (cap : Int) := by omega
         have DLn : Hid ((L.drop (j + 1)).length = n - (j + 1)) := by show _ = _; rw [List.length_drop, ← HNN.out]
         by_cases ec : cap = j + 1
         · have en : n = j + 1 := by omega
           have C8 : Hid (∀ k, k < n - (j + 1) → w6.cell? ⟨g, 0 + k * 2, none⟩ = some (.string (hAt (L.drop (j + 1)) k).nm) ∧ w6.cell? ⟨g, 0 + k * 2 + 1, none⟩ = some (.string (hAt (L.drop (j + 1)) k).vl)) := fun k hk => absurd hk (by omega)
           have ecb : (cap = j + 1) = True := by simp [ec]
           clear en ec
           go_wp2_with (first | (at_builtin; refine append_hps w5.heap.size w6 rfl (.tmp 65) (.tmp 69) 23 rfl Tryz.underlying23 Tryz.infoHpC v6 (L.take j) rfl O6.out B6.out.size g 0 (n - (j + 1)) (cap - (j + 1)) (L.drop (j + 1)) rfl DLn.out C8.out (by rw [TL.out]; omega) ?_) | go_in)
           intro v7 w7 hO7 hg7
           have B7 := hid (below_own B6.out O6.out (Nat.le_refl _) hg7)
           have J7 := Jn.next B7.out J5
           have O7 := hid (hO7.mono J5.out.2.size)
           clear hO7 hg7
           go_wp2
           go_roundw
           case rel => exact ⟨lessOne L j, done ++ [Y], _, O7.out, rfl, by rw [DN1.out]; go_num, NS.out, by rw [DN1.out, LO.out]; omega, NQ.out, NT.out.1, by rw [DN1.out]; exact NT.out.2, J7.out⟩
           case measure => simp [intOf]; omega
         · have C8 : Hid (∀ k, k < n - (j + 1) → w6.cell? ⟨g, (j + 1) * 2 + k * 2, none⟩ = some (.string (hAt (L.drop (j + 1)) k).nm) ∧ w6.cell? ⟨g, (j + 1) * 2 + k * 2 + 1, none⟩ = some (.string (hAt (L.drop (j + 1)) k).vl)) := fun k hk => by
            rw [hAt_drop, show (j + 1) * 2 + k * 2 = (j + 1 + k) * 2 by omega]
            exact C7.out _ (by omega)
           go_wp2_with (first | (at_builtin; refine append_hps w5.heap.size w6 rfl (.tmp 65) (.tmp 69) 23 rfl Tryz.underlying23 Tryz.infoHpC v6 (L.take j) rfl O6.out B6.out.size g ((j + 1) * 2) (n - (j + 1)) (cap - (j + 1)) (L.drop (j + 1)) rfl DLn.out C8.out (by rw [TL.out]; omega) ?_) | go_in)
           intro v7 w7 hO7 hg7
           have B7 := hid (below_own B6.out O6.out (Nat.le_refl _) hg7)
           have J7 := Jn.next B7.out J5
           have O7 := hid (hO7.mono J5.out.2.size)
           clear hO7 hg7
           go_wp2
           go_roundw
           case rel => exact ⟨lessOne L j, done ++ [Y], _, O7.out, rfl, by rw [DN1.out]; go_num, NS.out, by rw [DN1.out, LO.out]; omega, NQ.out, NT.out.1, by rw [DN1.out]; exact NT.out.2, J7.out⟩
           case measure => simp [intOf]; omega
       · have dz1 : (0 : Int) < (dl : Int) := by omega
         have z4 : ¬ 9223372036854775807 < T.size + 1 := by omega
         have dn : Hid (done ≠ []) := fun e => dz (by rw [HDL.out, e]; rfl)
         have z3 : ¬ 9223372036854775807 < T.size + 1 + PB.size := by omega
         have NT : Hid ((T ++ ⟨#[38]⟩ ++ PB).data.toList = PRE ++ canQ (done ++ [Y]) ∧ (T ++ ⟨#[38]⟩ ++ PB).size ≤ 3100 + (dl + 1) * 3302) := ⟨by rw [ba_app, ba_app, HT.out, HP.out, canQ_snoc _ _ dn.out]; simp, by rw [sizeApp, sizeApp]; show T.size + 1 + _ ≤ _; omega⟩
         go_wp2_with fail
         refine (P1.out _).mono ?_
         rintro e w5 ⟨rfl, hb5⟩
         have C5 : Hid (∀ i, i < n → w5.cell? ⟨g, i * 2, none⟩ = some (.string (hAt L i).nm) ∧ w5.cell? ⟨g, i * 2 + 1, none⟩ = some (.string (hAt L i).vl)) := fun i hi => ⟨(hb5.cell (p := ⟨g, _, none⟩) hgl).trans (HC.out i hi).1, (hb5.cell (p := ⟨g, _, none⟩) hgl).trans (HC.out i hi).2⟩
         have J5 := Jn.next hb5 (Jn.drewN J d)
         have g5 : g < w5.heap.size := Nat.lt_of_lt_of_le hgl hb5.size
         clear hb5 u0 u1 O HC J
         have BE : Hid (Below w5.heap.size w5 (w5.alloc (.cells #[] 66))) := (Below.refl _ _).alloc (Nat.le_refl _) _
         have C6 : Hid (∀ k, k < j → (w5.alloc (.cells #[] 66)).cell? ⟨g, 0 + k * 2, none⟩ = some (.string (hAt (L.take j) k).nm) ∧ (w5.alloc (.cells #[] 66)).cell? ⟨g, 0 + k * 2 + 1, none⟩ = some (.string (hAt (L.take j) k).vl)) := fun k hk => by
          rw [hAt_take L j k hk, Nat.zero_add]
          exact ⟨(BE.out.cell (p := ⟨g, _, none⟩) g5).trans (C5.out k (by omega)).1, (BE.out.cell (p := ⟨g, _, none⟩) g5).trans (C5.out k (by omega)).2⟩
         have TL : Hid ((L.take j).length = j) := by show _ = _; rw [List.length_take, ← HNN.out]; omega
         have hjc : (j : Int) ≤ (cap : Int) := by omega
         go_upto_region 16 with (first | (at_builtin; refine append_hps w5.heap.size _ rfl (.tmp 60) (.tmp 63) 23 rfl Tryz.underlying23 Tryz.infoHpC _ [] rfl (OwnHp.empty w5) (by simp) g 0 j cap (L.take j) rfl TL.out C6.out (by simp; omega) ?_) | go_in)
         intro v6 w6 hO6 hg6
         have B6 := hid (below_own BE.out (OwnHp.empty w5) (Nat.le_refl _) hg6)
         try rw [List.nil_append] at hO6
         have O6 := hid hO6
         have C7 : Hid (∀ i, i < n → w6.cell? ⟨g, i * 2, none⟩ = some (.string (hAt L i).nm) ∧ w6.cell? ⟨g, i * 2 + 1, none⟩ = some (.string (hAt L i).vl)) := fun i hi => ⟨(B6.out.cell (p := ⟨g, _, none⟩) g5).trans (C5.out i hi).1, (B6.out.cell (p := ⟨g, _, none⟩) g5).trans (C5.out i hi).2⟩
         clear hO6 hg6 BE C6 C5
         have j2 : (j : Int) + 1 ≤ (n : Int) := by omega
         have j3 : (j : Int) + 1 ≤ (cap : Int) := by omega
         have j4 : (n : Int) ≤ (cap : Int) := by omega
         have DLn : Hid ((L.drop (j + 1)).length = n - (j + 1)) := by show _ = _; rw [List.length_drop, ← HNN.out]
         by_cases ec : cap = j + 1
         · have en : n = j + 1 := by omega
           have C8 : Hid (∀ k, k < n - (j + 1) → w6.cell? ⟨g, 0 + k * 2, none⟩ = some (.string (hAt (L.drop (j + 1)) k).nm) ∧ w6.cell? ⟨g, 0 + k * 2 + 1, none⟩ = some (.string (hAt (L.drop (j + 1)) k).vl)) := fun k hk => absurd hk (by omega)
           have ecb : (cap = j + 1) = True := by simp [ec]
           clear en ec
           go_wp2_with (first | (at_builtin; refine append_hps w5.heap.size w6 rfl (.tmp 65) (.tmp 69) 23 rfl Tryz.underlying23 Tryz.infoHpC v6 (L.take j) rfl O6.out B6.out.size g 0 (n - (j + 1)) (cap - (j + 1)) (L.drop (j + 1)) rfl DLn.out C8.out (by rw [TL.out]; omega) ?_) | go_in)
           intro v7 w7 hO7 hg7
           have B7 := hid (below_own B6.out O6.out (Nat.le_refl _) hg7)
           have J7 := Jn.next B7.out J5
           have O7 := hid (hO7.mono J5.out.2.size)
           clear hO7 hg7
           go_wp2
           go_roundw
           case rel => exact ⟨lessOne L j, done ++ [Y], _, O7.out, rfl, by rw [DN1.out]; go_num, NS.out, by rw [DN1.out, LO.out]; omega, NQ.out, NT.out.1, by rw [DN1.out]; exact NT.out.2, J7.out⟩
           case measure => simp [intOf]; omega
         · have C8 : Hid (∀ k, k < n - (j + 1) → w6.cell? ⟨g, (j + 1) * 2 + k * 2, none⟩ = some (.string (hAt (L.drop (j + 1)) k).nm) ∧ w6.cell? ⟨g, (j + 1) * 2 + k * 2 + 1, none⟩ = some (.string (hAt (L.drop (j + 1)) k).vl)) := fun k hk => by
            rw [hAt_drop, show (j + 1) * 2 + k * 2 = (j + 1 + k) * 2 by omega]
            exact C7.out _ (by omega)
           go_wp2_with (first | (at_builtin; refine append_hps w5.heap.size w6 rfl (.tmp 65) (.tmp 69) 23 rfl Tryz.underlying23 Tryz.infoHpC v6 (L.take j) rfl O6.out B6.out.size g ((j + 1) * 2) (n - (j + 1)) (cap - (j + 1)) (L.drop (j + 1)) rfl DLn.out C8.out (by rw [TL.out]; omega) ?_) | go_in)
           intro v7 w7 hO7 hg7
           have B7 := hid (below_own B6.out O6.out (Nat.le_refl _) hg7)
           have J7 := Jn.next B7.out J5
           have O7 := hid (hO7.mono J5.out.2.size)
           clear hO7 hg7
           go_wp2
           go_roundw
           case rel => exact ⟨lessOne L j, done ++ [Y], _, O7.out, rfl, by rw [DN1.out]; go_num, NS.out, by rw [DN1.out, LO.out]; omega, NQ.out, NT.out.1, by rw [DN1.out]; exact NT.out.2, J7.out⟩
           case measure => simp [intOf]; omega
  · have hz : n = 0 := by omega
    have hL : L = [] := List.eq_nil_of_length_eq_zero (by rw [← hn]; exact hz)
    have DS : Hid (done = SL) := by
     show _ = _
     have := HSEL.out
     rw [hz] at this
     simpa [selL] using this
    obtain ⟨av, ac, rfl⟩ : ∃ a c, u5 = .slice a 0 c := by
     rcases O.out.2 with ⟨h1, _⟩ | ⟨g, cap, cur, h1, _⟩
     · exact ⟨_, _, h1⟩
     · rw [hL] at h1; exact ⟨_, _, h1⟩
    have NT : Hid ((T ++ ⟨#[10]⟩).data.toList = PRE ++ canQ SL ++ [10] ∧ (T ++ ⟨#[10]⟩).size ≤ 103000) := ⟨by rw [ba_app, HT.out, DS.out], by rw [sizeApp]; show T.size + 1 ≤ _; omega⟩
    have z3 : ¬ 9223372036854775807 < T.size + 1 := by omega
    clear HSEL HQY HT DS O hL hn hz
    go_wp2_with fail
    generalize T ++ ⟨#[10]⟩ = T1 at NT ⊢
    clear z3 hTs hdl hlen h0
    go_loopw [6, 11] (fun v i wr => ∃ (k : Nat) (T : ByteArray), k ≤ m ∧ i = .int .i64 (k : Int) ∧ v = .string T ∧ T.data.toList = PRE ++ canQ SL ++ [10] ++ sgL o2 n2 ts k ∧ T.size ≤ 103000 + k * 1050000 ∧ Jn W0 wr w.heap.size 25 #[.string mt, .string pt, .slice (some ⟨qb, qo, none⟩) n1 c1, .slice a2 n2 c2, .string bd]) (fun _ i _ => m - (intOf i).toNat)
    case atStart => exact ⟨0, T1, Nat.zero_le _, rfl, rfl, by rw [NT.out.1]; simp [sgL], by have := NT.out.2; omega, J.out⟩
    case round =>
     obtain ⟨k, T, hk, rfl, rfl, hT, hTs, hJ⟩ := hrel
     clear NT J
     have HT := hid hT
     have J := hid hJ
     clear hT hJ
     have BW := hid (JW.out.2.trans (J.out.2.mono JW.out.2.size))
     by_cases hlt : k < m
     · have d3 : (k : Int) < (m : Int) := by omega
       have k0 : (0 : Int) ≤ (k : Int) := by omega
       have x3 : wr.cell? ⟨w.heap.size, 3, none⟩ = some (.slice a2 n2 c2) := J.out.1.cell 3
       have HNr := hid (HN.out.below BW.out)
       rcases (HS.out.below BW.out).2 with q0 | ⟨b, off, rfl, hbl, hc⟩
       · omega
       have c0 := hc k hlt
       clear hc
       have tz := HTS.out k hlt
       have SG : Hid (sgL o2 n2 ts (k + 1) = sgL o2 n2 ts k ++ (ts k).data.toList ++ [58] ++ (hvL o2 n2 (ts k)).data.toList ++ [10]) := rfl
       obtain ⟨x, hx⟩ : ∃ x, ts k = x := ⟨_, rfl⟩
       rw [hx] at c0 tz SG
       clear hx
       have FK := fun d => hid (sFind a2 n2 c2 o2 x (by omega) (wr.drewN d) (HNr.out.drewN d))
       cases hf : fndTo o2 x n2 with
       | none =>
        have FV : fndV o2 x n2 = -1 := by unfold fndV; rw [hf]
        have HV : hvL o2 n2 x = ⟨#[]⟩ := by unfold hvL; rw [hf]
        rw [FV] at FK
        rw [HV] at SG
        clear FV HV hf
        have z1 : ¬ 9223372036854775807 < T.size + x.size := by omega
        have z2 : ¬ 9223372036854775807 < T.size + x.size + 1 := by omega
        have z3 : ¬ 9223372036854775807 < T.size + x.size + 1 + 0 := by omega
        have z4 : ¬ 9223372036854775807 < T.size + x.size + 1 + 1 := by omega
        have NX : Hid ((T ++ x ++ ⟨#[58]⟩ ++ ⟨#[]⟩ ++ ⟨#[10]⟩).data.toList = PRE ++ canQ SL ++ [10] ++ sgL o2 n2 ts (k + 1) ∧ (T ++ x ++ ⟨#[58]⟩ ++ ⟨#[]⟩ ++ ⟨#[10]⟩).size ≤ 103000 + (k + 1) * 1050000) := ⟨by rw [ba_app, ba_app, ba_app, ba_app, HT.out, SG.out]; simp, by rw [sizeApp, sizeApp, sizeApp, sizeApp]; show T.size + x.size + 1 + 0 + 1 ≤ _; omega⟩
        clear SG
        go_wp2_with fail
        go_quiet ((go_at_call 90; exact Calls.quiet_of_same (FK _).out))
        have J2 := Jn.drewN J nq
        go_wp2
        go_roundw
        case rel => exact ⟨k + 1, _, by omega, by go_num, rfl, NX.out.1, NX.out.2, J2.out⟩
        case measure => simp [intOf]; omega
       | some i =>
        have FV : fndV o2 x n2 = (i : Int) := by unfold fndV; rw [hf]
        have HV : hvL o2 n2 x = (o2 i).vl := by unfold hvL; rw [hf]
        have hil := (fndTo_some hf).1
        rw [FV] at FK
        rw [HV] at SG
        clear FV HV hf
        have vz := (SH.out i hil).2.1
        rcases HNr.out.2 with q0 | ⟨b2, off2, rfl, hbl2, hc2⟩
        · omega
        have c1 := (hc2 i hil).2
        clear hc2
        obtain ⟨y, hy⟩ : ∃ y, (o2 i).vl = y := ⟨_, rfl⟩
        rw [hy] at c1 vz SG
        clear hy
        have i0 : (0 : Int) ≤ (i : Int) := by omega
        have i1 : (i : Int) < (n2 : Int) := by omega
        have z1 : ¬ 9223372036854775807 < T.size + x.size := by omega
        have z2 : ¬ 9223372036854775807 < T.size + x.size + 1 := by omega
        have z3 : ¬ 9223372036854775807 < T.size + x.size + 1 + y.size := by omega
        have z4 : ¬ 9223372036854775807 < T.size + x.size + 1 + y.size + 1 := by omega
        have NX : Hid ((T ++ x ++ ⟨#[58]⟩ ++ y ++ ⟨#[10]⟩).data.toList = PRE ++ canQ SL ++ [10] ++ sgL o2 n2 ts (k + 1) ∧ (T ++ x ++ ⟨#[58]⟩ ++ y ++ ⟨#[10]⟩).size ≤ 103000 + (k + 1) * 1050000) := ⟨by rw [ba_app, ba_app, ba_app, ba_app, HT.out, SG.out]; simp, by rw [sizeApp, sizeApp, sizeApp, sizeApp]; show T.size + x.size + 1 + y.size + 1 ≤ _; omega⟩
        clear SG
        go_wp2_with fail
        go_quiet ((go_at_call 90; exact Calls.quiet_of_same (FK _).out))
        have J2 := Jn.drewN J nq
        go_wp2
        go_roundw
        case rel => exact ⟨k + 1, _, by omega, by go_num, rfl, NX.out.1, NX.out.2, J2.out⟩
        case measure => simp [intOf]; omega
     · have d3 : ¬ (k : Int) < (m : Int) := by omega
       have ek : k = m := by omega
       have F2 := hid (FIN.out T (by rw [HT.out, ek]))
       clear ek HT
       have x4 : wr.cell? ⟨w.heap.size, 4, none⟩ = some (.string bd) := J.out.1.cell 4
       have z1 : ¬ 9223372036854775807 < T.size + DD.size := by omega
       go_wp2_with fail
       refine (D1 _).out.mono ?_
       rintro e w8 ⟨rfl, hw8⟩
       obtain rfl := hw8.symm
       go_wp2_with fail
       refine (D0 _).out.mono ?_
       rintro e w9 ⟨rfl, hb9⟩
       have B9 := hid (BW.out.trans (hb9.mono BW.out.size))
       clear hb9
       go_wp2
       go_ret
       exact ⟨by rw [← F2.out]; rfl, B9.out⟩
end Go.Proofs.YtkcjigelenofhaaGreatDoor
