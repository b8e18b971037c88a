import Derived.Test.YtkcjigelenofhaaGreatDoorK2
import Derived.Test.YtkcjigelenofhaaGreatDoorSgCk
import Derived.Test.YtkcjigelenofhaaGreatDoorSSign
import Derived.Test.YtkcjigelenofhaaGreatDoorISign
import Derived.Test.YtkcjigelenofhaaGreatDoorCG
import Derived.Test.YtkcjigelenofhaaGreatDoorSX
import Derived.Test.YtkcjigelenofhaaGreatDoorDrawSr
namespace Go.Proofs.YtkcjigelenofhaaGreatDoor
open Go.RowKit
set_option linter.unusedVariables false
theorem nilOr_ownT {w : World} {B : Nat} {a : Option Addr} {n c : Nat} {L : List Hp} (h : OwnHp w B (.slice a n c) L) : NilOr a n c := by
 rcases h.2 with ⟨e, _⟩ | ⟨g, cap, cur, e, _⟩
 · cases e; exact .inl ⟨rfl, rfl, rfl⟩
 · cases e; exact .inr ⟨g, 0, rfl⟩
theorem strs_ownT {w : World} {B : Nat} {a : Option Addr} {c : Nat} {xs : List ByteArray} (h : OwnStrs w B (.slice a xs.length c) xs) : Strs w a xs.length c (tAt xs) := by
 by_cases h0 : 0 < xs.length
 · obtain ⟨g, rfl, _, _, hs⟩ := OwnStrs.strs (ts := tAt xs) h h0 (fun i hi => by unfold tAt; rw [List.getD_eq_getElem?_getD, List.getElem?_eq_getElem hi]; rfl)
   exact hs
 · exact ⟨by omega, .inl (by omega)⟩
theorem tAt_leT {xs : List ByteArray} {B : Nat} (h : ∀ x ∈ xs, x.size ≤ B) (i : Nat) : (tAt xs i).size ≤ B := by
 unfold tAt
 rw [List.getD_eq_getElem?_getD]
 cases e : xs[i]? with
 | none => exact Nat.zero_le _
 | some x => exact h x (List.mem_of_getElem? e)
theorem sg_RqBT {r : Rq} {id sec : ByteArray} {nw ls : Int} {ts : Nat → ByteArray} {m : Nat} (ok : sgOk r id sec nw ls ts m) (a1 : Option Addr) (c1 : Nat) (a2 : Option Addr) (c2 : Nat) : RqB ⟨r.mt, r.pt, ⟨a1, (sgQ2 r id sec nw ls ts m).length, c1, hAt (sgQ2 r id sec nw ls ts m)⟩, ⟨a2, (sgH r).length, c2, hAt (sgH r)⟩, r.bd⟩ 1048576 := by
 obtain ⟨p1, ⟨_, p2, _⟩, p3, p4, p5, p6, p7⟩ := ok.2.2.2
 have l1 : (sgQ2 r id sec nw ls ts m).length ≤ 30 := p3.1
 have l2 : (sgH r).length ≤ 30 := p4.1
 have m1 : r.mt.size ≤ 10 := p1.2.1
 have m2 : r.pt.size ≤ 1000 := by first | exact p2 | exact ok.1.1.2.1.2.1
 have m3 : r.bd.size ≤ 100000 := p5
 refine ⟨by dsimp only; omega, by dsimp only; omega, ⟨by dsimp only; omega, fun i hi => ?_⟩, ⟨by dsimp only; omega, fun i hi => ?_⟩, by dsimp only; omega⟩
 · have := p6 i hi
   exact ⟨Nat.le_trans this.2.1 (by omega), Nat.le_trans this.2.2 (by omega)⟩
 · have := p7 i hi
   exact ⟨Nat.le_trans this.1.2.1 (by omega), Nat.le_trans this.2.1 (by omega)⟩
theorem sum_body {t : ByteArray} {k : Nat} {d : UInt8} (hk : k < t.size) (hd : d ≠ t[k]) (hz : t.size ≤ 100000) : sumOf ⟨(turned t k d).toArray⟩ 3 ≠ sumOf t 3 := by
 have hs : (⟨(turned t k d).toArray⟩ : ByteArray).size = t.size := by show (turned t k d).toArray.size = _; simp [turned]
 unfold sumOf
 rw [hs, if_neg (by omega), if_neg (by omega)]
 have e1 : t.data.toList = t.data.toList.take k ++ t[k] :: t.data.toList.drop (k + 1) := by
  conv => lhs; rw [← List.take_append_drop k t.data.toList, List.drop_eq_getElem_cons (by simpa using hk)]
  rfl
 have e2 : (⟨(turned t k d).toArray⟩ : ByteArray).data.toList = t.data.toList.take k ++ d :: t.data.toList.drop (k + 1) := by
  show (t.data.toList.set k d).toArray.toList = _
  rw [List.toList_toArray, List.set_eq_take_append_cons_drop, if_pos (by simpa using hk)]
 rw [e2]
 conv => rhs; rw [e1]
 exact sum_turned _ _ _ _ _ hd
theorem addZ (g i : Nat) : (⟨g, 0, none⟩ : Addr).add i = ⟨g, i, none⟩ := by unfold Addr.add; split <;> simp_all
theorem baZ {x : ByteArray} (h : x.size = 0) : x = ⟨#[]⟩ := by
 cases x with
 | mk d => congr 1; exact Array.eq_empty_of_size_eq_zero h
set_option maxRecDepth 20000 in
set_option maxHeartbeats 16000000 in
theorem fnTampered_core (w : World) (hv : RdV w) (a : Option Addr) (len cap : Nat) (hc : CodeOk w a len) (hlc : len ≤ cap) (a' : Option Addr) (len' cap' : Nat) (hc' : CodeOk w a' len') (hlc' : len' ≤ cap') :
 Calls Tryz.prog 4 #[.slice a len cap, .slice a' len' cap'] w fun e w' => e = .returned (.bool true) ∧ Below w.heap.size w w' := by
 have d0 : decide ((1048576 : Int) < (len : Int)) = false := decide_eq_false (by have := hc.1; omega)
 have d1 : decide ((1048576 : Int) < (len' : Int)) = false := decide_eq_false (by have := hc'.1; omega)
 have K0 := hid (drawSR_all w a len cap hc hlc)
 obtain ⟨r0, r0b, ka0⟩ := lwAt_det w a' len' cap' 0 hc' (by omega)
 obtain ⟨r1, r1b, ka1⟩ := lwAt_det w a' len' cap' 1 hc' (by omega)
 obtain ⟨r2, r2b, ka2⟩ := lwAt_det w a' len' cap' 2 hc' (by omega)
 obtain ⟨r3, r3b, ka3⟩ := lwAt_det w a' len' cap' 3 hc' (by omega)
 have KA0 := hid ka0
 have KA1 := hid ka1
 have KA2 := hid ka2
 have KA3 := hid ka3
 have HV := hid hv
 clear hc hc' hv ka0 ka1 ka2 ka3
 go_enter Tryz.func4, Tryz.ntmps4
 go_upto_region 3 with fail
 clear d0 d1
 go_wp2_with fail
 refine K0.out.mono ?_
 rintro e w1 ⟨mt, pt0, bd, id, sec, Q, H, a1, c1, a2, c2, B1, B2, BS, vS, xs, nw, ls, rfl, ⟨z1, z2, z3, z4, z5, z6, z7⟩, hOQ, hOH, hOS, ⟨hi, hsec, hxl, hxs⟩, ⟨nw1, nw2, ls1, ls2⟩, hb1⟩
 clear K0
 obtain ⟨tA, tc, rfl⟩ := hOS.slice
 obtain ⟨pt, hpt⟩ : ∃ p, p = (⟨#[47, 98, 117, 99, 107, 101, 116, 47]⟩ : ByteArray) ++ mt := ⟨_, rfl⟩
 have hpz1 : pt.size ≤ 8 + mt.size := by rw [hpt, ByteArray.size_append]; exact Nat.le_refl _
 have hpz2 : 8 + mt.size ≤ pt.size := by rw [hpt, ByteArray.size_append]; exact Nat.le_refl _
 have RB : Hid (RqB ⟨mt, pt, ⟨a1, Q.length, c1, hAt Q⟩, ⟨a2, H.length, c2, hAt H⟩, bd⟩ 1048576) := ⟨by show mt.size ≤ _; omega, by show pt.size ≤ _; omega, ⟨by show Q.length ≤ _; omega, fun i hi => by have := z6 _ (hAt_mem (L := Q) (i := i) hi); show (hAt Q i).nm.size ≤ _ ∧ (hAt Q i).vl.size ≤ _; omega⟩, ⟨by show H.length ≤ _; omega, fun i hi => by have := z7 _ (hAt_mem (L := H) (i := i) hi); show (hAt H i).nm.size ≤ _ ∧ (hAt H i).vl.size ≤ _; omega⟩, by show bd.size ≤ _; omega⟩
 have IN1 : Hid (RqIn w1 ⟨mt, pt, ⟨a1, Q.length, c1, hAt Q⟩, ⟨a2, H.length, c2, hAt H⟩, bd⟩) := ⟨hps_own hOQ rfl, hps_own hOH rfl⟩
 have ST1 : Hid (Strs w1 tA xs.length tc (tAt xs)) := strs_ownT hOS
 have N1 := hid (nilOr_ownT hOQ)
 have N2 := hid (nilOr_ownT hOH)
 have TS : Hid (∀ i, (tAt xs i).size ≤ 2000) := tAt_leT hxs
 have mz : mt.size ≤ 1048576 := by omega
 have bz : bd.size ≤ 1048576 := by omega
 clear hOQ hOH hOS hxs z1 z2 z3 z4 z5 z6 z7
 have R3 : RowAt ((w1.alloc (.cells #[.string ⟨#[]⟩, .string ⟨#[]⟩, .slice none 0 0, .slice none 0 0, .string ⟨#[]⟩] 25)).alloc (.cells #[.string ⟨#[]⟩, .string ⟨#[]⟩] 27)) w1.heap.size 25 #[.string ⟨#[]⟩, .string ⟨#[]⟩, .slice none 0 0, .slice none 0 0, .string ⟨#[]⟩] := (RowAt.new _ _ _).alloc _
 have R4 : RowAt ((w1.alloc (.cells #[.string ⟨#[]⟩, .string ⟨#[]⟩, .slice none 0 0, .slice none 0 0, .string ⟨#[]⟩] 25)).alloc (.cells #[.string ⟨#[]⟩, .string ⟨#[]⟩] 27)) (w1.heap.size + 1) 27 #[.string ⟨#[]⟩, .string ⟨#[]⟩] := RowAt.next _ _ _ (by simp only [size_al])
 have H3 := hid R3
 have H4 := hid R4
 obtain ⟨W2, hW2⟩ : ∃ W, W = (((w1.alloc (.cells #[.string ⟨#[]⟩, .string ⟨#[]⟩, .slice none 0 0, .slice none 0 0, .string ⟨#[]⟩] 25)).alloc (.cells #[.string ⟨#[]⟩, .string ⟨#[]⟩] 27)).setRow w1.heap.size #[.string mt, .string pt0, .slice a1 Q.length c1, .slice a2 H.length c2, .string bd]).setRow (w1.heap.size + 1) #[.string id, .string sec] := ⟨_, rfl⟩
 have s1 : w.heap.size ≤ w1.heap.size := hb1.size
 have L2 : Hid (Below w1.heap.size w1 W2) := by
  rw [hW2]
  exact below_setRow (below_setRow (((Below.refl _ _).alloc (Nat.le_refl _) _).alloc (by simp) _) _ _ (Nat.le_refl _)) _ _ (by omega)
 have X3 : Hid (RowAt W2 w1.heap.size 25 #[.string mt, .string pt0, .slice a1 Q.length c1, .slice a2 H.length c2, .string bd]) := by rw [hW2]; exact (R3.setRow _).otherRow _ _ (by omega)
 have X4 : Hid (RowAt W2 (w1.heap.size + 1) 27 #[.string id, .string sec]) := by rw [hW2]; exact (R4.otherRow _ _ (by omega)).setRow _
 have B2' := hid (hb1.trans (L2.out.mono hb1.size))
 have HB1 := hid hb1
 have HW2 := hid hW2
 clear hW2 R3 R4 hb1
 go_upto_region 4 with (first | (refine wpList_store_row rfl 25 (.tmp 5) (.tmp 27) rfl w1.heap.size #[.string mt, .string pt0, .slice a1 Q.length c1, .slice a2 H.length c2, .string bd] rfl rfl _ _ H3.out (by kernel_rfl) rfl (by simp [Value.oneCell']) ?_) | (refine wpList_store_row rfl 27 (.tmp 6) (.tmp 28) rfl (w1.heap.size + 1) #[.string id, .string sec] rfl rfl _ _ (H4.out.otherRow _ _ (by omega)) (by kernel_rfl) rfl (by simp [Value.oneCell']) ?_))
 rw [← HW2.out]
 clear HW2 H3 H4
 have x0 := X3.out.cell 0
 have x1 := X3.out.cell 1
 have f1 := X3.out.free 1
 have z0 : ¬ 9223372036854775807 < 8 + mt.size := by omega
 have HPT := hid hpt
 obtain ⟨W3, hW3⟩ : ∃ W, W = W2.setCell ⟨w1.heap.size, 1, none⟩ (.string pt) := ⟨_, rfl⟩
 have Y3 : Hid (RowAt W3 w1.heap.size 25 #[.string mt, .string pt, .slice a1 Q.length c1, .slice a2 H.length c2, .string bd]) := by rw [hW3]; exact X3.out.set 1 _
 have Y4 : Hid (RowAt W3 (w1.heap.size + 1) 27 #[.string id, .string sec]) := by rw [hW3]; exact X4.out.other ⟨w1.heap.size, 1, none⟩ _ (by simp)
 have M3 : Hid (Below w1.heap.size w1 W3) := by rw [hW3]; exact L2.out.setCell (Nat.le_refl _) _
 have HW3 := hid hW3
 clear hW3 hpt X3 X4
 go_upto_region 5 with fail
 rw [← HPT.out, ← HW3.out]
 clear HW3 x0 x1 f1 z0 L2 B2'
 have B3' := hid (HB1.out.trans (M3.out.mono HB1.out.size))
 have KI := hid (iSign mt pt a1 Q.length c1 (hAt Q) a2 H.length c2 (hAt H) bd id sec tA xs.length tc (tAt xs) nw ls RB.out (by omega) (fun i _ => by have := TS.out i; omega) W3 (HV.out.below B3'.out).tb (IN1.out.below M3.out) (ST1.out.below M3.out))
 have KS := fun wx (hx : Below w1.heap.size w1 wx) => hid (sSignO mt pt a1 Q.length c1 (hAt Q) a2 H.length c2 (hAt H) N1.out N2.out bd id sec tA xs.length tc (tAt xs) nw ls RB.out (by omega) (by omega) wx (IN1.out.below hx) (ST1.out.below hx))
 have x0 := Y3.out.cell 0
 have x1 := Y3.out.cell 1
 have x2 := Y3.out.cell 2
 have x3 := Y3.out.cell 3
 have x4 := Y3.out.cell 4
 have k0 := Y4.out.cell 0
 have k1 := Y4.out.cell 1
 go_wp2_with fail
 refine KI.out.mono ?_
 rintro e w4 ⟨hb4, hA⟩
 clear x0 x1 x2 x3 x4 k0 k1 KI
 have Y3b := hid (RowAt.nxS hb4 Y3.out)
 have Y4b := hid (RowAt.nxS hb4 Y4.out)
 have M4 := hid (M3.out.trans (hb4.mono M3.out.size))
 clear Y3 Y4 M3 B3' hb4
 rcases hA with ⟨ok, p1, e1, p2, e2, C1, C2, rfl, oq, oh, _⟩ | ⟨no, rfl⟩
 case inr =>
  obtain ⟨W5, hW5⟩ : ∃ W, W = w4.alloc (.cells #[.string ⟨#[]⟩, .string ⟨#[]⟩, .slice none 0 0, .slice none 0 0, .string ⟨#[]⟩] 25) := ⟨_, rfl⟩
  have b45 : Below w4.heap.size w4 W5 := by rw [hW5]; exact (Below.refl _ _).alloc (Nat.le_refl _) _
  obtain ⟨X10, hX10⟩ : ∃ X, X = w4.heap.size := ⟨_, rfl⟩
  have Z10 : Hid (RowAt W5 X10 25 #[.string ⟨#[]⟩, .string ⟨#[]⟩, .slice none 0 0, .slice none 0 0, .string ⟨#[]⟩]) := by rw [hW5, hX10]; exact RowAt.new _ _ _
  have Y3c := hid (RowAt.nxS b45 Y3b.out)
  have Y4c := hid (RowAt.nxS b45 Y4b.out)
  have M5 := hid (M4.out.trans (b45.mono M4.out.size))
  have HW5 := hid hW5
  have HX10 := hid hX10
  clear hW5 hX10 b45 Y3b Y4b
  go_upto_region 6 with ((refine wpList_store_row rfl 25 (.tmp 10) (.tmp 41) rfl w4.heap.size #[.string ⟨#[]⟩, .string ⟨#[]⟩, .slice none 0 0, .slice none 0 0, .string ⟨#[]⟩] rfl rfl _ _ (RowAt.new w4 _ _) (by kernel_rfl) rfl (by simp [Value.oneCell']) ?_); rw [World.setRow_alloc_new])
  rw [← HW5.out, ← HX10.out]
  clear HW5 HX10 M4
  have x0 := Y3c.out.cell 0
  have x1 := Y3c.out.cell 1
  have x2 := Y3c.out.cell 2
  have x3 := Y3c.out.cell 3
  have x4 := Y3c.out.cell 4
  have k0 := Y4c.out.cell 0
  have k1 := Y4c.out.cell 1
  have KS4 := KS W5 M5.out
  have fz : ∀ w, (Instr.field 25 (.agg #[.string ⟨#[]⟩, .string ⟨#[]⟩, .slice none 0 0, .slice none 0 0, .string ⟨#[]⟩]) 0).run Tryz.prog w = .ok (.string ⟨#[]⟩) w := fun w => by kernel_rfl
  go_wp2_with fail
  refine KS4.out.mono ?_
  rintro e w5 ⟨hb5, hA5⟩
  clear x0 x1 x2 x3 x4 k0 k1 KS4 KS
  obtain rfl : e = .returned (.agg #[.string ⟨#[]⟩, .string ⟨#[]⟩, .slice none 0 0, .slice none 0 0, .string ⟨#[]⟩]) := by
   rcases hA5 with ⟨ok, _⟩ | ⟨_, he⟩
   · exact absurd ok no
   · exact he
  have m0 := (RowAt.nxS hb5 Z10.out).cell 0
  have FB : Hid (Below w.heap.size w w5) := by
   have q := HB1.out.trans (M5.out.mono HB1.out.size)
   exact q.trans (hb5.mono q.size)
  clear hA5 hb5
  go_wp2
  go_ret
  exact ⟨rfl, FB.out⟩
 have OK := hid ok
 dsimp only
 obtain ⟨LQ, hLQ⟩ : ∃ l, l = (sgQ2 ⟨mt, pt, ⟨a1, Q.length, c1, hAt Q⟩, ⟨a2, H.length, c2, hAt H⟩, bd⟩ id sec nw ls (tAt xs) xs.length) := ⟨_, rfl⟩
 obtain ⟨LH, hLH⟩ : ∃ l, l = (sgH ⟨mt, pt, ⟨a1, Q.length, c1, hAt Q⟩, ⟨a2, H.length, c2, hAt H⟩, bd⟩) := ⟨_, rfl⟩
 rw [← hLQ, ← hLH]
 rw [← hLQ] at oq
 rw [← hLH] at oh
 have HLQ := hid hLQ
 have HLH := hid hLH
 have HQ4 := hid (hps_own oq rfl)
 have HH4 := hid (hps_own oh rfl)
 have RBy : Hid (RqB (⟨mt, pt, ⟨p1, LQ.length, e1, hAt LQ⟩, ⟨p2, LH.length, e2, hAt LH⟩, bd⟩ : Rq) 1048576) := by rw [hLQ, hLH]; exact sg_RqBT ok p1 e1 p2 e2
 have mt1 : 1 ≤ mt.size := ok.1.1.1.1
 have mt2 : mt.size ≤ 10 := ok.1.1.1.2.1
 have MTP := hid ok.1.1.1
 clear ok oq oh hLQ hLH
 have lq : LQ.length ≤ 1048576 := RBy.out.qs.1
 have lh : LH.length ≤ 1048576 := RBy.out.hs.1
 obtain ⟨W5, hW5⟩ : ∃ W, W = w4.alloc (.cells #[.string mt, .string pt, .slice p1 LQ.length e1, .slice p2 LH.length e2, .string bd] 25) := ⟨_, rfl⟩
 have b45 : Below w4.heap.size w4 W5 := by rw [hW5]; exact (Below.refl _ _).alloc (Nat.le_refl _) _
 obtain ⟨X10, hX10⟩ : ∃ X, X = w4.heap.size := ⟨_, rfl⟩
 have Z10 : Hid (RowAt W5 X10 25 #[.string mt, .string pt, .slice p1 LQ.length e1, .slice p2 LH.length e2, .string bd]) := by rw [hW5, hX10]; exact RowAt.new _ _ _
 have Y3c := hid (RowAt.nxS b45 Y3b.out)
 have Y4c := hid (RowAt.nxS b45 Y4b.out)
 have M5 := hid (M4.out.trans (b45.mono M4.out.size))
 have HQ5 := hid (HQ4.out.below b45)
 have HH5 := hid (HH4.out.below b45)
 have HW5 := hid hW5
 have HX10 := hid hX10
 clear hW5 hX10 b45 Y3b Y4b HQ4 HH4
 go_upto_region 6 with ((refine wpList_store_row rfl 25 (.tmp 10) (.tmp 41) rfl w4.heap.size #[.string mt, .string pt, .slice p1 LQ.length e1, .slice p2 LH.length e2, .string bd] rfl rfl _ _ (RowAt.new w4 _ _) (by kernel_rfl) rfl (by simp [Value.oneCell']) ?_); rw [World.setRow_alloc_new])
 rw [← HW5.out, ← HX10.out]
 clear HW5 HX10 M4
 have x0 := Y3c.out.cell 0
 have x1 := Y3c.out.cell 1
 have x2 := Y3c.out.cell 2
 have x3 := Y3c.out.cell 3
 have x4 := Y3c.out.cell 4
 have k0 := Y4c.out.cell 0
 have k1 := Y4c.out.cell 1
 have KS4 := KS W5 M5.out
 go_wp2_with fail
 refine KS4.out.mono ?_
 rintro e w6 ⟨hb6, hA6⟩
 clear x0 x1 x2 x3 x4 k0 k1 KS4 KS
 rcases hA6 with ⟨_, q1, f1, q2, f2, D1, D2, rfl, _, _, _⟩ | ⟨no, _⟩
 case inr => exact absurd OK.out no
 dsimp only
 have Z10b := hid (RowAt.nxS hb6 Z10.out)
 have Y4d := hid (RowAt.nxS hb6 Y4c.out)
 have M6 := hid (M5.out.trans (hb6.mono M5.out.size))
 have HQ6 := hid (HQ5.out.below hb6)
 have HH6 := hid (HH5.out.below hb6)
 clear hb6 Z10 Y3c Y4c M5 HQ5 HH5
 have em : (mt.toList == []) = false := by
  rw [show ([] : List UInt8) = (⟨#[]⟩ : ByteArray).toList from by simp [ByteArray.toList_eq], eqL]
  exact decide_eq_false fun q => by rw [q] at mt1; exact absurd mt1 (by decide)
 have en : (mt.toList == (⟨#[]⟩ : ByteArray).toList) = false := by
  rw [eqL]
  exact decide_eq_false fun q => by rw [q] at mt1; exact absurd mt1 (by decide)
 have fm : ∀ w, (Instr.field 25 (.agg #[.string mt, .string pt, .slice q1 LQ.length f1, .slice q2 LH.length f2, .string bd]) 0).run Tryz.prog w = .ok (.string mt) w := fun w => by kernel_rfl
 have k0 := Y4d.out.cell 0
 have k1 := Y4d.out.cell 1
 obtain ⟨W7, hW7⟩ : ∃ W, W = w6.alloc (.cells #[.string id, .string sec] 27) := ⟨_, rfl⟩
 have b67 : Below w6.heap.size w6 W7 := by rw [hW7]; exact (Below.refl _ _).alloc (Nat.le_refl _) _
 obtain ⟨XK, hXK⟩ : ∃ X, X = w6.heap.size := ⟨_, rfl⟩
 have XKr : Hid (RowAt W7 XK 27 #[.string id, .string sec]) := by rw [hW7, hXK]; exact RowAt.new _ _ _
 have Z10c := hid (RowAt.nxS b67 Z10b.out)
 have M7 := hid (M6.out.trans (b67.mono M6.out.size))
 have HQ7 := hid (HQ6.out.below b67)
 have HH7 := hid (HH6.out.below b67)
 have HW7 := hid hW7
 have HXK := hid hXK
 clear hW7 hXK b67 M6 HQ6 HH6 Z10b
 rw [← HLQ.out, ← HLH.out]
 go_upto_region 9 with fail
 rw [← HW7.out, ← HXK.out]
 clear HW7 HXK k0 k1 em en fm
 have BW7 : Hid (Below w.heap.size w W7) := HB1.out.trans (M7.out.mono HB1.out.size)
 obtain ⟨C, hC⟩ : ∃ C, C = grownCap W7 pt.size 0 5 := ⟨_, rfl⟩
 obtain ⟨W9, hW9⟩ : ∃ W, W = Lib.bytesWorld W7 5 pt := ⟨_, rfl⟩
 obtain ⟨gb, hgb⟩ : ∃ g, g = W7.heap.size := ⟨_, rfl⟩
 have hcv : (convert 9 22 (.string pt)).run Tryz.prog W7 = .ok (.slice (some ⟨W7.heap.size, 0, none⟩) pt.size C) W9 := by
  rw [hC, hW9]; exact Lib.run_convert_string_bytes W7 9 22 5 pt Tryz.underlying9 Tryz.underlying22 Tryz.underlying5
 have b79 : Hid (Below gb W7 W9) := by
  rw [hgb, hW9]; exact ⟨rfl, rfl, rfl, by rw [Lib.bytesWorld_size]; omega, fun j hj => Lib.bytesWorld_at_old W7 _ pt j hj⟩
 have hcell : Hid (∀ j, j < pt.size → W9.cell? ⟨gb, j, none⟩ = some (.int .u8 ((pt.data.toList.getD j 0).toNat : Int))) := by
  show ∀ j, j < pt.size → W9.cell? ⟨gb, j, none⟩ = _
  intro j hj; rw [hgb, hW9]; exact Lib.bytesWorld_cell W7 _ pt j hj
 have hfree : Hid (∀ j, j < pt.size → W9.frozen? ⟨gb, j, none⟩ = false) := by
  show ∀ j, j < pt.size → W9.frozen? ⟨gb, j, none⟩ = false
  intro j hj
  rw [hgb, hW9]
  have := Lib.bytesWorld_at_new W7 5 pt
  have hz : pt.size ≤ (Lib.bytesCells W7 5 pt).size := by simp [Lib.bytesCells]
  simp [World.frozen?, this]; omega
 have HGB := hid hgb
 clear hC hW9 hgb
 have x1 := Z10c.out.cell 1
 have n8 : ¬ (pt.size : Int) < 8 := by omega
 have BW9 : Hid (Below w.heap.size w W9) := BW7.out.trans (by rw [HGB.out] at b79; exact b79.out.mono BW7.out.size)
 go_upto_region 12 with fail
 rw [← HGB.out]
 clear hcv x1
 obtain ⟨m6, hm6⟩ : ∃ m, m = r0 % 6 := ⟨_, rfl⟩
 have e6 : Int.tmod (r0 : Int) 6 = (m6 : Int) := by rw [hm6]; exact (Int.ofNat_tmod r0 6).symm
 have e6b : (r0 : Int) % 6 = (m6 : Int) := by omega
 obtain ⟨k, hk⟩ : ∃ k, k = 1 + m6 := ⟨_, rfl⟩
 have e7 : 1 + (m6 : Int) = (k : Int) := by omega
 have kb1 : 1 ≤ k := by omega
 have kb6 : k ≤ 6 := by omega
 clear hm6 hk
 have KA := hid (KA0.out W9 BW9.out)
 go_wp2_with fail
 refine KA.out.mono ?_
 rintro e w9 ⟨rfl, hw9⟩
 rw [hw9]
 clear KA hw9
 go_upto_region 13 with fail
 clear e6 e6b e7 n8
 have PL : Hid (97 ≤ (pt.data.toList.getD k 0).toNat ∧ (pt.data.toList.getD k 0).toNat ≤ 122) := by
  have hl : pt.data.toList = [47, 98, 117, 99, 107, 101, 116, 47] ++ mt.data.toList := by rw [HPT.out]; exact ba_app _ _
  show 97 ≤ _ ∧ _ ≤ 122
  have hg : (([47, 98, 117, 99, 107, 101, 116, 47] : List UInt8) ++ mt.data.toList).getD k 0 = ([47, 98, 117, 99, 107, 101, 116, 47] : List UInt8).getD k 0 := by
   rw [List.getD_eq_getElem?_getD, List.getD_eq_getElem?_getD, List.getElem?_append_left (by show k < 8; omega)]
  rw [hl, hg]
  rcases (by omega : k = 1 ∨ k = 2 ∨ k = 3 ∨ k = 4 ∨ k = 5 ∨ k = 6) with rfl | rfl | rfl | rfl | rfl | rfl <;> exact ⟨by decide, by decide⟩
 obtain ⟨c, hc⟩ : ∃ c, c = (pt.data.toList.getD k 0).toNat := ⟨_, rfl⟩
 have cb1 : 97 ≤ c := by rw [hc]; exact PL.out.1
 have cb2 : c ≤ 122 := by rw [hc]; exact PL.out.2
 obtain ⟨q, hq⟩ : ∃ q, q = c - 97 := ⟨_, rfl⟩
 obtain ⟨r25, hr25⟩ : ∃ x, x = r1 % 25 := ⟨_, rfl⟩
 obtain ⟨u, hu⟩ : ∃ u, u = (q + 1 + r25) % 26 := ⟨_, rfl⟩
 have r25b : r25 < 25 := by omega
 have ub : u < 26 := by omega
 have une : u ≠ q := by omega
 have DN : Hid (97 + u ≠ c) := by show _ ≠ _; omega
 have HC := hid hc
 refine ta_wp W9 gb pt.size C k len' cap' a' c q (q + 1) r1 r25 (q + 1 + r25) u (97 + u) (fun j => ((pt.data.toList.getD j 0).toNat : Int)) W9 (Below.refl _ _) (fun j hj => by rw [if_neg (by simp)]; exact hcell.out j hj) (fun _ => hfree.out) (by omega) (by rw [hc]) (fun wx hx => KA1.out wx (BW7.out.trans (by have q9 := b79.out.trans hx; rw [HGB.out] at q9; exact q9.mono BW7.out.size))) (by rw [IntKind.wrap_i64]; omega) (by rw [IntKind.wrap_i64]; omega) (by rw [IntKind.wrap_i64]; omega) (by rw [hr25]; exact (Int.ofNat_tmod r1 25).symm) (by omega) (by rw [IntKind.wrap_i64]; omega) (by rw [hu]; exact (Int.ofNat_tmod (q + 1 + r25) 26).symm) (by omega) (by rw [IntKind.wrap_i64]; omega) (by simp [IntKind.wrap, IntKind.bits, IntKind.signed]; omega) ?_
 intro dm w13 hB13 hcj
 intros
 obtain ⟨dU, hdU⟩ : ∃ d, d = UInt8.ofNat (97 + u) := ⟨_, rfl⟩
 have hdn : dU.toNat = 97 + u := by rw [hdU]; simp; omega
 obtain ⟨PT, hPT⟩ : ∃ p, p = (⟨(pt.data.toList.set k dU).toArray⟩ : ByteArray) := ⟨_, rfl⟩
 have CELL : Hid (∀ j (hj : j < (pt.data.toList.set k dU).length), w13.cell? ((⟨gb, 0, none⟩ : Addr).add j) = some (.int .u8 ((pt.data.toList.set k dU)[j].toNat : Int))) := by
  show ∀ j (hj : j < (pt.data.toList.set k dU).length), _
  intro j hj
  have hadd : (⟨gb, 0, none⟩ : Addr).add j = ⟨gb, j, none⟩ := addZ gb j
  have hj2 : j < pt.size := by simpa using hj
  rw [hadd, hcj j hj2]
  by_cases e : j = k
  · subst e
    rw [if_pos ⟨rfl, rfl⟩, List.getElem_set_self, hdn]
  · rw [if_neg (fun h => e h.2), List.getElem_set_ne (fun h => e h.symm), List.getD_eq_getElem?_getD, List.getElem?_eq_getElem (by simpa using hj2)]
    rfl
 have B713 : Hid (Below W7.heap.size W7 w13) := by
  have q9 := b79.out.trans hB13
  rw [HGB.out] at q9
  exact q9
 have TAM := hid (tam_path MTP.out kb1 kb6 (d := dU) (by omega) (by omega) (fun e => DN.out (by rw [HC.out, HPT.out]; show 97 + u = ((bkB ++ mt).data.toList.getD k 0).toNat; rw [e, hdn])))
 have HPT2 := hid hPT
 have HDU := hid hdU
 clear hB13 hcj hPT hdU hdn DN PL une ub r25b hr25 hu hq hc cb1 cb2 hcell hfree b79
 obtain ⟨ptP1, AA, BB, cc, es1, es2, hcd⟩ := TAM.out
 have EB : Hid (bkB ++ mt = pt) := HPT.out.symm
 rw [EB.out] at es1 es2 ptP1
 rw [← HPT2.out] at es2 ptP1
 have G12 : Hid (∀ t, ckR (⟨mt, PT, ⟨p1, LQ.length, e1, hAt LQ⟩, ⟨p2, LH.length, e2, hAt LH⟩, bd⟩ : Rq) 1 (fun _ => ⟨id, sec⟩) t = (12, ⟨#[]⟩)) := fun t => by rw [HLQ.out, HLH.out]; exact sg_path OK.out ptP1 es1 es2 hcd t
 have CKp : Hid (ckP (⟨mt, PT, ⟨p1, LQ.length, e1, hAt LQ⟩, ⟨p2, LH.length, e2, hAt LH⟩, bd⟩ : Rq)) := by rw [HLQ.out, HLH.out]; exact ckP_pt (sg_ckP OK.out) ptP1
 have PTz : PT.size ≤ 1000 := ptP1.2.1
 have RBp : Hid (RqB (⟨mt, PT, ⟨p1, LQ.length, e1, hAt LQ⟩, ⟨p2, LH.length, e2, hAt LH⟩, bd⟩ : Rq) 1048576) := ⟨RBy.out.mt, by show PT.size ≤ _; omega, RBy.out.qs, RBy.out.hs, RBy.out.bd⟩
 clear TAM EB es1 es2 hcd ptP1
 have ZA := hid (Z10c.out.below B713.out Z10c.out.lt)
 have x0 := ZA.out.cell 0
 have x1 := ZA.out.cell 1
 have x2 := ZA.out.cell 2
 have x3 := ZA.out.cell 3
 have x4 := ZA.out.cell 4
 obtain ⟨W14, hW14⟩ : ∃ W, W = w13.alloc (.cells #[.string mt, .string pt, .slice p1 LQ.length e1, .slice p2 LH.length e2, .string bd] 25) := ⟨_, rfl⟩
 have b34 : Below w13.heap.size w13 W14 := by rw [hW14]; exact (Below.refl _ _).alloc (Nat.le_refl _) _
 obtain ⟨X14, hX14⟩ : ∃ X, X = w13.heap.size := ⟨_, rfl⟩
 have R14 : Hid (RowAt W14 X14 25 #[.string mt, .string pt, .slice p1 LQ.length e1, .slice p2 LH.length e2, .string bd]) := by rw [hW14, hX14]; exact RowAt.new _ _ _
 have B714 := hid (B713.out.trans (b34.mono B713.out.size))
 have x14l : W7.heap.size ≤ X14 := by rw [hX14]; exact B713.out.size
 have hlen : (pt.data.toList.set k dU).length = pt.size := by simp
 have hback : (convert 22 9 (.slice (some ⟨gb, 0, none⟩) pt.size C)).run Tryz.prog W14 = .ok (.string PT) W14 := by
  have q := run_convert_bytes_back (P := Tryz.prog) W14 22 9 5 ⟨gb, 0, none⟩ C (pt.data.toList.set k dU) Tryz.underlying22 Tryz.underlying5 Tryz.underlying9 (fun j hj => by
   have hadd : (⟨gb, 0, none⟩ : Addr).add j = ⟨gb, j, none⟩ := addZ gb j
   have q1 := CELL.out j hj
   rw [hadd] at q1 ⊢
   exact (b34.cell (p := ⟨gb, j, none⟩) (World.block_lt_of_cell? w13 _ q1)).trans q1)
  rw [hlen, ← HPT2.out] at q
  exact q
 have HW14 := hid hW14
 have HX14 := hid hX14
 clear hW14 hX14 hlen b34 CELL
 go_upto_region 15 with ((refine wpList_store_row rfl 25 (.tmp 14) (.tmp 82) rfl w13.heap.size #[.string mt, .string pt, .slice p1 LQ.length e1, .slice p2 LH.length e2, .string bd] rfl rfl _ _ (RowAt.new w13 _ _) (by kernel_rfl) rfl (by simp [Value.oneCell']) ?_); rw [World.setRow_alloc_new])
 rw [← HW14.out, ← HX14.out]
 clear HW14 HX14 x0 x1 x2 x3 x4 ZA
 have y1 := R14.out.cell 1
 have g1 := R14.out.free 1
 obtain ⟨W15, hW15⟩ : ∃ W, W = W14.setCell ⟨X14, 1, none⟩ (.string PT) := ⟨_, rfl⟩
 have R15 : Hid (RowAt W15 X14 25 #[.string mt, .string PT, .slice p1 LQ.length e1, .slice p2 LH.length e2, .string bd]) := by rw [hW15]; exact R14.out.set 1 _
 have B715 : Hid (Below W7.heap.size W7 W15) := by rw [hW15]; exact B714.out.setCell x14l _
 have HW15 := hid hW15
 clear hW15
 go_upto_region 16 with fail
 rw [← HW15.out]
 clear HW15 y1 g1 hback R14 B714
 have ak1 : ∀ wx, Below W7.heap.size W7 wx → Aks wx (some ⟨XK, 0, none⟩) 1 1 (fun _ => ⟨id, sec⟩) := fun wx hx => by
  have R := XKr.out.below hx XKr.out.lt
  refine ⟨Nat.le_refl _, .inr ⟨XK, 0, rfl, R.lt, fun k hk => ?_⟩⟩
  have e : k = 0 := by omega
  subst e
  exact ⟨R.cell 0, R.cell 1⟩
 have AKS := hid ak1
 have HVX : Hid (∀ wx, Below W7.heap.size W7 wx → RdV wx) := fun wx hx => HV.out.below (BW7.out.trans (hx.mono BW7.out.size))
 have CKc : Hid (Calls Tryz.prog 11 #[.agg #[.string mt, .string PT, .slice p1 LQ.length e1, .slice p2 LH.length e2, .string bd], .slice (some ⟨XK, 0, none⟩) 1 1, .int .i64 nw] W15 fun e w' => e = .returned (.agg #[.int .i64 12, .string ⟨#[]⟩]) ∧ Below W15.heap.size W15 w') :=
  (iCheckG mt PT p1 LQ.length e1 (hAt LQ) p2 LH.length e2 (hAt LH) bd (some ⟨XK, 0, none⟩) 1 1 (fun _ => ⟨id, sec⟩) nw RBp.out (by omega) CKp.out W15 (HVX.out W15 B715.out) ⟨HQ7.out.below B715.out, HH7.out.below B715.out⟩ (AKS.out W15 B715.out)).mono fun e w' h => ⟨by rw [h.1, G12.out], h.2⟩
 have f12 : ∀ w, (Instr.field 35 (.agg #[.int .i64 12, .string ⟨#[]⟩]) 0).run Tryz.prog w = .ok (.int .i64 12) w := fun w => by kernel_rfl
 clear ak1
 have x0 := R15.out.cell 0
 have x1 := R15.out.cell 1
 have x2 := R15.out.cell 2
 have x3 := R15.out.cell 3
 have x4 := R15.out.cell 4
 go_wp2_with fail
 refine CKc.out.mono ?_
 rintro e w16 ⟨rfl, hb16⟩
 have B716 := hid (B715.out.trans (hb16.mono B715.out.size))
 have ZB := hid (Z10c.out.below B716.out Z10c.out.lt)
 clear hb16 CKc x0 x1 x2 x3 x4 R15 B715
 have x4 := ZB.out.cell 4
 have FBW : Hid (∀ wx, Below W7.heap.size W7 wx → Below w.heap.size w wx) := fun wx hx => BW7.out.trans (hx.mono BW7.out.size)
 by_cases hbd : bd.size = 0
 · obtain rfl : bd = ⟨#[]⟩ := baZ hbd
   go_wp2
   go_ret
   exact ⟨rfl, FBW.out _ B716.out⟩
 have em : (bd.toList == []) = false := by
  rw [show ([] : List UInt8) = (⟨#[]⟩ : ByteArray).toList from by simp [ByteArray.toList_eq], eqL]
  exact decide_eq_false fun q => hbd (by rw [q]; rfl)
 have en : (bd.toList == (⟨#[]⟩ : ByteArray).toList) = false := by
  rw [eqL]
  exact decide_eq_false fun q => hbd (by rw [q]; rfl)
 have bdz : bd.size ≤ 100000 := OK.out.1.1.2.2.2.2.1
 have x0 := ZB.out.cell 0
 have x1 := ZB.out.cell 1
 have x2 := ZB.out.cell 2
 have x3 := ZB.out.cell 3
 obtain ⟨W17, hW17⟩ : ∃ W, W = w16.alloc (.cells #[.string mt, .string pt, .slice p1 LQ.length e1, .slice p2 LH.length e2, .string bd] 25) := ⟨_, rfl⟩
 have b67 : Below w16.heap.size w16 W17 := by rw [hW17]; exact (Below.refl _ _).alloc (Nat.le_refl _) _
 obtain ⟨X15, hX15⟩ : ∃ X, X = w16.heap.size := ⟨_, rfl⟩
 have R17 : Hid (RowAt W17 X15 25 #[.string mt, .string pt, .slice p1 LQ.length e1, .slice p2 LH.length e2, .string bd]) := by rw [hW17, hX15]; exact RowAt.new _ _ _
 have B717 := hid (B716.out.trans (b67.mono B716.out.size))
 have ZC := hid (Z10c.out.below B717.out Z10c.out.lt)
 have xl : X10 < X15 := by rw [hX15]; exact ZB.out.lt
 have x15l : W7.heap.size ≤ X15 := by rw [hX15]; exact B716.out.size
 have HW17 := hid hW17
 have HX15 := hid hX15
 clear hW17 hX15 b67
 go_upto_region 21 with ((refine wpList_store_row rfl 25 (.tmp 15) (.tmp 95) rfl w16.heap.size #[.string mt, .string pt, .slice p1 LQ.length e1, .slice p2 LH.length e2, .string bd] rfl rfl _ _ (RowAt.new w16 _ _) (by kernel_rfl) rfl (by simp [Value.oneCell']) ?_); rw [World.setRow_alloc_new])
 rw [← HW17.out, ← HX15.out]
 clear HW17 HX15 x0 x1 x2 x3 x4 em en ZB
 refine tb_wp W17 X10 X15 len' cap' r2 r3 a' mt pt bd p1 LQ.length e1 p2 LH.length e2 W17 (Below.refl _ _) R17.out.lt ZC.out R17.out xl (fun wx hx => KA2.out wx (FBW.out wx (B717.out.trans (hx.mono x15l)))) (fun wx hx => KA3.out wx (FBW.out wx (B717.out.trans (hx.mono x15l)))) (fun wx _ => lwTurn_all bd r2 r3 (by omega) (by omega) (by omega) (by omega) wx) ?_
 rintro t8 w18 hB18 _ h10 h15 _ _ _ _ ⟨k9, d9, h9, hne9, rfl⟩
 have B718 := hid (B717.out.trans (hB18.mono x15l))
 have SNE := sum_body h9 hne9 bdz
 have T8z : (⟨(turned bd k9 d9).toArray⟩ : ByteArray).size ≤ 100000 := by
  have : (⟨(turned bd k9 d9).toArray⟩ : ByteArray).size = bd.size := by show (turned bd k9 d9).toArray.size = _; simp [turned]
  omega
 obtain ⟨T8, hT8⟩ : ∃ t, t = (⟨(turned bd k9 d9).toArray⟩ : ByteArray) := ⟨_, rfl⟩
 rw [← hT8] at h15 SNE T8z
 rw [← hT8]
 have H10 := hid h10
 have H15 := hid h15
 clear hT8 hB18 hne9 h10 h15 R17 ZC B717
 have CKb : Hid (ckP (⟨mt, pt, ⟨p1, LQ.length, e1, hAt LQ⟩, ⟨p2, LH.length, e2, hAt LH⟩, T8⟩ : Rq)) := by rw [HLQ.out, HLH.out]; exact ckP_bd (sg_ckP OK.out) T8z
 have RBb : Hid (RqB (⟨mt, pt, ⟨p1, LQ.length, e1, hAt LQ⟩, ⟨p2, LH.length, e2, hAt LH⟩, T8⟩ : Rq) 1048576) := ⟨RBy.out.mt, RBy.out.pt, RBy.out.qs, RBy.out.hs, by show T8.size ≤ _; omega⟩
 rcases HQ7.out.2 with h0 | ⟨qb, qo, rfl, _, _⟩
 · have := CKb.out.2.1
   dsimp only at this
   omega
 obtain ⟨RC, hRC⟩ : ∃ x, x = (ckR (⟨mt, pt, ⟨some ⟨qb, qo, none⟩, LQ.length, e1, hAt LQ⟩, ⟨p2, LH.length, e2, hAt LH⟩, T8⟩ : Rq) 1 (fun _ => ⟨id, sec⟩) nw).1 := ⟨_, rfl⟩
 obtain ⟨RI, hRI⟩ : ∃ x, x = (ckR (⟨mt, pt, ⟨some ⟨qb, qo, none⟩, LQ.length, e1, hAt LQ⟩, ⟨p2, LH.length, e2, hAt LH⟩, T8⟩ : Rq) 1 (fun _ => ⟨id, sec⟩) nw).2 := ⟨_, rfl⟩
 have KI22 : Hid (∀ wx, Below w18.heap.size w18 wx → Calls Tryz.prog 11 #[.agg #[.string mt, .string pt, .slice (some ⟨qb, qo, none⟩) LQ.length e1, .slice p2 LH.length e2, .string T8], .slice (some ⟨XK, 0, none⟩) 1 1, .int .i64 nw] wx fun e w' => e = .returned (.agg #[.int .i64 RC, .string RI]) ∧ Below wx.heap.size wx w') := fun wx hx => by
  have hx' := B718.out.trans (hx.mono B718.out.size)
  rw [hRC, hRI]
  exact iCheckG mt pt (some ⟨qb, qo, none⟩) LQ.length e1 (hAt LQ) p2 LH.length e2 (hAt LH) T8 (some ⟨XK, 0, none⟩) 1 1 (fun _ => ⟨id, sec⟩) nw RBb.out (by omega) CKb.out wx (HVX.out wx hx') ⟨HQ7.out.below hx', HH7.out.below hx'⟩ (AKS.out wx hx')
 have KS22 : Hid (∀ wx, Below w18.heap.size w18 wx → Calls Tryz.prog 15 #[.agg #[.string mt, .string pt, .slice (some ⟨qb, qo, none⟩) LQ.length e1, .slice p2 LH.length e2, .string T8], .slice (some ⟨XK, 0, none⟩) 1 1, .int .i64 nw] wx fun e w' => e = .returned (.agg #[.int .i64 RC, .string RI]) ∧ Below wx.heap.size wx w') := fun wx hx => by
  have hx' := B718.out.trans (hx.mono B718.out.size)
  rw [hRC, hRI]
  exact sCheckG mt pt qb qo LQ.length e1 (hAt LQ) p2 LH.length e2 (hAt LH) T8 (some ⟨XK, 0, none⟩) 1 1 (fun _ => ⟨id, sec⟩) nw RBb.out (by omega) ⟨CKb.out, by omega⟩ wx ⟨HQ7.out.below hx', HH7.out.below hx'⟩ (AKS.out wx hx')
 clear hRC hRI
 go_upto_region 22 with fail
 refine tc_wp w18 X10 X15 XK mt pt bd T8 RI (some ⟨qb, qo, none⟩) LQ.length e1 p2 LH.length e2 nw (sumOf T8 3) (sumOf bd 3) RC w18 (Below.refl _ _) H10.out H15.out (fun wx => ssum_all T8 3 (by omega) (by omega) wx) (fun wx => ssum_all bd 3 (by omega) (by omega) wx) KI22.out KS22.out SNE (by simpa using SNE) (by simpa using SNE) ?_
 intro dm w22 hB22
 intros
 have FIN := hid (FBW.out _ (B718.out.trans (hB22.mono B718.out.size)))
 go_wp2
 go_ret
 exact ⟨rfl, FIN.out⟩
end Go.Proofs.YtkcjigelenofhaaGreatDoor
namespace Go.Proofs.YtkcjigelenofhaaGreatDoor
open Go.RowKit
set_option maxRecDepth 20000 in
set_option maxHeartbeats 1000000 in
theorem fnTampered_walk {w : World} (hv : RdV w) (a0 : Option Addr) (len0 cap0 : Nat) (z0 : List Int) (h0 : IsRow .u8 w a0 len0 cap0 z0) (a1 : Option Addr) (len1 cap1 : Nat) (z1 : List Int) (h1 : IsRow .u8 w a1 len1 cap1 z1) :
 Calls Tryz.prog 4 #[.slice a0 len0 cap0, .slice a1 len1 cap1] w fun e w' => e = .returned (.bool true) ∧ Below w.heap.size w w' := by
 have m0 := h0.le
 have m1 := h1.le
 unfold maxLen at m0 m1
 by_cases hl0 : len0 ≤ 1048576
 · by_cases hl1 : len1 ≤ 1048576
   · exact fnTampered_core w hv a0 len0 cap0 (codeOk_of w a0 len0 cap0 z0 h0 hl0) m0.1 a1 len1 cap1 (codeOk_of w a1 len1 cap1 z1 h1 hl1) m1.1
   · have d0 : decide ((1048576 : Int) < (len0 : Int)) = false := by simp; omega
     have d1 : decide ((1048576 : Int) < (len1 : Int)) = true := by simp; omega
     go_enter Tryz.func4, Tryz.ntmps4
     go_wp2
     go_ret
     exact ⟨rfl, Below.refl _ _⟩
 · have d0 : decide ((1048576 : Int) < (len0 : Int)) = true := by simp; omega
   go_enter Tryz.func4, Tryz.ntmps4
   go_wp2
   go_ret
   exact ⟨rfl, Below.refl _ _⟩
end Go.Proofs.YtkcjigelenofhaaGreatDoor
