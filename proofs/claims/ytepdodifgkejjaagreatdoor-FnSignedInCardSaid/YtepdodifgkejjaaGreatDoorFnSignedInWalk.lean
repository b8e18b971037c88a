import Derived.Test.YtepdodifgkejjaaGreatDoorFS
import Derived.Test.YtepdodifgkejjaaGreatDoorSgCk
import Derived.Test.YtepdodifgkejjaaGreatDoorSSign
import Derived.Test.YtepdodifgkejjaaGreatDoorISign
import Derived.Test.YtepdodifgkejjaaGreatDoorCD
import Derived.Test.YtepdodifgkejjaaGreatDoorDrawSr
import Derived.Test.YtepdodifgkejjaaGreatDoorLwRq
import Derived.Test.YtepdodifgkejjaaGreatDoorSgCk
namespace Go.Proofs.YtepdodifgkejjaaGreatDoor
open Go.RowKit
set_option linter.unusedVariables false
/-! FnSignedIn (by genfsw.py). -/
theorem nilOr_own {w : World} {B : Nat} {a : Option Addr} {n c : Nat} {L : List Hp} (h : OwnHp w B (.slice a n c) L) : NilOr a n c := by
  rcases h.2 with ⟨e, _⟩ | ⟨g, cap, cur, e, _⟩
  · cases e; exact .inl ⟨rfl, rfl, rfl⟩
  · cases e; exact .inr ⟨g, 0, rfl⟩
theorem strs_own {w : World} {B : Nat} {a : Option Addr} {c : Nat} {xs : List ByteArray} (h : OwnStrs w B (.slice a xs.length c) xs) : Strs w a xs.length c (tAt xs) := by
  by_cases h0 : 0 < xs.length
  · obtain ⟨g, rfl, _, _, hs⟩ := OwnStrs.strs (ts := tAt xs) h h0 (fun i hi => by unfold tAt; rw [List.getD_eq_getElem?_getD, List.getElem?_eq_getElem hi]; rfl)
    exact hs
  · exact ⟨by omega, .inl (by omega)⟩
theorem tAt_le {xs : List ByteArray} {B : Nat} (h : ∀ x ∈ xs, x.size ≤ B) (i : Nat) : (tAt xs i).size ≤ B := by
  unfold tAt
  rw [List.getD_eq_getElem?_getD]
  cases e : xs[i]? with
  | none => exact Nat.zero_le _
  | some x => exact h x (List.mem_of_getElem? e)
theorem sg_RqB {r : Rq} {id sec : ByteArray} {nw ls : Int} {ts : Nat → ByteArray} {m : Nat} (ok : sgOk r id sec nw ls ts m) (a1 : Option Addr) (c1 : Nat) (a2 : Option Addr) (c2 : Nat) : RqB ⟨r.mt, r.pt, ⟨a1, (sgQ2 r id sec nw ls ts m).length, c1, hAt (sgQ2 r id sec nw ls ts m)⟩, ⟨a2, (sgH r).length, c2, hAt (sgH r)⟩, r.bd⟩ 1048576 := by
  obtain ⟨p1, ⟨_, p2, _⟩, p3, p4, p5, p6, p7⟩ := ok.2.2.2
  have l1 : (sgQ2 r id sec nw ls ts m).length ≤ 30 := p3.1
  have l2 : (sgH r).length ≤ 30 := p4.1
  have m1 : r.mt.size ≤ 10 := p1.2.1
  have m2 : r.pt.size ≤ 1000 := by first | exact p2 | exact ok.1.1.2.1.2.1
  have m3 : r.bd.size ≤ 100000 := p5
  refine ⟨by dsimp only; omega, by dsimp only; omega, ⟨by dsimp only; omega, fun i hi => ?_⟩, ⟨by dsimp only; omega, fun i hi => ?_⟩, by dsimp only; omega⟩
  · have := p6 i hi
    exact ⟨Nat.le_trans this.2.1 (by omega), Nat.le_trans this.2.2 (by omega)⟩
  · have := p7 i hi
    exact ⟨Nat.le_trans this.1.2.1 (by omega), Nat.le_trans this.2.1 (by omega)⟩
theorem sgS_turned {r : Rq} (hr : rqP r) {sec : ByteArray} (hs : sec.size ≤ 100) {ts : Nat → ByteArray} {m : Nat} (hm : m ≤ 10) (ht : ∀ i, i < m → (ts i).size ≤ 1000) {k : Nat} {d : UInt8} (hk : k < sec.size) (hd : d ≠ sec[k]) : sgS r ⟨(turned sec k d).toArray⟩ ts m ≠ sgS r sec ts m := by
  have hl := canL_len hr ts m hm ht
  have hkl : k < sec.data.toList.length := by simpa using hk
  have e1 : sec.data.toList = sec.data.toList.take k ++ sec[k] :: sec.data.toList.drop (k + 1) := by
    have q := List.drop_eq_getElem_cons hkl
    have e : sec.data.toList[k] = sec[k] := rfl
    rw [e] at q
    rw [← q, List.take_append_drop]
  have e2 : (⟨(turned sec k d).toArray⟩ : ByteArray).data.toList = sec.data.toList.take k ++ d :: sec.data.toList.drop (k + 1) := by
    show (turned sec k d) = _
    unfold turned
    rw [List.set_eq_take_append_cons_drop, if_pos hkl]
  have n1 : (sec.data.toList.take k).length + (sec.data.toList.drop (k + 1)).length + 1 = sec.size := by
    have : sec.data.toList.length = sec.size := by simp
    rw [List.length_take, List.length_drop]
    omega
  unfold sgS sumOf
  rw [e2]
  conv => rhs; rw [e1]
  rw [if_neg (by rw [ofL_size]; simp only [List.length_append, List.length_cons, List.length_nil]; omega), if_neg (by rw [ofL_size]; simp only [List.length_append, List.length_cons, List.length_nil]; omega), ofL_l, ofL_l]
  simp only [List.append_assoc, List.cons_append]
  exact sum_turned _ _ _ _ _ hd
set_option maxRecDepth 20000 in
set_option maxHeartbeats 16000000 in
theorem fnSignedIn_core (w : World) (hv : RdV w) (a : Option Addr) (len cap : Nat) (hc : CodeOk w a len) (hlc : len ≤ cap) :
    Calls Tryz.prog 3 #[.slice a len cap] w fun e w' => e = .returned (.bool true) ∧ Below w.heap.size w w' := by
  have d0 : decide ((1048576 : Int) < (len : Int)) = false := decide_eq_false (by have := hc.1; omega)
  have K0 := hid (drawSR_all w a len cap hc hlc)
  have HV := hid hv
  clear hc hv
  go_enter Tryz.func3, Tryz.ntmps3
  go_upto_region 3 with fail
  clear d0
  go_wp2_with fail
  refine K0.out.mono ?_
  rintro e w1 ⟨mt, pt, bd, id, sec, Q, H, a1, c1, a2, c2, B1, B2, BS, vS, xs, nw, ls, rfl, ⟨z1, z2, z3, z4, z5, z6, z7⟩, hOQ, hOH, hOS, ⟨hi, hsec, hxl, hxs⟩, ⟨nw1, nw2, ls1, ls2⟩, hb1⟩
  clear K0
  obtain ⟨tA, tc, rfl⟩ := hOS.slice
  have RB : Hid (RqB ⟨mt, pt, ⟨a1, Q.length, c1, hAt Q⟩, ⟨a2, H.length, c2, hAt H⟩, bd⟩ 1048576) := ⟨by show mt.size ≤ _; omega, by show pt.size ≤ _; omega, ⟨by show Q.length ≤ _; omega, fun i hi => by have := z6 _ (hAt_mem (L := Q) (i := i) hi); show (hAt Q i).nm.size ≤ _ ∧ (hAt Q i).vl.size ≤ _; omega⟩, ⟨by show H.length ≤ _; omega, fun i hi => by have := z7 _ (hAt_mem (L := H) (i := i) hi); show (hAt H i).nm.size ≤ _ ∧ (hAt H i).vl.size ≤ _; omega⟩, by show bd.size ≤ _; omega⟩
  have IN1 : Hid (RqIn w1 ⟨mt, pt, ⟨a1, Q.length, c1, hAt Q⟩, ⟨a2, H.length, c2, hAt H⟩, bd⟩) := ⟨hps_own hOQ rfl, hps_own hOH rfl⟩
  have ST1 : Hid (Strs w1 tA xs.length tc (tAt xs)) := strs_own hOS
  have N1 := hid (nilOr_own hOQ)
  have N2 := hid (nilOr_own hOH)
  have TS : Hid (∀ i, (tAt xs i).size ≤ 2000) := tAt_le hxs
  clear hOQ hOH hOS hxs z1 z2 z3 z4 z5 z6 z7
  have R3 : RowAt ((w1.alloc (.cells #[.string ⟨#[]⟩, .string ⟨#[]⟩, .slice none 0 0, .slice none 0 0, .string ⟨#[]⟩] 25)).alloc (.cells #[.string ⟨#[]⟩, .string ⟨#[]⟩] 27)) w1.heap.size 25 #[.string ⟨#[]⟩, .string ⟨#[]⟩, .slice none 0 0, .slice none 0 0, .string ⟨#[]⟩] := (RowAt.new _ _ _).alloc _
  have R4 : RowAt ((w1.alloc (.cells #[.string ⟨#[]⟩, .string ⟨#[]⟩, .slice none 0 0, .slice none 0 0, .string ⟨#[]⟩] 25)).alloc (.cells #[.string ⟨#[]⟩, .string ⟨#[]⟩] 27)) (w1.heap.size + 1) 27 #[.string ⟨#[]⟩, .string ⟨#[]⟩] := RowAt.next _ _ _ (by simp only [size_al])
  have H3 := hid R3
  have H4 := hid R4
  obtain ⟨W2, hW2⟩ : ∃ W, W = (((w1.alloc (.cells #[.string ⟨#[]⟩, .string ⟨#[]⟩, .slice none 0 0, .slice none 0 0, .string ⟨#[]⟩] 25)).alloc (.cells #[.string ⟨#[]⟩, .string ⟨#[]⟩] 27)).setRow w1.heap.size #[.string mt, .string pt, .slice a1 Q.length c1, .slice a2 H.length c2, .string bd]).setRow (w1.heap.size + 1) #[.string id, .string sec] := ⟨_, rfl⟩
  have s1 : w.heap.size ≤ w1.heap.size := hb1.size
  have L2 : Hid (Below w1.heap.size w1 W2) := by
    rw [hW2]
    exact below_setRow (below_setRow (((Below.refl _ _).alloc (Nat.le_refl _) _).alloc (by simp) _) _ _ (Nat.le_refl _)) _ _ (by omega)
  have X3 : Hid (RowAt W2 w1.heap.size 25 #[.string mt, .string pt, .slice a1 Q.length c1, .slice a2 H.length c2, .string bd]) := by rw [hW2]; exact (R3.setRow _).otherRow _ _ (by omega)
  have X4 : Hid (RowAt W2 (w1.heap.size + 1) 27 #[.string id, .string sec]) := by rw [hW2]; exact (R4.otherRow _ _ (by omega)).setRow _
  have B2' := hid (hb1.trans (L2.out.mono hb1.size))
  have HB1 := hid hb1
  have HW2 := hid hW2
  clear hW2 R3 R4 hb1
  go_upto_region 4 with (first | (refine wpList_store_row rfl 25 (.tmp 3) (.tmp 19) rfl w1.heap.size #[.string mt, .string pt, .slice a1 Q.length c1, .slice a2 H.length c2, .string bd] rfl rfl _ _ H3.out (by kernel_rfl) rfl (by simp [Value.oneCell']) ?_) | (refine wpList_store_row rfl 27 (.tmp 4) (.tmp 20) rfl (w1.heap.size + 1) #[.string id, .string sec] rfl rfl _ _ (H4.out.otherRow _ _ (by omega)) (by kernel_rfl) rfl (by simp [Value.oneCell']) ?_))
  rw [← HW2.out]
  clear HW2 H3 H4
  have KI := hid (iSign mt pt a1 Q.length c1 (hAt Q) a2 H.length c2 (hAt H) bd id sec tA xs.length tc (tAt xs) nw ls RB.out (by omega) (fun i _ => by have := TS.out i; omega) W2 (HV.out.below B2'.out).tb (IN1.out.below L2.out) (ST1.out.below L2.out))
  have KS := fun wx (hx : Below w1.heap.size w1 wx) => hid (sSignO mt pt a1 Q.length c1 (hAt Q) a2 H.length c2 (hAt H) N1.out N2.out bd id sec tA xs.length tc (tAt xs) nw ls RB.out (by omega) (by omega) wx (IN1.out.below hx) (ST1.out.below hx))
  have x0 := X3.out.cell 0
  have x1 := X3.out.cell 1
  have x2 := X3.out.cell 2
  have x3 := X3.out.cell 3
  have x4 := X3.out.cell 4
  have k0 := X4.out.cell 0
  have k1 := X4.out.cell 1
  go_wp2_with fail
  refine KI.out.mono ?_
  rintro e w3 ⟨hb3, hA⟩
  clear x0 x1 x2 x3 x4 k0 k1 KI
  have X3b := hid (RowAt.nxS hb3 X3.out)
  have X4b := hid (RowAt.nxS hb3 X4.out)
  have L3 := hid (L2.out.trans (hb3.mono L2.out.size))
  clear X3 X4 L2 B2' hb3
  rcases hA with ⟨ok, p1, e1, p2, e2, C1, C2, rfl, oq, oh, _⟩ | ⟨no, rfl⟩
  case inr =>
    obtain ⟨W4, hW4⟩ : ∃ W, W = w3.alloc (.cells #[.string ⟨#[]⟩, .string ⟨#[]⟩, .slice none 0 0, .slice none 0 0, .string ⟨#[]⟩] 25) := ⟨_, rfl⟩
    have b34 : Below w3.heap.size w3 W4 := by rw [hW4]; exact (Below.refl _ _).alloc (Nat.le_refl _) _
    obtain ⟨Y8, hY8⟩ : ∃ X, X = w3.heap.size := ⟨_, rfl⟩
    have X8 : Hid (RowAt W4 Y8 25 #[.string ⟨#[]⟩, .string ⟨#[]⟩, .slice none 0 0, .slice none 0 0, .string ⟨#[]⟩]) := by rw [hW4, hY8]; exact RowAt.new _ _ _
    have X3c := hid (RowAt.nxS b34 X3b.out)
    have X4c := hid (RowAt.nxS b34 X4b.out)
    have L4 := hid (L3.out.trans (b34.mono L3.out.size))
    have HW4 := hid hW4
    have HY8 := hid hY8
    clear hW4 hY8 b34 X3b X4b
    go_upto_region 5 with ((refine wpList_store_row rfl 25 (.tmp 8) (.tmp 29) rfl w3.heap.size #[.string ⟨#[]⟩, .string ⟨#[]⟩, .slice none 0 0, .slice none 0 0, .string ⟨#[]⟩] rfl rfl _ _ (RowAt.new w3 _ _) (by kernel_rfl) rfl (by simp [Value.oneCell']) ?_); rw [World.setRow_alloc_new])
    rw [← HW4.out, ← HY8.out]
    clear HW4 HY8 L3
    have x0 := X3c.out.cell 0
    have x1 := X3c.out.cell 1
    have x2 := X3c.out.cell 2
    have x3 := X3c.out.cell 3
    have x4 := X3c.out.cell 4
    have k0 := X4c.out.cell 0
    have k1 := X4c.out.cell 1
    have KS4 := KS W4 L4.out
    go_wp2_with fail
    refine KS4.out.mono ?_
    rintro e w5 ⟨hb5, hA5⟩
    clear x0 x1 x2 x3 x4 k0 k1 KS4 KS
    obtain rfl : e = .returned (.agg #[.string ⟨#[]⟩, .string ⟨#[]⟩, .slice none 0 0, .slice none 0 0, .string ⟨#[]⟩]) := by
      rcases hA5 with ⟨ok, _⟩ | ⟨_, he⟩
      · exact absurd ok no
      · exact he
    have X8b := hid (RowAt.nxS hb5 X8.out)
    have X4d := hid (RowAt.nxS hb5 X4c.out)
    have L5 := hid (L4.out.trans (hb5.mono L4.out.size))
    clear hA5 hb5 X8 X3c X4c L4
    obtain ⟨W6, hW6⟩ : ∃ W, W = w5.alloc (.cells #[.string ⟨#[]⟩, .string ⟨#[]⟩, .slice none 0 0, .slice none 0 0, .string ⟨#[]⟩] 25) := ⟨_, rfl⟩
    have b56 : Below w5.heap.size w5 W6 := by rw [hW6]; exact (Below.refl _ _).alloc (Nat.le_refl _) _
    obtain ⟨Y9, hY9⟩ : ∃ X, X = w5.heap.size := ⟨_, rfl⟩
    have X9 : Hid (RowAt W6 Y9 25 #[.string ⟨#[]⟩, .string ⟨#[]⟩, .slice none 0 0, .slice none 0 0, .string ⟨#[]⟩]) := by rw [hW6, hY9]; exact RowAt.new _ _ _
    have X8c := hid (RowAt.nxS b56 X8b.out)
    have X4e := hid (RowAt.nxS b56 X4d.out)
    have L6 := hid (L5.out.trans (b56.mono L5.out.size))
    have HW6 := hid hW6
    have HY9 := hid hY9
    clear hW6 hY9 b56 X8b X4d
    go_upto_region 6 with ((refine wpList_store_row rfl 25 (.tmp 9) (.tmp 35) rfl w5.heap.size #[.string ⟨#[]⟩, .string ⟨#[]⟩, .slice none 0 0, .slice none 0 0, .string ⟨#[]⟩] rfl rfl _ _ (RowAt.new w5 _ _) (by kernel_rfl) rfl (by simp [Value.oneCell']) ?_); rw [World.setRow_alloc_new])
    rw [← HW6.out, ← HY9.out]
    clear HW6 HY9 L5
    have hz0 : Hps W6 none 0 0 (fun _ => hp0) := ⟨Nat.le_refl _, .inl rfl⟩
    have KL := hid (lwRequest_eq ⟨#[]⟩ ⟨#[]⟩ none 0 0 none 0 0 ⟨#[]⟩ none 0 none 0 (fun _ => hp0) (fun _ => hp0) W6 hz0 hz0 hz0 hz0 (by omega) (by omega))
    have x0 := X8c.out.cell 0
    have y0 := X9.out.cell 0
    have x1 := X8c.out.cell 1
    have y1 := X9.out.cell 1
    have x2 := X8c.out.cell 2
    have y2 := X9.out.cell 2
    have x3 := X8c.out.cell 3
    have y3 := X9.out.cell 3
    have x4 := X8c.out.cell 4
    have y4 := X9.out.cell 4
    go_wp2_with fail
    refine KL.out.mono ?_
    rintro e w7 ⟨rfl, hb7⟩
    have X9b := hid (RowAt.nxS hb7 X9.out)
    have X4f := hid (RowAt.nxS hb7 X4e.out)
    have L7 := hid (L6.out.trans (hb7.mono L6.out.size))
    have FB : Hid (Below w.heap.size w (w7.alloc (.cells #[.string id, .string sec] 27))) := by
      have q := HB1.out.trans (L7.out.mono HB1.out.size)
      exact q.alloc q.size _
    have m0 := (X9b.out.alloc (.cells #[.string id, .string sec] 27)).cell 0
    have k0 := X4f.out.cell 0
    have k1 := X4f.out.cell 1
    clear x0 y0 x1 y1 x2 y2 x3 y3 x4 y4 hz0 KL hb7
    go_wp2
    go_ret
    exact ⟨rfl, FB.out⟩
  have OK := hid ok
  dsimp only
  obtain ⟨LQ, hLQ⟩ : ∃ l, l = (sgQ2 ⟨mt, pt, ⟨a1, Q.length, c1, hAt Q⟩, ⟨a2, H.length, c2, hAt H⟩, bd⟩ id sec nw ls (tAt xs) xs.length) := ⟨_, rfl⟩
  obtain ⟨LH, hLH⟩ : ∃ l, l = (sgH ⟨mt, pt, ⟨a1, Q.length, c1, hAt Q⟩, ⟨a2, H.length, c2, hAt H⟩, bd⟩) := ⟨_, rfl⟩
  rw [← hLQ, ← hLH]
  rw [← hLQ] at oq
  rw [← hLH] at oh
  have HLQ := hid hLQ
  have HLH := hid hLH
  have HQ3 := hid (hps_own oq rfl)
  have HH3 := hid (hps_own oh rfl)
  have RBy : Hid (RqB ⟨mt, pt, ⟨p1, LQ.length, e1, hAt LQ⟩, ⟨p2, LH.length, e2, hAt LH⟩, bd⟩ 1048576) := by rw [hLQ, hLH]; exact sg_RqB ok p1 e1 p2 e2
  have mt1 : 1 ≤ mt.size := ok.1.1.1.1
  have nw0 : 0 ≤ nw := ok.1.2.2.2.2.1
  have ls0 : 0 ≤ ls := ok.1.2.2.2.2.2.2.1
  have se1 : 1 ≤ sec.size := ok.1.2.2.1
  clear ok oq oh hLQ hLH
  have lq : LQ.length ≤ 1048576 := RBy.out.qs.1
  have lh : LH.length ≤ 1048576 := RBy.out.hs.1
  obtain ⟨W4, hW4⟩ : ∃ W, W = w3.alloc (.cells #[.string mt, .string pt, .slice p1 LQ.length e1, .slice p2 LH.length e2, .string bd] 25) := ⟨_, rfl⟩
  have b34 : Below w3.heap.size w3 W4 := by rw [hW4]; exact (Below.refl _ _).alloc (Nat.le_refl _) _
  obtain ⟨Y8, hY8⟩ : ∃ X, X = w3.heap.size := ⟨_, rfl⟩
  have X8 : Hid (RowAt W4 Y8 25 #[.string mt, .string pt, .slice p1 LQ.length e1, .slice p2 LH.length e2, .string bd]) := by rw [hW4, hY8]; exact RowAt.new _ _ _
  have X3c := hid (RowAt.nxS b34 X3b.out)
  have X4c := hid (RowAt.nxS b34 X4b.out)
  have L4 := hid (L3.out.trans (b34.mono L3.out.size))
  have HQ4 := hid (HQ3.out.below b34)
  have HH4 := hid (HH3.out.below b34)
  have HW4 := hid hW4
  have HY8 := hid hY8
  clear hW4 hY8 b34 X3b X4b HQ3 HH3
  go_upto_region 5 with ((refine wpList_store_row rfl 25 (.tmp 8) (.tmp 29) rfl w3.heap.size #[.string mt, .string pt, .slice p1 LQ.length e1, .slice p2 LH.length e2, .string bd] rfl rfl _ _ (RowAt.new w3 _ _) (by kernel_rfl) rfl (by simp [Value.oneCell']) ?_); rw [World.setRow_alloc_new])
  rw [← HW4.out, ← HY8.out]
  clear HW4 HY8 L3
  have x0 := X3c.out.cell 0
  have x1 := X3c.out.cell 1
  have x2 := X3c.out.cell 2
  have x3 := X3c.out.cell 3
  have x4 := X3c.out.cell 4
  have k0 := X4c.out.cell 0
  have k1 := X4c.out.cell 1
  have KS4 := KS W4 L4.out
  go_wp2_with fail
  refine KS4.out.mono ?_
  rintro e w5 ⟨hb5, hA5⟩
  clear x0 x1 x2 x3 x4 k0 k1 KS4 KS
  rcases hA5 with ⟨_, q1, f1, q2, f2, D1, D2, rfl, oq5, oh5, _⟩ | ⟨no, _⟩
  case inr => exact absurd OK.out no
  dsimp only
  rw [← HLQ.out, ← HLH.out]
  rw [← HLQ.out] at oq5
  rw [← HLH.out] at oh5
  have GQ5 := hid (hps_own oq5 rfl)
  have GH5 := hid (hps_own oh5 rfl)
  have X8b := hid (RowAt.nxS hb5 X8.out)
  have X4d := hid (RowAt.nxS hb5 X4c.out)
  have L5 := hid (L4.out.trans (hb5.mono L4.out.size))
  have HQ5 := hid (HQ4.out.below hb5)
  have HH5 := hid (HH4.out.below hb5)
  clear hb5 X8 X3c X4c L4 HQ4 HH4 oq5 oh5
  obtain ⟨W6, hW6⟩ : ∃ W, W = w5.alloc (.cells #[.string mt, .string pt, .slice q1 LQ.length f1, .slice q2 LH.length f2, .string bd] 25) := ⟨_, rfl⟩
  have b56 : Below w5.heap.size w5 W6 := by rw [hW6]; exact (Below.refl _ _).alloc (Nat.le_refl _) _
  obtain ⟨Y9, hY9⟩ : ∃ X, X = w5.heap.size := ⟨_, rfl⟩
  have X9 : Hid (RowAt W6 Y9 25 #[.string mt, .string pt, .slice q1 LQ.length f1, .slice q2 LH.length f2, .string bd]) := by rw [hW6, hY9]; exact RowAt.new _ _ _
  have X8c := hid (RowAt.nxS b56 X8b.out)
  have X4e := hid (RowAt.nxS b56 X4d.out)
  have L6 := hid (L5.out.trans (b56.mono L5.out.size))
  have HQ6 := hid (HQ5.out.below b56)
  have HH6 := hid (HH5.out.below b56)
  have KL := hid (lwRequest_eq mt pt p1 LQ.length e1 p2 LH.length e2 bd q1 f1 q2 f2 (hAt LQ) (hAt LH) W6 HQ6.out HH6.out (GQ5.out.below b56) (GH5.out.below b56) lq lh)
  have HW6 := hid hW6
  have HY9 := hid hY9
  clear hW6 hY9 b56 X8b X4d HQ5 HH5 GQ5 GH5
  go_upto_region 6 with ((refine wpList_store_row rfl 25 (.tmp 9) (.tmp 35) rfl w5.heap.size #[.string mt, .string pt, .slice q1 LQ.length f1, .slice q2 LH.length f2, .string bd] rfl rfl _ _ (RowAt.new w5 _ _) (by kernel_rfl) rfl (by simp [Value.oneCell']) ?_); rw [World.setRow_alloc_new])
  rw [← HW6.out, ← HY9.out]
  clear HW6 HY9 L5
  have x0 := X8c.out.cell 0
  have y0 := X9.out.cell 0
  have x1 := X8c.out.cell 1
  have y1 := X9.out.cell 1
  have x2 := X8c.out.cell 2
  have y2 := X9.out.cell 2
  have x3 := X8c.out.cell 3
  have y3 := X9.out.cell 3
  have x4 := X8c.out.cell 4
  have y4 := X9.out.cell 4
  go_wp2_with fail
  refine KL.out.mono ?_
  rintro e w7 ⟨rfl, hb7⟩
  have X9b := hid (RowAt.nxS hb7 X9.out)
  have X8d := hid (RowAt.nxS hb7 X8c.out)
  have X4f := hid (RowAt.nxS hb7 X4e.out)
  have L7 := hid (L6.out.trans (hb7.mono L6.out.size))
  have HQ7 := hid (HQ6.out.below hb7)
  have HH7 := hid (HH6.out.below hb7)
  clear x0 y0 x1 y1 x2 y2 x3 y3 x4 y4 KL hb7 X9 X8c X4e L6 HQ6 HH6
  obtain ⟨W8, hW8⟩ : ∃ W, W = w7.alloc (.cells #[.string id, .string sec] 27) := ⟨_, rfl⟩
  have b78 : Below w7.heap.size w7 W8 := by rw [hW8]; exact (Below.refl _ _).alloc (Nat.le_refl _) _
  obtain ⟨XK, hXK⟩ : ∃ X, X = w7.heap.size := ⟨_, rfl⟩
  have XKr : Hid (RowAt W8 XK 27 #[.string id, .string sec]) := by rw [hW8, hXK]; exact RowAt.new _ _ _
  obtain ⟨W10, hW10⟩ : ∃ W, W = W8.alloc (.cells #[.int .i64 0, .string id] 35) := ⟨_, rfl⟩
  have b810 : Below W8.heap.size W8 W10 := by rw [hW10]; exact (Below.refl _ _).alloc (Nat.le_refl _) _
  obtain ⟨X11, hX11⟩ : ∃ X, X = W8.heap.size := ⟨_, rfl⟩
  have b710 := b78.trans (b810.mono b78.size)
  have X11r : Hid (RowAt W10 X11 35 #[.int .i64 0, .string id]) := by rw [hW10, hX11]; exact RowAt.new _ _ _
  have XK10 := hid (RowAt.nxS b810 XKr.out)
  have X8e := hid (RowAt.nxS b710 X8d.out)
  have X4g := hid (RowAt.nxS b710 X4f.out)
  have L10 := hid (L7.out.trans (b710.mono L7.out.size))
  have HQ10 := hid (HQ7.out.below b710)
  have HH10 := hid (HH7.out.below b710)
  have m0 := (RowAt.nxS b78 X9b.out).cell 0
  have k0 := X4f.out.cell 0
  have k1 := X4f.out.cell 1
  have j0 := (RowAt.nxS b78 X4f.out).cell 0
  have em : (mt.toList == []) = false := by
    rw [show ([] : List UInt8) = (⟨#[]⟩ : ByteArray).toList from by simp [ByteArray.toList_eq], eqL]
    exact decide_eq_false fun q => by rw [q] at mt1; exact absurd mt1 (by decide)
  have en : (mt.toList == (⟨#[]⟩ : ByteArray).toList) = false := by
    rw [eqL]
    exact decide_eq_false fun q => by rw [q] at mt1; exact absurd mt1 (by decide)
  have HW8 := hid hW8
  have HXK := hid hXK
  have HW10 := hid hW10
  have HX11 := hid hX11
  clear hW8 hXK hW10 hX11 b78 b810 b710 HQ7 HH7
  go_upto_region 9 with fail
  rw [← HW8.out, ← HXK.out]
  clear HW8 HXK k0 k1
  go_upto_region 12 with ((refine wpList_store_row rfl 35 (.tmp 11) (.tmp 47) rfl W8.heap.size #[.int .i64 0, .string id] rfl rfl _ _ (RowAt.new W8 _ _) (by kernel_rfl) rfl (by simp [Value.oneCell']) ?_); rw [World.setRow_alloc_new])
  rw [← HW10.out, ← HX11.out]
  clear HW10 HX11 m0 j0 em en
  have BW : Hid (Below w.heap.size w W10) := HB1.out.trans (L10.out.mono HB1.out.size)
  have HV10 : Hid (RdV W10) := HV.out.below BW.out
  have ak1 : ∀ k, k < 1 → W10.cell? ⟨XK, 0 + k * 2, none⟩ = some (.string id) ∧ W10.cell? ⟨XK, 0 + k * 2 + 1, none⟩ = some (.string sec) := fun k hk => by
    have e : k = 0 := by omega
    subst e
    exact ⟨XK10.out.cell 0, XK10.out.cell 1⟩
  have AKs : Hid (Aks W10 (some ⟨XK, 0, none⟩) 1 1 (fun _ => ⟨id, sec⟩)) := ⟨Nat.le_refl _, .inr ⟨XK, 0, rfl, XK10.out.lt, ak1⟩⟩
  clear ak1
  have CK : Hid (∀ (kA : Option Addr) (n kc : Nat) (ks : Nat → Ak) (now : Int) (wx : World), n ≤ 1048576 → Below W10.heap.size W10 wx → Aks wx kA n kc ks → Calls Tryz.prog 11 #[.agg #[.string mt, .string pt, .slice p1 LQ.length e1, .slice p2 LH.length e2, .string bd], .slice kA n kc, .int .i64 now] wx fun e w' => e = .returned (.agg #[.int .i64 (ckR (⟨mt, pt, ⟨p1, LQ.length, e1, hAt LQ⟩, ⟨p2, LH.length, e2, hAt LH⟩, bd⟩ : Rq) n ks now).1, .string (ckR (⟨mt, pt, ⟨p1, LQ.length, e1, hAt LQ⟩, ⟨p2, LH.length, e2, hAt LH⟩, bd⟩ : Rq) n ks now).2]) ∧ Below wx.heap.size wx w') := fun kA n kc ks now wx hn hx hk => iCheck mt pt p1 LQ.length e1 (hAt LQ) p2 LH.length e2 (hAt LH) bd kA n kc ks now RBy.out hn wx (HV10.out.below hx) ⟨HQ10.out.below hx, HH10.out.below hx⟩ hk
  have G1 : Hid (∀ t, nw ≤ t ∧ t ≤ nw + ls → ckR (⟨mt, pt, ⟨p1, LQ.length, e1, hAt LQ⟩, ⟨p2, LH.length, e2, hAt LH⟩, bd⟩ : Rq) 1 (fun _ => ⟨id, sec⟩) t = (0, id)) := fun t ht => by rw [HLQ.out, HLH.out]; exact sg_good OK.out ht
  have G2 : Hid (∀ t, ¬ (nw ≤ t ∧ t ≤ nw + ls) → ckR (⟨mt, pt, ⟨p1, LQ.length, e1, hAt LQ⟩, ⟨p2, LH.length, e2, hAt LH⟩, bd⟩ : Rq) 1 (fun _ => ⟨id, sec⟩) t = (13, ⟨#[]⟩)) := fun t ht => by rw [HLQ.out, HLH.out]; exact sg_bad OK.out ht
  have G3 : Hid (∀ t ks, ckR (⟨mt, pt, ⟨p1, LQ.length, e1, hAt LQ⟩, ⟨p2, LH.length, e2, hAt LH⟩, bd⟩ : Rq) 0 ks t = (5, ⟨#[]⟩)) := fun t ks => by rw [HLQ.out, HLH.out]; exact sg_none OK.out ks t
  have G4 : Hid (∀ (k : Nat) (d : UInt8) (h : k < sec.size), d ≠ sec[k] → ∀ t, ckR (⟨mt, pt, ⟨p1, LQ.length, e1, hAt LQ⟩, ⟨p2, LH.length, e2, hAt LH⟩, bd⟩ : Rq) 1 (fun _ => ⟨id, ⟨(turned sec k d).toArray⟩⟩) t = (12, ⟨#[]⟩)) := fun k d h hd t => by
    rw [HLQ.out, HLH.out]
    exact sg_other OK.out (sgS_turned OK.out.2.2.1 OK.out.1.2.2.2.1 OK.out.1.2.2.2.2.2.2.2.2.1 (sg_tsz OK.out) h hd) t
  refine fa_wp W10 Y8 X11 XK mt pt bd id p1 LQ.length e1 p2 LH.length e2 nw ls (nw + ls) (nw - 1) (nw + ls + 1) W10 (Below.refl _ _) X8e.out X11r.out (fun wx hx => ((CK.out _ 1 1 _ nw wx (by omega) hx (AKs.out.below hx)).mono fun e w' h => ⟨by rw [h.1, G1.out nw ⟨by omega, by omega⟩], h.2⟩)) (fun wx hx => ((CK.out _ 1 1 _ (nw + ls) wx (by omega) hx (AKs.out.below hx)).mono fun e w' h => ⟨by rw [h.1, G1.out (nw + ls) ⟨by omega, by omega⟩], h.2⟩)) (fun wx hx => ((CK.out _ 1 1 _ (nw - 1) wx (by omega) hx (AKs.out.below hx)).mono fun e w' h => ⟨by rw [h.1, G2.out (nw - 1) (by omega)], h.2⟩)) (fun wx hx => ((CK.out _ 1 1 _ (nw + ls + 1) wx (by omega) hx (AKs.out.below hx)).mono fun e w' h => ⟨by rw [h.1, G2.out (nw + ls + 1) (by omega)], h.2⟩)) (by rw [IntKind.wrap_i64] <;> omega) (by rw [IntKind.wrap_i64] <;> omega) (by rw [IntKind.wrap_i64] <;> omega) ?_
  intro dm w12 hB12 h8 _ _ _ _ _ _ _ _
  have X8f := hid h8
  have X4h := hid (RowAt.nxS hB12 X4g.out)
  have B12 := hid hB12
  clear hB12 h8 X4g X8e X11r XK10 AKs G1 G2 HQ10 HH10 HV10
  obtain ⟨r1, hr1⟩ : ∃ r : Nat, (r : Int) = Int.tmod nw 100 := ⟨(Int.tmod nw 100).toNat, Int.toNat_of_nonneg (Int.tmod_nonneg _ nw0)⟩
  obtain ⟨r2, hr2⟩ : ∃ r : Nat, (r : Int) = Int.tmod ls 100 := ⟨(Int.tmod ls 100).toNat, Int.toNat_of_nonneg (Int.tmod_nonneg _ ls0)⟩
  have r1b : r1 < 100 := by have := Int.tmod_lt_of_pos nw (show (0 : Int) < 100 by decide); omega
  have r2b : r2 < 100 := by have := Int.tmod_lt_of_pos ls (show (0 : Int) < 100 by decide); omega
  have HR1 := hid hr1.symm
  have HR2 := hid hr2.symm
  clear hr1 hr2
  go_upto_region 14 with fail
  refine fb_wp w12 (w1.heap.size + 1) r1 r2 id sec nw ls w12 (Below.refl _ _) X4h.out X4h.out.lt HR1.out HR2.out (fun wx _ => lwTurn_all sec r1 r2 (by omega) (by omega) (by omega) (by omega) wx) ?_
  rintro t8 XO w14 hB14 _ _ _ _ _ ⟨k9, d9, hk9, hne9, rfl⟩ ⟨hXO, hXOl⟩
  have X8g := hid (RowAt.nxS hB14 X8f.out)
  have B14 := hid (B12.out.trans (hB14.mono B12.out.size))
  have XOr := hid hXO
  have G5 := hid (G4.out k9 d9 hk9 hne9 nw)
  have G6 := hid (G3.out nw (fun _ => ⟨id, sec⟩))
  clear hB14 hXO hXOl B12 X8f X4h G4 G3 HR1 HR2 r1b r2b hne9
  generalize (⟨(turned sec k9 d9).toArray⟩ : ByteArray) = T8 at XOr G5
  go_upto_region 15 with fail
  have e14 : Below w14.heap.size w14 (w14.alloc (.cells #[] 27)) := (Below.refl _ _).alloc (Nat.le_refl _) _
  have KA : Hid (Calls Tryz.prog 11 #[.agg #[.string mt, .string pt, .slice p1 LQ.length e1, .slice p2 LH.length e2, .string bd], .slice (some ⟨w14.heap.size, 0, none⟩) 0 0, .int .i64 nw] (w14.alloc (.cells #[] 27)) fun e w' => e = .returned (.agg #[.int .i64 5, .string ⟨#[]⟩]) ∧ Below (w14.alloc (.cells #[] 27)).heap.size (w14.alloc (.cells #[] 27)) w') := (CK.out (some ⟨w14.heap.size, 0, none⟩) 0 0 (fun _ => ⟨id, sec⟩) nw _ (by omega) (B14.out.trans (e14.mono B14.out.size)) ⟨Nat.le_refl _, .inl rfl⟩).mono fun e w' h => ⟨by rw [h.1, G6.out], h.2⟩
  have KB : Hid (∀ wx, Below W10.heap.size W10 wx → RowAt wx XO 27 #[.string id, .string T8] → Calls Tryz.prog 11 #[.agg #[.string mt, .string pt, .slice p1 LQ.length e1, .slice p2 LH.length e2, .string bd], .slice (some ⟨wx.heap.size, 0, none⟩) 1 1, .int .i64 nw] (wx.alloc (.cells #[.string id, .string T8] 27)) fun e w' => e = .returned (.agg #[.int .i64 12, .string ⟨#[]⟩]) ∧ Below (wx.alloc (.cells #[.string id, .string T8] 27)).heap.size (wx.alloc (.cells #[.string id, .string T8] 27)) w') := fun wx hx _ => by
    have ea : Below wx.heap.size wx (wx.alloc (.cells #[.string id, .string T8] 27)) := (Below.refl _ _).alloc (Nat.le_refl _) _
    have R := RowAt.new wx 27 #[.string id, .string T8]
    refine (CK.out (some ⟨wx.heap.size, 0, none⟩) 1 1 (fun _ => ⟨id, T8⟩) nw _ (by omega) (hx.trans (ea.mono hx.size)) ⟨Nat.le_refl _, .inr ⟨wx.heap.size, 0, rfl, R.lt, fun k hk => ?_⟩⟩).mono fun e w' h => ⟨by rw [h.1, G5.out], h.2⟩
    have e : k = 0 := by omega
    subst e
    exact ⟨R.cell 0, R.cell 1⟩
  have f5 : ∀ w, (Instr.field 35 (.agg #[.int .i64 5, .string ⟨#[]⟩]) 0).run Tryz.prog w = .ok (.int .i64 5) w := fun w => by kernel_rfl
  have f12 : ∀ w, (Instr.field 35 (.agg #[.int .i64 12, .string ⟨#[]⟩]) 0).run Tryz.prog w = .ok (.int .i64 12) w := fun w => by kernel_rfl
  have x0 := X8g.out.cell 0
  have x1 := X8g.out.cell 1
  have x2 := X8g.out.cell 2
  have x3 := X8g.out.cell 3
  have x4 := X8g.out.cell 4
  have E14 := hid e14
  clear e14 CK G5 G6
  go_wp2_with fail
  refine KA.out.mono ?_
  rintro e w15 ⟨rfl, hb15⟩
  have B15 := hid (E14.out.trans (hb15.mono E14.out.size))
  have X8h := hid (RowAt.nxS B15.out X8g.out)
  have XOs := hid (RowAt.nxS B15.out XOr.out)
  have B15b := hid (B14.out.trans (B15.out.mono B14.out.size))
  clear x0 x1 x2 x3 x4 hb15 KA
  have x0 := X8h.out.cell 0
  have x1 := X8h.out.cell 1
  have x2 := X8h.out.cell 2
  have x3 := X8h.out.cell 3
  have x4 := X8h.out.cell 4
  have o0 := XOs.out.cell 0
  have o1 := XOs.out.cell 1
  have KC := hid (KB.out w15 B15b.out XOs.out)
  clear KB
  go_wp2_with fail
  refine KC.out.mono ?_
  rintro e w16 ⟨rfl, hb16⟩
  have FB : Hid (Below w.heap.size w w16) := by
    have ea : Below w15.heap.size w15 (w15.alloc (.cells #[.string id, .string T8] 27)) := (Below.refl _ _).alloc (Nat.le_refl _) _
    have q1 := BW.out.trans (B15b.out.mono BW.out.size)
    have q2 := q1.trans (ea.mono q1.size)
    exact q2.trans (hb16.mono q2.size)
  clear hb16 KC x0 x1 x2 x3 x4 o0 o1
  go_wp2
  go_ret
  exact ⟨rfl, FB.out⟩
end Go.Proofs.YtepdodifgkejjaaGreatDoor
namespace Go.Proofs.YtepdodifgkejjaaGreatDoor
open Go.RowKit
/-! FnSignedIn, as a row hands its code in. -/
set_option maxRecDepth 20000 in
theorem fnSignedIn_walk {w : World} (hv : RdV w) (a0 : Option Addr) (len0 cap0 : Nat) (z0 : List Int) (h0 : IsRow .u8 w a0 len0 cap0 z0) :
    Calls Tryz.prog 3 #[.slice a0 len0 cap0] w fun e w' => e = .returned (.bool true) ∧ Below w.heap.size w w' := by
  have m0 := h0.le
  unfold maxLen at m0
  by_cases hl0 : len0 ≤ 1048576
  · exact fnSignedIn_core w hv a0 len0 cap0 (codeOk_of w a0 len0 cap0 z0 h0 hl0) m0.1
  · have d0 : decide ((1048576 : Int) < (len0 : Int)) = true := by simp; omega
    clear hv
    go_enter Tryz.func3, Tryz.ntmps3
    go_wp2
    go_ret
    exact ⟨rfl, Below.refl _ _⟩
end Go.Proofs.YtepdodifgkejjaaGreatDoor
