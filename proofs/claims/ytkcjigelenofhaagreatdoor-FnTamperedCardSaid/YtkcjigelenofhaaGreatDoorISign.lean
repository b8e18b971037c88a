import Derived.Test.YtkcjigelenofhaaGreatDoorIS
import Derived.Test.YtkcjigelenofhaaGreatDoorSSign
namespace Go.Proofs.YtkcjigelenofhaaGreatDoor
open Go.RowKit
theorem hAt_app {Q M : List Hp} {i : Nat} (h : i < Q.length) : hAt (Q ++ M) i = hAt Q i := by
 unfold hAt
 rw [List.getD_eq_getElem?_getD, List.getD_eq_getElem?_getD, List.getElem?_append_left h]
theorem rqP_snoc {mt pt bd : ByteArray} {Q M H : List Hp} (h : rqP (mkRq mt pt (Q ++ M) H bd)) : rqP (mkRq mt pt Q H bd) := by
 obtain ⟨h1, h2, h3, h4, h5, h6, h7⟩ := h
 have hl : Q.length ≤ (Q ++ M).length := by simp
 refine ⟨h1, h2, ⟨Nat.le_trans hl h3.1, fun i hi k hk => ?_⟩, h4, h5, fun i hi => ?_, h7⟩
 · have hi' : i < Q.length := hi
   have := h3.2 i (Nat.lt_of_lt_of_le hi' hl) k hk
   simp only [mkRq] at this ⊢
   rwa [hAt_app hi', hAt_app (by omega)] at this
 · have hi' : i < Q.length := hi
   have := h6 i (Nat.lt_of_lt_of_le hi' hl)
   simp only [mkRq] at this ⊢
   rwa [hAt_app hi'] at this
theorem hpl_self (L : List Hp) : hpList (hAt L) L.length = L := by
 apply List.ext_getElem?
 intro i
 unfold hpList
 by_cases h : i < L.length
 · rw [List.getElem?_map, List.getElem?_range h, List.getElem?_eq_getElem h]
   show some _ = some _
   unfold hAt
   rw [List.getD_eq_getElem?_getD, List.getElem?_eq_getElem h]
   rfl
 · rw [List.getElem?_eq_none (by simp; omega), List.getElem?_eq_none (by omega)]
theorem ft_ok {r : Rq} {id sec : ByteArray} {nw ls : Int} {ts : Nat → ByteArray} {m : Nat} (h : sgOk r id sec nw ls ts m) : ftP id nw ls r.qs.n r.qs.o r.hs.n r.hs.o ts m := by
 obtain ⟨⟨_, h2, _, _, h5, h6, h7, h8, _, h10⟩, hx, _⟩ := h
 exact ⟨fun ⟨i, hi, q⟩ => hx i hi q, h2, ⟨h5, h6⟩, ⟨h7, h8⟩, h10⟩
set_option maxRecDepth 20000 in
set_option maxHeartbeats 16000000 in
theorem iSign (mt pt : ByteArray) (a1 : Option Addr) (n1 c1 : Nat) (o1 : Nat → Hp) (a2 : Option Addr) (n2 c2 : Nat) (o2 : Nat → Hp) (bd id sec : ByteArray) (tA : Option Addr) (m mc : Nat) (ts : Nat → ByteArray) (nw ls : Int) (hB : RqB ⟨mt, pt, ⟨a1, n1, c1, o1⟩, ⟨a2, n2, c2, o2⟩, bd⟩ 1048576) (hm : m ≤ 1048576) (hts : ∀ i, i < m → (ts i).size ≤ 1048576) (w : World) (hTB : TB w) (h : RqIn w ⟨mt, pt, ⟨a1, n1, c1, o1⟩, ⟨a2, n2, c2, o2⟩, bd⟩) (hT : Strs w tA m mc ts) :
 Calls Tryz.prog 8 #[.agg #[.string mt, .string pt, .slice a1 n1 c1, .slice a2 n2 c2, .string bd], .agg #[.string id, .string sec], .slice tA m mc, .int .i64 nw, .int .i64 ls] w fun e w' => AnsSg w ⟨mt, pt, ⟨a1, n1, c1, o1⟩, ⟨a2, n2, c2, o2⟩, bd⟩ id sec nw ls ts m e w' := by
 obtain ⟨W1, hW1⟩ : ∃ W, W = ((((w.alloc (.cells #[.string mt, .string pt, .slice a1 n1 c1, .slice a2 n2 c2, .string bd] 25)).alloc (.cells #[.string id, .string sec] 27)).alloc (.cells #[.string ⟨#[]⟩, .string ⟨#[]⟩, .slice none 0 0, .slice none 0 0, .string ⟨#[]⟩] 25)).alloc (.cells #[.string ⟨#[]⟩, .int .i64 0, .int .i64 0, .slice none 0 0] 72)).setRow (w.heap.size + 1 + 1 + 1) #[.string id, .int .i64 nw, .int .i64 ls, .slice tA m mc] := ⟨_, rfl⟩
 have X5 : Hid (RowAt W1 w.heap.size 25 #[.string mt, .string pt, .slice a1 n1 c1, .slice a2 n2 c2, .string bd]) := by rw [hW1]; exact ((((RowAt.new _ _ _).alloc _).alloc _).alloc _).otherRow _ _ (by omega)
 have X6 : Hid (RowAt W1 (w.heap.size + 1) 27 #[.string id, .string sec]) := by rw [hW1]; exact (((RowAt.next _ _ _ (by simp only [size_al])).alloc _).alloc _).otherRow _ _ (by omega)
 have X10 : Hid (RowAt W1 (w.heap.size + 1 + 1) 25 #[.string ⟨#[]⟩, .string ⟨#[]⟩, .slice none 0 0, .slice none 0 0, .string ⟨#[]⟩]) := by rw [hW1]; exact ((RowAt.next _ _ _ (by simp only [size_al])).alloc _).otherRow _ _ (by omega)
 have X11 : Hid (RowAt W1 (w.heap.size + 1 + 1 + 1) 72 #[.string id, .int .i64 nw, .int .i64 ls, .slice tA m mc]) := by rw [hW1]; exact (RowAt.next _ _ _ (by simp only [size_al])).setRow _
 have B1 : Hid (Below w.heap.size w W1) := by rw [hW1]; exact below_setRow (((((Below.refl _ _).alloc (Nat.le_refl _) _).alloc (by simp) _).alloc (by simp; omega) _).alloc (by simp; omega) _) _ _ (by omega)
 have Z1 : Hid (w.heap.size + 1 + 1 + 1 < W1.heap.size) := by rw [hW1]; show _ < _; simp [World.setRow]
 have KR := fun wx (hbx : Below w.heap.size w wx) => hid (iRqF ⟨mt, pt, ⟨a1, n1, c1, o1⟩, ⟨a2, n2, c2, o2⟩, bd⟩ hB wx (h.below hbx))
 have KF := fun wx (hbx : Below w.heap.size w wx) => hid (iFits id nw ls tA m mc ts hm hts a1 n1 c1 o1 hB.qs.1 a2 n2 c2 o2 hB.hs.1 (fun i hi => (hB.hs.2 i hi).1) wx (h.below hbx).qs (h.below hbx).hs (hT.below hbx))
 have KC := fun wx => hid (iSecret sec wx)
 have HIN := hid h
 have HT := hid hT
 have HTB := hid hTB
 have HBB := hid hB
 have HTS := hid hts
 obtain ⟨RVv, hRV⟩ : ∃ v, v = rqV ⟨mt, pt, ⟨a1, n1, c1, o1⟩, ⟨a2, n2, c2, o2⟩, bd⟩ := ⟨_, rfl⟩
 have HRV := hid hRV
 rw [← hRV] at KR
 have HW1 := hid hW1
 have k0 := X6.out.cell 0
 clear hW1 h hT hB hRV hTB hts
 go_enter Tryz.func8, Tryz.ntmps8
 go_upto_region 2 with (refine wpList_store_row rfl 72 (.tmp 11) (.tmp 19) rfl (w.heap.size + 1 + 1 + 1) #[.string id, .int .i64 nw, .int .i64 ls, .slice tA m mc] rfl rfl _ _ (RowAt.next _ _ _ (by simp only [size_al])) (by kernel_rfl) rfl (by simp [Value.oneCell']) ?_)
 rw [← HW1.out]
 clear k0
 have x0 := X5.out.cell 0
 have x1 := X5.out.cell 1
 have x2 := X5.out.cell 2
 have x3 := X5.out.cell 3
 have x4 := X5.out.cell 4
 go_wp2_with fail
 refine (KR _ B1.out).out.mono ?_
 rintro e w2 ⟨rfl, hb2⟩
 have X5b := hid (RowAt.nxS hb2 X5.out)
 have X6b := hid (RowAt.nxS hb2 X6.out)
 have X10b := hid (RowAt.nxS hb2 X10.out)
 have X11b := hid (RowAt.nxS hb2 X11.out)
 have B2 := hid (B1.out.trans (hb2.mono B1.out.size))
 have Z2 : Hid (w.heap.size + 1 + 1 + 1 < w2.heap.size) := Nat.lt_of_lt_of_le Z1.out hb2.size
 clear hb2 X5 X6 X10 X11 B1 x0 x1 x2 x3 x4 HW1 Z1
 by_cases h1 : rqP ⟨mt, pt, ⟨a1, n1, c1, o1⟩, ⟨a2, n2, c2, o2⟩, bd⟩
 case neg =>
  have v1 : RVv = 1 := by rw [HRV.out]; exact rqV_f h1
  subst v1
  have NO : Hid (¬ sgOk ⟨mt, pt, ⟨a1, n1, c1, o1⟩, ⟨a2, n2, c2, o2⟩, bd⟩ id sec nw ls ts m) := fun hh => h1 hh.1.1
  clear h1
  go_wp2_with (refine wpList_store_row rfl 25 (.tmp 10) (.tmp 38) rfl (w.heap.size + 1 + 1) #[.string ⟨#[]⟩, .string ⟨#[]⟩, .slice none 0 0, .slice none 0 0, .string ⟨#[]⟩] rfl rfl _ _ X10b.out (by kernel_rfl) rfl (by simp [Value.oneCell']) ?_)
  refine bodyPost_ret (v := .agg #[.string ⟨#[]⟩, .string ⟨#[]⟩, .slice none 0 0, .slice none 0 0, .string ⟨#[]⟩]) ?_ rfl ⟨below_setRow B2.out _ _ (by omega), .inr ⟨NO.out, rfl⟩⟩
  exact results_cell_row Tryz.results8 _ _ (w.heap.size + 1 + 1) _ _ _ _ rfl (X10b.out.setRow _) Tryz.underlying25 rfl (by kernel_rfl)
 have v1 : RVv = 0 := by rw [HRV.out]; exact rqV_t h1
 subst v1
 have H1 := hid h1
 clear h1
 have s0 := X11b.out.cell 0
 have s1 := X11b.out.cell 1
 have s2 := X11b.out.cell 2
 have s3 := X11b.out.cell 3
 have x2 := X5b.out.cell 2
 have x3 := X5b.out.cell 3
 go_wp2_with fail
 refine (KF _ B2.out).out.mono ?_
 rintro e w3 ⟨rfl, hb3⟩
 have X5c := hid (RowAt.nxS hb3 X5b.out)
 have X6c := hid (RowAt.nxS hb3 X6b.out)
 have X10c := hid (RowAt.nxS hb3 X10b.out)
 have X11c := hid (RowAt.nxS hb3 X11b.out)
 have B3 := hid (B2.out.trans (hb3.mono B2.out.size))
 have Z3 : Hid (w.heap.size + 1 + 1 + 1 < w3.heap.size) := Nat.lt_of_lt_of_le Z2.out hb3.size
 clear hb3 X5b X6b X10b X11b B2 s0 s1 s2 s3 x2 x3 Z2 KF KR
 by_cases h2 : ftP id nw ls n1 o1 n2 o2 ts m
 case neg =>
  rw [pb_f h2]
  have NO : Hid (¬ sgOk ⟨mt, pt, ⟨a1, n1, c1, o1⟩, ⟨a2, n2, c2, o2⟩, bd⟩ id sec nw ls ts m) := fun hh => h2 (ft_ok hh)
  clear h2
  go_wp2_with (refine wpList_store_row rfl 25 (.tmp 10) (.tmp 38) rfl (w.heap.size + 1 + 1) #[.string ⟨#[]⟩, .string ⟨#[]⟩, .slice none 0 0, .slice none 0 0, .string ⟨#[]⟩] rfl rfl _ _ X10c.out (by kernel_rfl) rfl (by simp [Value.oneCell']) ?_)
  refine bodyPost_ret (v := .agg #[.string ⟨#[]⟩, .string ⟨#[]⟩, .slice none 0 0, .slice none 0 0, .string ⟨#[]⟩]) ?_ rfl ⟨below_setRow B3.out _ _ (by omega), .inr ⟨NO.out, rfl⟩⟩
  exact results_cell_row Tryz.results8 _ _ (w.heap.size + 1 + 1) _ _ _ _ rfl (X10c.out.setRow _) Tryz.underlying25 rfl (by kernel_rfl)
 rw [pb_t h2]
 have H2 := hid h2
 clear h2
 have k1 := X6c.out.cell 1
 go_wp2_with fail
 refine (KC _).out.mono ?_
 rintro e w4 ⟨rfl, hw⟩
 obtain rfl := hw
 by_cases h3 : scP sec
 case neg =>
  rw [pb_f h3]
  have NO : Hid (¬ sgOk ⟨mt, pt, ⟨a1, n1, c1, o1⟩, ⟨a2, n2, c2, o2⟩, bd⟩ id sec nw ls ts m) := fun hh => h3 ⟨hh.1.2.2.1, hh.1.2.2.2.1⟩
  clear h3 k1
  go_wp2_with (refine wpList_store_row rfl 25 (.tmp 10) (.tmp 38) rfl (w.heap.size + 1 + 1) #[.string ⟨#[]⟩, .string ⟨#[]⟩, .slice none 0 0, .slice none 0 0, .string ⟨#[]⟩] rfl rfl _ _ X10c.out (by kernel_rfl) rfl (by simp [Value.oneCell']) ?_)
  refine bodyPost_ret (v := .agg #[.string ⟨#[]⟩, .string ⟨#[]⟩, .slice none 0 0, .slice none 0 0, .string ⟨#[]⟩]) ?_ rfl ⟨below_setRow B3.out _ _ (by omega), .inr ⟨NO.out, rfl⟩⟩
  exact results_cell_row Tryz.results8 _ _ (w.heap.size + 1 + 1) _ _ _ _ rfl (X10c.out.setRow _) Tryz.underlying25 rfl (by kernel_rfl)
 rw [pb_t h3]
 have OK0 : Hid (sgOk0 ⟨mt, pt, ⟨a1, n1, c1, o1⟩, ⟨a2, n2, c2, o2⟩, bd⟩ id sec nw ls ts m) := ⟨H1.out, H2.out.2.1, h3.1, h3.2, H2.out.2.2.1.1, H2.out.2.2.1.2, H2.out.2.2.2.1.1, H2.out.2.2.2.1.2, H2.out.2.2.2.2.2, H2.out.2.2.2.2⟩
 have NX : Hid (∀ i, i < n1 → ¬ bgP (o1 i).nm ⟨#[120, 45]⟩) := fun i hi q => H2.out.1 ⟨i, hi, q⟩
 have h4 : sec.size ≤ 100 := h3.2
 have h9 : m ≤ 10 := H2.out.2.2.2.2.2
 have TSZ : Hid (∀ i, i < m → (ts i).size ≤ 60) := sgn_sz H1.out H2.out.2.2.2.2
 have T1000 : Hid (∀ i, i < m → (ts i).size ≤ 1000) := fun i hi => Nat.le_trans (TSZ.out i hi) (by omega)
 have TN := hid H2.out.2.2.1
 have TL := hid H2.out.2.2.2.1
 clear h3 k1 KC H2
 obtain ⟨LQ, hLQ⟩ : ∃ l, l = hpList o1 n1 := ⟨_, rfl⟩
 obtain ⟨LH, hLH⟩ : ∃ l, l = hpList o2 n2 := ⟨_, rfl⟩
 have HlQ : Hid (LQ.length ≤ 30) := by show _ ≤ _; rw [hLQ, hpList_len]; exact H1.out.2.2.1.1
 have HlH : Hid (LH.length ≤ 30) := by show _ ≤ _; rw [hLH, hpList_len]; exact H1.out.2.2.2.1.1
 have KCL : Hid (Calls Tryz.prog 41 #[.agg #[.string mt, .string pt, .slice a1 n1 c1, .slice a2 n2 c2, .string bd]] w4 fun e w' => (∃ aQ cQ BQ aH cH BH, e = .returned (.agg #[.string mt, .string pt, .slice aQ LQ.length cQ, .slice aH LH.length cH, .string bd]) ∧ OwnHp w' BQ (.slice aQ LQ.length cQ) LQ ∧ OwnHp w' BH (.slice aH LH.length cH) LH ∧ w4.heap.size ≤ BQ ∧ w4.heap.size ≤ BH ∧ ∀ g, (Value.slice aQ LQ.length cQ).ownBlock = some g → g < BH) ∧ Below w4.heap.size w4 w') := by
  show Calls _ _ _ _ _
  rw [hLQ, hLH]
  simp only [hpList_len]
  refine iCloneRq mt pt bd a1 n1 c1 o1 a2 n2 c2 o2 ?_ w4 (HIN.out.below B3.out)
  obtain ⟨p1, p2, p3, p4, p5, p6, p7⟩ := H1.out
  exact ⟨Nat.le_trans p1.2.1 (by omega), Nat.le_trans p2.2.1 (by omega), ⟨Nat.le_trans p3.1 (by omega), fun i hi => ⟨Nat.le_trans (p6 i hi).2.1 (by omega), Nat.le_trans (p6 i hi).2.2 (by omega)⟩⟩, ⟨Nat.le_trans p4.1 (by omega), fun i hi => ⟨Nat.le_trans (p7 i hi).1.2.1 (by omega), Nat.le_trans (p7 i hi).2.1 (by omega)⟩⟩, Nat.le_trans p5 (by omega)⟩
 have EQ1 : Hid (LQ ++ sg4 id nw ls ts m = sgQ1 ⟨mt, pt, ⟨a1, n1, c1, o1⟩, ⟨a2, n2, c2, o2⟩, bd⟩ id nw ls ts m) := by show _ = _; rw [sgQ1_4, hLQ]
 have EH : Hid (LH = sgH ⟨mt, pt, ⟨a1, n1, c1, o1⟩, ⟨a2, n2, c2, o2⟩, bd⟩) := hLH
 have x0 := X5c.out.cell 0
 have x1 := X5c.out.cell 1
 have x2 := X5c.out.cell 2
 have x3 := X5c.out.cell 3
 have x4 := X5c.out.cell 4
 clear hLQ hLH
 go_wp2_with fail
 refine KCL.out.mono ?_
 rintro e w5 ⟨⟨aQ, cQ, BQ, aH, cH, BH, rfl, hOQ, hOH, hq1, hq2, hap⟩, hb5⟩
 have X5d := hid (RowAt.nxS hb5 X5c.out)
 have X6d := hid (RowAt.nxS hb5 X6c.out)
 have X10d := hid (RowAt.nxS hb5 X10c.out)
 have X11d := hid (RowAt.nxS hb5 X11c.out)
 have B5 := hid (B3.out.trans (hb5.mono B3.out.size))
 have Z5 : Hid (w.heap.size + 1 + 1 + 1 < w5.heap.size) := Nat.lt_of_lt_of_le Z3.out hb5.size
 have z45 : w4.heap.size ≤ w5.heap.size := hb5.size
 have OQ := hid (OwnHp.mono hOQ hq1)
 have OH := hid (OwnHp.mono hOH hq2)
 have AP : Hid ((Value.slice aH LH.length cH).ownBlock = none ∨ (Value.slice aH LH.length cH).ownBlock ≠ (Value.slice aQ LQ.length cQ).ownBlock) := by
  rcases Option.eq_none_or_eq_some ((Value.slice aH LH.length cH).ownBlock) with e | ⟨g, e⟩
  · exact .inl e
  · refine .inr fun q => ?_
    have g1 := hap g (by rw [← q, e])
    have g2 := (World.ownsRow.lt hOH g e).1
    omega
 clear hb5 X5c X6c X10c X11c B3 x0 x1 x2 x3 x4 hOQ hOH hap KCL hq1 hq2
 obtain ⟨X12, hX12⟩ : ∃ x, x = w5.heap.size := ⟨_, rfl⟩
 obtain ⟨W6, hW6⟩ : ∃ W, W = w5.alloc (.cells #[.string mt, .string pt, .slice aQ LQ.length cQ, .slice aH LH.length cH, .string bd] 25) := ⟨_, rfl⟩
 have X12e : Hid (RowAt W6 X12 25 #[.string mt, .string pt, .slice aQ LQ.length cQ, .slice aH LH.length cH, .string bd]) := by rw [hW6, hX12]; exact RowAt.new _ _ _
 have X5e : Hid (RowAt W6 w.heap.size 25 #[.string mt, .string pt, .slice a1 n1 c1, .slice a2 n2 c2, .string bd]) := by rw [hW6]; exact X5d.out.alloc _
 have X6e : Hid (RowAt W6 (w.heap.size + 1) 27 #[.string id, .string sec]) := by rw [hW6]; exact X6d.out.alloc _
 have X10e : Hid (RowAt W6 (w.heap.size + 1 + 1) 25 #[.string ⟨#[]⟩, .string ⟨#[]⟩, .slice none 0 0, .slice none 0 0, .string ⟨#[]⟩]) := by rw [hW6]; exact X10d.out.alloc _
 have X11e : Hid (RowAt W6 (w.heap.size + 1 + 1 + 1) 72 #[.string id, .int .i64 nw, .int .i64 ls, .slice tA m mc]) := by rw [hW6]; exact X11d.out.alloc _
 have B6 : Hid (Below w.heap.size w W6) := by rw [hW6]; exact B5.out.alloc B5.out.size _
 have OQ6 : Hid (OwnHp W6 w4.heap.size (.slice aQ LQ.length cQ) LQ) := by rw [hW6]; exact World.ownsRow.alloc OQ.out _
 have OH6 : Hid (OwnHp W6 w4.heap.size (.slice aH LH.length cH) LH) := by rw [hW6]; exact World.ownsRow.alloc OH.out _
 have z6 : w4.heap.size ≤ W6.heap.size := by rw [hW6]; simp; omega
 have zst : Hid (w.heap.size ≤ w4.heap.size ∧ w.heap.size ≤ X12 ∧ X12 ≠ (w.heap.size + 1) ∧ X12 ≠ w.heap.size ∧ X12 ≠ (w.heap.size + 1 + 1) ∧ X12 ≠ (w.heap.size + 1 + 1 + 1)) := by
  have := Z3.out
  have := Z5.out
  exact ⟨by omega, by omega, by omega, by omega, by omega, by omega⟩
 have HW6 := hid hW6
 have HX12 := hid hX12
 clear hW6 hX12 X5d X6d X10d X11d B5 OQ OH z45
 go_upto_region 5 with ((refine wpList_store_row rfl 25 (.tmp 12) (.tmp 40) rfl w5.heap.size #[.string mt, .string pt, .slice aQ LQ.length cQ, .slice aH LH.length cH, .string bd] rfl rfl _ _ (RowAt.new w5 _ _) (by kernel_rfl) rfl (by simp [Value.oneCell']) ?_); rw [World.setRow_alloc_new])
 rw [← HW6.out, ← HX12.out]
 clear HW6 HX12
 obtain ⟨PL, hPL⟩ : ∃ l, l = sg4 id nw ls ts m := ⟨_, rfl⟩
 have lPL : PL.length = 4 := by rw [hPL]; rfl
 rw [← hPL] at EQ1
 have KP : Hid (∀ wx, Below w.heap.size w wx → Calls Tryz.prog 43 #[.agg #[.string id, .int .i64 nw, .int .i64 ls, .slice tA m mc]] wx fun e w' => ∃ X, e = .returned (.slice (some ⟨X, 0, none⟩) 4 4) ∧ Hps w' (some ⟨X, 0, none⟩) 4 4 (hAt PL) ∧ Below wx.heap.size wx w') := fun wx hbx => by
  rw [hPL]
  exact iSPairs id nw ls TN.out TL.out tA m mc ts h9 TSZ.out wx (HTB.out.below hbx) (HT.out.below hbx)
 have Q1s : Hid (∀ x ∈ LQ ++ PL, x.nm.size ≤ 1000 ∧ x.vl.size ≤ 1000) := by rw [EQ1.out]; exact sgQ1_sz OK0.out
 have KCP : Hid (∀ wx X, Hps wx (some ⟨X, 0, none⟩) 4 4 (hAt PL) → Calls Tryz.prog 42 #[.slice (some ⟨X, 0, none⟩) 4 4] wx fun e w' => (∃ a' c', e = .returned (.slice a' 4 c') ∧ OwnHp w' wx.heap.size (.slice a' 4 c') PL) ∧ Below wx.heap.size wx w') := fun wx X hx => by
  have := iClonePairs (some ⟨X, 0, none⟩) 4 4 (hAt PL) (by omega) (fun i hi => by have := Q1s.out (hAt PL i) (List.mem_append_right _ (hAt_mem (by rw [lPL]; exact hi))); omega) wx hx
  have e := hpl_self PL
  rw [lPL] at e
  rw [e] at this
  exact this
 clear hPL
 refine si5_wp w w.heap.size (w.heap.size + 1) (w.heap.size + 1 + 1) (w.heap.size + 1 + 1 + 1) X12 w4.heap.size w4.heap.size mt pt bd id sec #[.string mt, .string pt, .slice a1 n1 c1, .slice a2 n2 c2, .string bd] aQ cQ LQ aH LH.length cH LH tA m mc nw ls PL W6 B6.out X12e.out X11e.out X6e.out X5e.out X10e.out OQ6.out ⟨OH6.out, AP.out⟩ z6 (by have := HlQ.out; omega) zst.out lPL KP.out KCP.out ?_
 intro XP aC cC BC G CP w7 hB7 h12 h11 h6 h5 h10 ho2 hoH haH hBz _ _ _ _ _
 obtain ⟨Q1, hQ1⟩ : ∃ l, l = LQ ++ PL := ⟨_, rfl⟩
 have lQ1 : LQ.length + 4 = Q1.length := by rw [hQ1, List.length_append, lPL]
 rw [← hQ1] at ho2 EQ1 Q1s
 simp only [lQ1] at h12 ho2 ⊢
 have lq : Q1.length ≤ 34 := by have := HlQ.out; omega
 have LHs : Hid (∀ x ∈ LH, x.nm.size ≤ 1000 ∧ x.vl.size ≤ 1000) := by rw [EH.out]; exact sgH_sz OK0.out.1
 have X5f := hid h5
 have X6f := hid h6
 have X10f := hid h10
 have X11f := hid h11
 have X12f := hid h12
 have B7 := hid hB7
 have OQ7 := hid ho2
 have OH7 := hid hoH.1
 have AP7 := hid haH
 have RB1 : Hid (RqB ⟨mt, pt, ⟨some ⟨G, 0, none⟩, Q1.length, CP, hAt Q1⟩, ⟨aH, LH.length, cH, hAt LH⟩, bd⟩ 1048576) := ⟨HBB.out.mt, HBB.out.pt, psb_list rfl (by omega) (fun x hx => by have := Q1s.out x hx; omega), psb_list rfl (by have := HlH.out; omega) (fun x hx => by have := LHs.out x hx; omega), HBB.out.bd⟩
 have KS := hid (iSgSum mt pt (some ⟨G, 0, none⟩) Q1.length CP (hAt Q1) aH LH.length cH (hAt LH) bd RB1.out sec h4 tA m mc ts h9 T1000.out w7 (HTB.out.below B7.out) ⟨hps_own OQ7.out rfl, hps_own OH7.out rfl⟩ (HT.out.below B7.out))
 have SB := hid (sgV_bd ⟨mt, pt, ⟨some ⟨G, 0, none⟩, Q1.length, CP, hAt Q1⟩, ⟨aH, LH.length, cH, hAt LH⟩, bd⟩ sec h4 ts m h9 T1000.out)
 obtain ⟨SV, hSV⟩ : ∃ v, v = sgV ⟨mt, pt, ⟨some ⟨G, 0, none⟩, Q1.length, CP, hAt Q1⟩, ⟨aH, LH.length, cH, hAt LH⟩, bd⟩ sec ts m := ⟨_, rfl⟩
 rw [← hSV] at KS SB
 have ER1 : Hid (mkRq mt pt Q1 LH bd = sgR1 ⟨mt, pt, ⟨a1, n1, c1, o1⟩, ⟨a2, n2, c2, o2⟩, bd⟩ id nw ls ts m) := by show _ = _; rw [EQ1.out, EH.out]; rfl
 have ESV : Hid (rqP (mkRq mt pt Q1 LH bd) → SV = sgS (sgR1 ⟨mt, pt, ⟨a1, n1, c1, o1⟩, ⟨a2, n2, c2, o2⟩, bd⟩ id nw ls ts m) sec ts m) := fun g => by
  rw [hSV]
  unfold sgV
  rw [pb_t (rqP_mkS.2 g), if_pos rfl, ← ER1.out]
  rfl
 clear h5 h6 h10 h11 h12 hB7 ho2 hoH haH hQ1 hSV X5e X6e X10e X11e X12e B6 OQ6 OH6 AP KP KCP RB1 lPL
 replace lQ1 := hid lQ1
 have z0 := X12f.out.cell 0
 have z1 := X12f.out.cell 1
 have z2 := X12f.out.cell 2
 have z3 := X12f.out.cell 3
 have z4 := X12f.out.cell 4
 have k1 := X6f.out.cell 1
 go_wp2_with fail
 refine KS.out.mono ?_
 rintro e w8 ⟨rfl, hb8⟩
 have X5g := hid (RowAt.nxS hb8 X5f.out)
 have X6g := hid (RowAt.nxS hb8 X6f.out)
 have X10g := hid (RowAt.nxS hb8 X10f.out)
 have X11g := hid (RowAt.nxS hb8 X11f.out)
 have X12g := hid (RowAt.nxS hb8 X12f.out)
 have B8 := hid (B7.out.trans (hb8.mono B7.out.size))
 have OQ8 := hid (OwnHp.next hb8 OQ7.out)
 have OH8 := hid (OwnHp.next hb8 OH7.out)
 have sz8 : w4.heap.size ≤ w8.heap.size := Nat.le_trans hBz hb8.size
 clear hb8 KS X5f X6f X10f X11f X12f B7 OQ7 OH7 z0 z1 z2 z3 z4 k1
 obtain ⟨SM, hSM⟩ : ∃ x, x = ofL (Lib.decDigits SV.toNat) := ⟨_, rfl⟩
 have smz : SM.size ≤ 10 := by rw [hSM]; exact dec_len _ (by have := SB.out; omega)
 have KD : Hid (∀ wx, Below w.heap.size w wx → Calls Tryz.prog 45 #[.int .i64 SV] wx fun e w' => e = .returned (.string SM) ∧ Below wx.heap.size wx w') := fun wx hbx => by
  rw [hSM]
  exact iDecm SV.toNat (by have := SB.out; omega) SV (by have := SB.out; omega) wx (HTB.out.below hbx)
 have HSM := hid hSM
 clear hSM
 go_upto_region 7 with fail
 refine si7_wp w w.heap.size (w.heap.size + 1) (w.heap.size + 1 + 1) (w.heap.size + 1 + 1 + 1) X12 w4.heap.size w4.heap.size mt pt bd id sec #[.string mt, .string pt, .slice a1 n1 c1, .slice a2 n2 c2, .string bd] (some ⟨G, 0, none⟩) CP Q1 aH LH.length cH LH tA m mc nw ls SV SM w8 B8.out X12g.out X11g.out X6g.out X5g.out X10g.out OQ8.out ⟨OH8.out, AP7.out⟩ sz8 (by omega) zst.out KD.out ?_
 intro XS2 G2 CP2 w9 hB9 h12 h11 h6 h5 h10 ho2 hoH haH hBz9 _ _ _
 obtain ⟨Q2, hQ2⟩ : ∃ l, l = Q1 ++ [(⟨⟨#[120, 45, 115, 117, 109]⟩, SM⟩ : Hp)] := ⟨_, rfl⟩
 have lQ2 : Q1.length + 1 = Q2.length := by rw [hQ2]; simp
 rw [← hQ2] at ho2
 simp only [lQ2] at h12 ho2 ⊢
 have Q2s : Hid (∀ x ∈ Q2, x.nm.size ≤ 1000 ∧ x.vl.size ≤ 1000) := by
  rw [hQ2]
  intro x hx
  rcases List.mem_append.1 hx with q | q
  · exact Q1s.out x q
  · rw [List.mem_singleton.1 q]; exact ⟨by show (5 : Nat) ≤ 1000; omega, by show SM.size ≤ 1000; omega⟩
 have lq2 : Q2.length ≤ 35 := by omega
 have X10j := hid h10
 have X12j := hid h12
 have B9 := hid hB9
 have OQ9 := hid ho2
 have OH9 := hid hoH.1
 have AP9 := hid haH
 have RB2 : RqB ⟨mt, pt, ⟨some ⟨G2, 0, none⟩, Q2.length, CP2, hAt Q2⟩, ⟨aH, LH.length, cH, hAt LH⟩, bd⟩ 1048576 := ⟨HBB.out.mt, HBB.out.pt, psb_list rfl (by omega) (fun x hx => by have := Q2s.out x hx; omega), psb_list rfl (by have := HlH.out; omega) (fun x hx => by have := LHs.out x hx; omega), HBB.out.bd⟩
 have K16 := hid (iRqF ⟨mt, pt, ⟨some ⟨G2, 0, none⟩, Q2.length, CP2, hAt Q2⟩, ⟨aH, LH.length, cH, hAt LH⟩, bd⟩ RB2 w9 ⟨hps_own OQ9.out rfl, hps_own OH9.out rfl⟩)
 obtain ⟨V2, hV2⟩ : ∃ v, v = rqV (mkRq mt pt Q2 LH bd) := ⟨_, rfl⟩
 rw [rqV_mkS, ← hV2] at K16
 have HV2 := hid hV2
 have SN : Hid (rqP (mkRq mt pt Q2 LH bd) → rqP (mkRq mt pt Q1 LH bd)) := fun g => by rw [hQ2] at g; exact rqP_snoc g
 have EQ2 : Hid (rqP (mkRq mt pt Q1 LH bd) → Q2 = sgQ2 ⟨mt, pt, ⟨a1, n1, c1, o1⟩, ⟨a2, n2, c2, o2⟩, bd⟩ id sec nw ls ts m) := fun g => by rw [hQ2, HSM.out, ESV.out g, EQ1.out]; rfl
 clear h5 h6 h10 h11 h12 hB9 ho2 hoH haH hQ2 lQ2 hV2 RB2 KD X5g X6g X10g X11g X12g B8 OQ8 OH8 AP7
 have z0 := X12j.out.cell 0
 have z1 := X12j.out.cell 1
 have z2 := X12j.out.cell 2
 have z3 := X12j.out.cell 3
 have z4 := X12j.out.cell 4
 go_wp2_with fail
 refine K16.out.mono ?_
 rintro e w12 ⟨rfl, hb12⟩
 have X10k := hid (RowAt.nxS hb12 X10j.out)
 have X12k := hid (RowAt.nxS hb12 X12j.out)
 have B12 := hid (B9.out.trans (hb12.mono B9.out.size))
 have OQ12 := hid (OwnHp.next hb12 OQ9.out)
 have OH12 := hid (OwnHp.next hb12 OH9.out)
 clear hb12 K16 X10j X12j B9 OQ9 OH9 z0 z1 z2 z3 z4
 have R2E : Hid (rqP (mkRq mt pt Q1 LH bd) → mkRq mt pt Q2 LH bd = sgR2 ⟨mt, pt, ⟨a1, n1, c1, o1⟩, ⟨a2, n2, c2, o2⟩, bd⟩ id sec nw ls ts m) := fun g => by rw [EQ2.out g, EH.out]; rfl
 by_cases g2 : rqP (mkRq mt pt Q2 LH bd)
 case neg =>
  have v2 : V2 = 1 := by rw [HV2.out]; exact rqV_f g2
  subst v2
  have NO : Hid (¬ sgOk ⟨mt, pt, ⟨a1, n1, c1, o1⟩, ⟨a2, n2, c2, o2⟩, bd⟩ id sec nw ls ts m) := fun hh => g2 (by
   have g1 : rqP (mkRq mt pt Q1 LH bd) := by rw [ER1.out]; exact hh.2.2.1
   rw [R2E.out g1]; exact hh.2.2.2)
  clear g2
  go_wp2_with (refine wpList_store_row rfl 25 (.tmp 10) (.tmp 64) rfl (w.heap.size + 1 + 1) #[.string ⟨#[]⟩, .string ⟨#[]⟩, .slice none 0 0, .slice none 0 0, .string ⟨#[]⟩] rfl rfl _ _ X10k.out (by kernel_rfl) rfl (by simp [Value.oneCell']) ?_)
  refine bodyPost_ret (v := .agg #[.string ⟨#[]⟩, .string ⟨#[]⟩, .slice none 0 0, .slice none 0 0, .string ⟨#[]⟩]) ?_ rfl ⟨below_setRow B12.out _ _ (by omega), .inr ⟨NO.out, rfl⟩⟩
  exact results_cell_row Tryz.results8 _ _ (w.heap.size + 1 + 1) _ _ _ _ rfl (X10k.out.setRow _) Tryz.underlying25 rfl (by kernel_rfl)
 have v2 : V2 = 0 := by rw [HV2.out]; exact rqV_t g2
 subst v2
 have g1 := SN.out g2
 have OKK : Hid (sgOk ⟨mt, pt, ⟨a1, n1, c1, o1⟩, ⟨a2, n2, c2, o2⟩, bd⟩ id sec nw ls ts m) := ⟨OK0.out, NX.out, by rw [← ER1.out]; exact g1, by rw [← R2E.out g1]; exact g2⟩
 have E2 : Hid (Q2 = sgQ2 ⟨mt, pt, ⟨a1, n1, c1, o1⟩, ⟨a2, n2, c2, o2⟩, bd⟩ id sec nw ls ts m) := EQ2.out g1
 clear g2 g1
 have z0 := X12k.out.cell 0
 have z1 := X12k.out.cell 1
 have z2 := X12k.out.cell 2
 have z3 := X12k.out.cell 3
 have z4 := X12k.out.cell 4
 have FIN : Hid (AnsSg w ⟨mt, pt, ⟨a1, n1, c1, o1⟩, ⟨a2, n2, c2, o2⟩, bd⟩ id sec nw ls ts m (.returned (.agg #[.string mt, .string pt, .slice (some ⟨G2, 0, none⟩) Q2.length CP2, .slice aH LH.length cH, .string bd])) (w12.setRow (w.heap.size + 1 + 1) #[.string mt, .string pt, .slice (some ⟨G2, 0, none⟩) Q2.length CP2, .slice aH LH.length cH, .string bd])) := by
  refine ⟨below_setRow B12.out _ _ (by omega), .inl ⟨OKK.out, some ⟨G2, 0, none⟩, CP2, aH, cH, w4.heap.size, w4.heap.size, ?_⟩⟩
  rw [← E2.out, ← EH.out]
  exact ⟨rfl, OwnHp.setRowS OQ12.out (OwnHp.neRowS OQ12.out X10k.out (by decide)) _, OwnHp.setRowS OH12.out (OwnHp.neRowS OH12.out X10k.out (by decide)) _, zst.out.1, zst.out.1, AP9.out⟩
 go_wp2_with (refine wpList_store_row rfl 25 (.tmp 10) (.tmp 65) rfl (w.heap.size + 1 + 1) #[.string mt, .string pt, .slice (some ⟨G2, 0, none⟩) Q2.length CP2, .slice aH LH.length cH, .string bd] rfl rfl _ _ X10k.out (by kernel_rfl) rfl (by simp [Value.oneCell']) ?_)
 refine bodyPost_ret (v := .agg #[.string mt, .string pt, .slice (some ⟨G2, 0, none⟩) Q2.length CP2, .slice aH LH.length cH, .string bd]) ?_ rfl FIN.out
 exact results_cell_row Tryz.results8 _ _ (w.heap.size + 1 + 1) _ _ _ _ rfl (X10k.out.setRow _) Tryz.underlying25 rfl (by kernel_rfl)
end Go.Proofs.YtkcjigelenofhaaGreatDoor
