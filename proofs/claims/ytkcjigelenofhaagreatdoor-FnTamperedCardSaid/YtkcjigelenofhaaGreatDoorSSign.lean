import Derived.Test.YtkcjigelenofhaaGreatDoorK2
import Derived.Test.YtkcjigelenofhaaGreatDoorSS
import Derived.Test.YtkcjigelenofhaaGreatDoorR1
import Derived.BigQuiet
import Derived.Laws.AppendOwnNone
namespace Go.Proofs.YtkcjigelenofhaaGreatDoor
open Go.RowKit
theorem hps_own {w : World} {base : Nat} {a : Option Addr} {n c : Nat} {L : List Hp} (h : OwnHp w base (.slice a n c) L) (hn : n = L.length) : Hps w a n c (hAt L) := by
 obtain ⟨a', c', e, h'⟩ := h.hps
 subst hn
 cases e
 exact h'
def NilOr (a : Option Addr) (n c : Nat) : Prop := (a = none ∧ n = 0 ∧ c = 0) ∨ ∃ b off, a = some ⟨b, off, none⟩
theorem append_hpsO {P : Program} (base : Nat) (wr : World) {ops : Array Oper} {rest : List Oper} {op : Oper} {a : Act} {Q : Exit → Act → World → Prop} (hgd : op.guard = none) (s x : Operand) (t : TypeId)
 (ho : op.op = .call { callee := .builtin .append, args := #[s, x], argTypes := #[t, t] })
 (ht : P.underlying t = some (.slice 66)) (hinfo : (P.info? 66).map (fun i => (i.zero, i.size, i.bytes)) = some (some hz2, 2, 32))
 (v : Value) (L : List Hp) (hs : a.eval s = v) (hown : OwnHp wr base v L) (hsz : base ≤ wr.heap.size)
 (aX : Option Addr) (m c : Nat) (M : List Hp) (hx : a.eval x = .slice aX m c) (hm : M.length = m) (hA : NilOr aX m c) (hH : Hps wr aX m c (hAt M)) (hlen : L.length + m ≤ 1048576)
 (h : ∀ v' w', OwnHp w' base v' (L ++ M) → wr.grownBy w' v.ownBlock → wpList P ops Q rest (a.put op.dst v') w') :
 wpList P ops Q (op :: rest) a wr := by
 rcases hA with ⟨rfl, rfl, rfl⟩ | ⟨b, off, rfl⟩
 · obtain ⟨i0, hi, _, _, _⟩ := info_parts hinfo
   have hM : M = [] := List.length_eq_zero_iff.1 hm
   subst hM
   refine wpList_append_own_none hgd s x t ho base 66 i0 2 ht hi v L.length (hpL L) hs hown hx ?_
   exact h v wr (by rw [List.append_nil]; exact hown) ⟨rfl, rfl, rfl, Nat.le_refl _, fun _ _ _ => rfl⟩
 · refine append_hps base wr hgd s x t ho ht hinfo v L hs hown hsz b off m c M hx hm (fun k hk => ?_) hlen h
   rcases hH.2 with q0 | ⟨b', off', e, _, hc⟩
   · omega
   · cases e; exact hc k hk
theorem len1 (L : List Hp) (a : Hp) : (L ++ [a]).length = L.length + 1 := by simp
theorem psb_list {L : List Hp} {a : Option Addr} {n c : Nat} (hn : n = L.length) (hl : L.length ≤ 1048576) (h : ∀ x ∈ L, x.nm.size ≤ 1048576 ∧ x.vl.size ≤ 1048576) : PSB ⟨a, n, c, hAt L⟩ 1048576 :=
 ⟨by show n ≤ _; omega, fun i hi => h _ (hAt_mem (L := L) (i := i) (by rw [← hn]; exact hi))⟩
set_option maxRecDepth 20000 in
set_option maxHeartbeats 16000000 in
theorem sSignO (mt pt : ByteArray) (a1 : Option Addr) (n1 c1 : Nat) (o1 : Nat → Hp) (a2 : Option Addr) (n2 c2 : Nat) (o2 : Nat → Hp) (hA1 : NilOr a1 n1 c1) (hA2 : NilOr a2 n2 c2) (bd id sec : ByteArray) (tA : Option Addr) (m mc : Nat) (ts : Nat → ByteArray) (nw ls : Int) (hB : RqB ⟨mt, pt, ⟨a1, n1, c1, o1⟩, ⟨a2, n2, c2, o2⟩, bd⟩ 1048576) (hidz : id.size ≤ 1048576) (hm : m ≤ 1048576) (w : World) (h : RqIn w ⟨mt, pt, ⟨a1, n1, c1, o1⟩, ⟨a2, n2, c2, o2⟩, bd⟩) (hT : Strs w tA m mc ts) :
 Calls Tryz.prog 9 #[.agg #[.string mt, .string pt, .slice a1 n1 c1, .slice a2 n2 c2, .string bd], .agg #[.string id, .string sec], .slice tA m mc, .int .i64 nw, .int .i64 ls] w fun e w' => AnsSg w ⟨mt, pt, ⟨a1, n1, c1, o1⟩, ⟨a2, n2, c2, o2⟩, bd⟩ id sec nw ls ts m e w' := by
 obtain ⟨W1, hW1⟩ : ∃ W, W = ((((w.alloc (.cells #[.string mt, .string pt, .slice a1 n1 c1, .slice a2 n2 c2, .string bd] 25)).alloc (.cells #[.string id, .string sec] 27)).alloc (.cells #[.string ⟨#[]⟩, .string ⟨#[]⟩, .slice none 0 0, .slice none 0 0, .string ⟨#[]⟩] 25)).alloc (.cells #[.string ⟨#[]⟩, .string ⟨#[]⟩, .slice none 0 0, .slice none 0 0, .string ⟨#[]⟩] 25)).setRow (w.heap.size + 1 + 1 + 1) #[.string ⟨#[]⟩, .string ⟨#[]⟩, .slice none 0 0, .slice none 0 0, .string ⟨#[]⟩] := ⟨_, rfl⟩
 have X5 : Hid (RowAt W1 w.heap.size 25 #[.string mt, .string pt, .slice a1 n1 c1, .slice a2 n2 c2, .string bd]) := by rw [hW1]; exact ((((RowAt.new _ _ _).alloc _).alloc _).alloc _).otherRow _ _ (by omega)
 have X6 : Hid (RowAt W1 (w.heap.size + 1) 27 #[.string id, .string sec]) := by rw [hW1]; exact (((RowAt.next _ _ _ (by simp only [size_al])).alloc _).alloc _).otherRow _ _ (by omega)
 have X10 : Hid (RowAt W1 (w.heap.size + 1 + 1) 25 #[.string ⟨#[]⟩, .string ⟨#[]⟩, .slice none 0 0, .slice none 0 0, .string ⟨#[]⟩]) := by rw [hW1]; exact ((RowAt.next _ _ _ (by simp only [size_al])).alloc _).otherRow _ _ (by omega)
 have X11 : Hid (RowAt W1 (w.heap.size + 1 + 1 + 1) 25 #[.string ⟨#[]⟩, .string ⟨#[]⟩, .slice none 0 0, .slice none 0 0, .string ⟨#[]⟩]) := by rw [hW1]; exact (RowAt.next _ _ _ (by simp only [size_al])).setRow _
 have B1 : Hid (Below w.heap.size w W1) := by rw [hW1]; exact below_setRow (((((Below.refl _ _).alloc (Nat.le_refl _) _).alloc (by simp) _).alloc (by simp; omega) _).alloc (by simp; omega) _) _ _ (by omega)
 have KR := fun wx (hbx : Below w.heap.size w wx) => hid (sRqF ⟨mt, pt, ⟨a1, n1, c1, o1⟩, ⟨a2, n2, c2, o2⟩, bd⟩ hB wx (h.below hbx))
 have HIN := hid h
 have HA1 := hid hA1
 have HA2 := hid hA2
 have HT := hid hT
 have HBB := hid hB
 have KI := fun wx => hid (sId id hidz wx)
 have KS := fun wx (hbx : Below w.heap.size w wx) => hid (sSigned mt pt a1 n1 c1 a2 n2 c2 o2 bd tA m mc ts hB.hs.1 hm wx (h.below hbx).hs (hT.below hbx))
 obtain ⟨RV, hRV⟩ : ∃ v, v = rqV ⟨mt, pt, ⟨a1, n1, c1, o1⟩, ⟨a2, n2, c2, o2⟩, bd⟩ := ⟨_, rfl⟩
 have HRV := hid hRV
 rw [← hRV] at KR
 obtain ⟨OKP, hOKP⟩ : ∃ P : Prop, P = sgOk ⟨mt, pt, ⟨a1, n1, c1, o1⟩, ⟨a2, n2, c2, o2⟩, bd⟩ id sec nw ls ts m := ⟨_, rfl⟩
 have HW1 := hid hW1
 have x0 := X5.out.cell 0
 have x1 := X5.out.cell 1
 have x2 := X5.out.cell 2
 have x3 := X5.out.cell 3
 have x4 := X5.out.cell 4
 clear hW1 h hT hB hidz hRV hOKP OKP hA1 hA2
 go_enter Tryz.func9, Tryz.ntmps9
 go_upto_region 2 with (refine wpList_store_row rfl 25 (.tmp 11) (.tmp 14) rfl (w.heap.size + 1 + 1 + 1) #[.string ⟨#[]⟩, .string ⟨#[]⟩, .slice none 0 0, .slice none 0 0, .string ⟨#[]⟩] rfl rfl _ _ (RowAt.next _ _ _ (by simp only [size_al])) (by kernel_rfl) rfl (by simp [Value.oneCell']) ?_)
 rw [← HW1.out]
 go_wp2_with fail
 refine (KR _ B1.out).out.mono ?_
 rintro e w2 ⟨rfl, hb2⟩
 have X5b := hid (RowAt.nxS hb2 X5.out)
 have X6b := hid (RowAt.nxS hb2 X6.out)
 have X10b := hid (RowAt.nxS hb2 X10.out)
 have X11b := hid (RowAt.nxS hb2 X11.out)
 have B2 := hid (B1.out.trans (hb2.mono B1.out.size))
 clear hb2 X5 X6 X10 X11 B1 x0 x1 x2 x3 x4 HW1
 by_cases h1 : rqP ⟨mt, pt, ⟨a1, n1, c1, o1⟩, ⟨a2, n2, c2, o2⟩, bd⟩
 case neg =>
  have v1 : RV = 1 := by rw [HRV.out]; exact rqV_f h1
  subst v1
  have NO : Hid (¬ sgOk ⟨mt, pt, ⟨a1, n1, c1, o1⟩, ⟨a2, n2, c2, o2⟩, bd⟩ id sec nw ls ts m) := fun hh => h1 hh.1.1
  have z0 := X11b.out.cell 0
  have z1 := X11b.out.cell 1
  have z2 := X11b.out.cell 2
  have z3 := X11b.out.cell 3
  have z4 := X11b.out.cell 4
  go_wp2_with (refine wpList_store_row rfl 25 (.tmp 10) (.tmp 63) rfl (w.heap.size + 1 + 1) #[.string ⟨#[]⟩, .string ⟨#[]⟩, .slice none 0 0, .slice none 0 0, .string ⟨#[]⟩] rfl rfl _ _ X10b.out (by kernel_rfl) rfl (by simp [Value.oneCell']) ?_)
  refine bodyPost_ret (v := .agg #[.string ⟨#[]⟩, .string ⟨#[]⟩, .slice none 0 0, .slice none 0 0, .string ⟨#[]⟩]) ?_ rfl ⟨below_setRow B2.out _ _ (by omega), .inr ⟨NO.out, rfl⟩⟩
  exact results_cell_row Tryz.results9 _ _ (w.heap.size + 1 + 1) _ _ _ _ rfl (X10b.out.setRow _) Tryz.underlying25 rfl (by kernel_rfl)
 have v1 : RV = 0 := by rw [HRV.out]; exact rqV_t h1
 subst v1
 have k0 := X6b.out.cell 0
 have k1 := X6b.out.cell 1
 by_cases h2 : idP id
 case neg =>
  rw [pb_f h2] at KI
  go_wp2_with fail
  refine (KI _).out.mono ?_
  rintro e w3 ⟨rfl, hw3⟩
  obtain rfl := hw3.symm
  clear hw3
  have NO : Hid (¬ sgOk ⟨mt, pt, ⟨a1, n1, c1, o1⟩, ⟨a2, n2, c2, o2⟩, bd⟩ id sec nw ls ts m) := fun hh => h2 hh.1.2.1
  have z0 := X11b.out.cell 0
  have z1 := X11b.out.cell 1
  have z2 := X11b.out.cell 2
  have z3 := X11b.out.cell 3
  have z4 := X11b.out.cell 4
  go_wp2_with (refine wpList_store_row rfl 25 (.tmp 10) (.tmp 63) rfl (w.heap.size + 1 + 1) #[.string ⟨#[]⟩, .string ⟨#[]⟩, .slice none 0 0, .slice none 0 0, .string ⟨#[]⟩] rfl rfl _ _ X10b.out (by kernel_rfl) rfl (by simp [Value.oneCell']) ?_)
  refine bodyPost_ret (v := .agg #[.string ⟨#[]⟩, .string ⟨#[]⟩, .slice none 0 0, .slice none 0 0, .string ⟨#[]⟩]) ?_ rfl ⟨below_setRow B2.out _ _ (by omega), .inr ⟨NO.out, rfl⟩⟩
  exact results_cell_row Tryz.results9 _ _ (w.heap.size + 1 + 1) _ _ _ _ rfl (X10b.out.setRow _) Tryz.underlying25 rfl (by kernel_rfl)
 rw [pb_t h2] at KI
 go_wp2_with fail
 refine (KI _).out.mono ?_
 rintro e w3 ⟨rfl, hw3⟩
 obtain rfl := hw3.symm
 clear hw3
 by_cases h3 : 1 ≤ sec.size
 case neg =>
  have dh3 : (sec.size : Int) < 1 := by omega
  have NO : Hid (¬ sgOk ⟨mt, pt, ⟨a1, n1, c1, o1⟩, ⟨a2, n2, c2, o2⟩, bd⟩ id sec nw ls ts m) := fun hh => h3 hh.1.2.2.1
  have z0 := X11b.out.cell 0
  have z1 := X11b.out.cell 1
  have z2 := X11b.out.cell 2
  have z3 := X11b.out.cell 3
  have z4 := X11b.out.cell 4
  go_wp2_with (refine wpList_store_row rfl 25 (.tmp 10) (.tmp 63) rfl (w.heap.size + 1 + 1) #[.string ⟨#[]⟩, .string ⟨#[]⟩, .slice none 0 0, .slice none 0 0, .string ⟨#[]⟩] rfl rfl _ _ X10b.out (by kernel_rfl) rfl (by simp [Value.oneCell']) ?_)
  refine bodyPost_ret (v := .agg #[.string ⟨#[]⟩, .string ⟨#[]⟩, .slice none 0 0, .slice none 0 0, .string ⟨#[]⟩]) ?_ rfl ⟨below_setRow B2.out _ _ (by omega), .inr ⟨NO.out, rfl⟩⟩
  exact results_cell_row Tryz.results9 _ _ (w.heap.size + 1 + 1) _ _ _ _ rfl (X10b.out.setRow _) Tryz.underlying25 rfl (by kernel_rfl)
 have dh3 : ¬ (sec.size : Int) < 1 := by omega
 by_cases h4 : sec.size ≤ 100
 case neg =>
  have dh4 : (100 : Int) < (sec.size : Int) := by omega
  have NO : Hid (¬ sgOk ⟨mt, pt, ⟨a1, n1, c1, o1⟩, ⟨a2, n2, c2, o2⟩, bd⟩ id sec nw ls ts m) := fun hh => h4 hh.1.2.2.2.1
  have z0 := X11b.out.cell 0
  have z1 := X11b.out.cell 1
  have z2 := X11b.out.cell 2
  have z3 := X11b.out.cell 3
  have z4 := X11b.out.cell 4
  go_wp2_with (refine wpList_store_row rfl 25 (.tmp 10) (.tmp 63) rfl (w.heap.size + 1 + 1) #[.string ⟨#[]⟩, .string ⟨#[]⟩, .slice none 0 0, .slice none 0 0, .string ⟨#[]⟩] rfl rfl _ _ X10b.out (by kernel_rfl) rfl (by simp [Value.oneCell']) ?_)
  refine bodyPost_ret (v := .agg #[.string ⟨#[]⟩, .string ⟨#[]⟩, .slice none 0 0, .slice none 0 0, .string ⟨#[]⟩]) ?_ rfl ⟨below_setRow B2.out _ _ (by omega), .inr ⟨NO.out, rfl⟩⟩
  exact results_cell_row Tryz.results9 _ _ (w.heap.size + 1 + 1) _ _ _ _ rfl (X10b.out.setRow _) Tryz.underlying25 rfl (by kernel_rfl)
 have dh4 : ¬ (100 : Int) < (sec.size : Int) := by omega
 by_cases h5 : 0 ≤ nw
 case neg =>
  have dh5 : nw < 0 := by omega
  have NO : Hid (¬ sgOk ⟨mt, pt, ⟨a1, n1, c1, o1⟩, ⟨a2, n2, c2, o2⟩, bd⟩ id sec nw ls ts m) := fun hh => h5 hh.1.2.2.2.2.1
  have z0 := X11b.out.cell 0
  have z1 := X11b.out.cell 1
  have z2 := X11b.out.cell 2
  have z3 := X11b.out.cell 3
  have z4 := X11b.out.cell 4
  go_wp2_with (refine wpList_store_row rfl 25 (.tmp 10) (.tmp 63) rfl (w.heap.size + 1 + 1) #[.string ⟨#[]⟩, .string ⟨#[]⟩, .slice none 0 0, .slice none 0 0, .string ⟨#[]⟩] rfl rfl _ _ X10b.out (by kernel_rfl) rfl (by simp [Value.oneCell']) ?_)
  refine bodyPost_ret (v := .agg #[.string ⟨#[]⟩, .string ⟨#[]⟩, .slice none 0 0, .slice none 0 0, .string ⟨#[]⟩]) ?_ rfl ⟨below_setRow B2.out _ _ (by omega), .inr ⟨NO.out, rfl⟩⟩
  exact results_cell_row Tryz.results9 _ _ (w.heap.size + 1 + 1) _ _ _ _ rfl (X10b.out.setRow _) Tryz.underlying25 rfl (by kernel_rfl)
 have dh5 : ¬ nw < 0 := by omega
 by_cases h6 : nw ≤ 4102444800
 case neg =>
  have dh6 : 4102444800 < nw := by omega
  have NO : Hid (¬ sgOk ⟨mt, pt, ⟨a1, n1, c1, o1⟩, ⟨a2, n2, c2, o2⟩, bd⟩ id sec nw ls ts m) := fun hh => h6 hh.1.2.2.2.2.2.1
  have z0 := X11b.out.cell 0
  have z1 := X11b.out.cell 1
  have z2 := X11b.out.cell 2
  have z3 := X11b.out.cell 3
  have z4 := X11b.out.cell 4
  go_wp2_with (refine wpList_store_row rfl 25 (.tmp 10) (.tmp 63) rfl (w.heap.size + 1 + 1) #[.string ⟨#[]⟩, .string ⟨#[]⟩, .slice none 0 0, .slice none 0 0, .string ⟨#[]⟩] rfl rfl _ _ X10b.out (by kernel_rfl) rfl (by simp [Value.oneCell']) ?_)
  refine bodyPost_ret (v := .agg #[.string ⟨#[]⟩, .string ⟨#[]⟩, .slice none 0 0, .slice none 0 0, .string ⟨#[]⟩]) ?_ rfl ⟨below_setRow B2.out _ _ (by omega), .inr ⟨NO.out, rfl⟩⟩
  exact results_cell_row Tryz.results9 _ _ (w.heap.size + 1 + 1) _ _ _ _ rfl (X10b.out.setRow _) Tryz.underlying25 rfl (by kernel_rfl)
 have dh6 : ¬ 4102444800 < nw := by omega
 by_cases h7 : 0 ≤ ls
 case neg =>
  have dh7 : ls < 0 := by omega
  have NO : Hid (¬ sgOk ⟨mt, pt, ⟨a1, n1, c1, o1⟩, ⟨a2, n2, c2, o2⟩, bd⟩ id sec nw ls ts m) := fun hh => h7 hh.1.2.2.2.2.2.2.1
  have z0 := X11b.out.cell 0
  have z1 := X11b.out.cell 1
  have z2 := X11b.out.cell 2
  have z3 := X11b.out.cell 3
  have z4 := X11b.out.cell 4
  go_wp2_with (refine wpList_store_row rfl 25 (.tmp 10) (.tmp 63) rfl (w.heap.size + 1 + 1) #[.string ⟨#[]⟩, .string ⟨#[]⟩, .slice none 0 0, .slice none 0 0, .string ⟨#[]⟩] rfl rfl _ _ X10b.out (by kernel_rfl) rfl (by simp [Value.oneCell']) ?_)
  refine bodyPost_ret (v := .agg #[.string ⟨#[]⟩, .string ⟨#[]⟩, .slice none 0 0, .slice none 0 0, .string ⟨#[]⟩]) ?_ rfl ⟨below_setRow B2.out _ _ (by omega), .inr ⟨NO.out, rfl⟩⟩
  exact results_cell_row Tryz.results9 _ _ (w.heap.size + 1 + 1) _ _ _ _ rfl (X10b.out.setRow _) Tryz.underlying25 rfl (by kernel_rfl)
 have dh7 : ¬ ls < 0 := by omega
 by_cases h8 : ls ≤ 4102444800
 case neg =>
  have dh8 : 4102444800 < ls := by omega
  have NO : Hid (¬ sgOk ⟨mt, pt, ⟨a1, n1, c1, o1⟩, ⟨a2, n2, c2, o2⟩, bd⟩ id sec nw ls ts m) := fun hh => h8 hh.1.2.2.2.2.2.2.2.1
  have z0 := X11b.out.cell 0
  have z1 := X11b.out.cell 1
  have z2 := X11b.out.cell 2
  have z3 := X11b.out.cell 3
  have z4 := X11b.out.cell 4
  go_wp2_with (refine wpList_store_row rfl 25 (.tmp 10) (.tmp 63) rfl (w.heap.size + 1 + 1) #[.string ⟨#[]⟩, .string ⟨#[]⟩, .slice none 0 0, .slice none 0 0, .string ⟨#[]⟩] rfl rfl _ _ X10b.out (by kernel_rfl) rfl (by simp [Value.oneCell']) ?_)
  refine bodyPost_ret (v := .agg #[.string ⟨#[]⟩, .string ⟨#[]⟩, .slice none 0 0, .slice none 0 0, .string ⟨#[]⟩]) ?_ rfl ⟨below_setRow B2.out _ _ (by omega), .inr ⟨NO.out, rfl⟩⟩
  exact results_cell_row Tryz.results9 _ _ (w.heap.size + 1 + 1) _ _ _ _ rfl (X10b.out.setRow _) Tryz.underlying25 rfl (by kernel_rfl)
 have dh8 : ¬ 4102444800 < ls := by omega
 by_cases h9 : m ≤ 10
 case neg =>
  have dh9 : (10 : Int) < (m : Int) := by omega
  have NO : Hid (¬ sgOk ⟨mt, pt, ⟨a1, n1, c1, o1⟩, ⟨a2, n2, c2, o2⟩, bd⟩ id sec nw ls ts m) := fun hh => h9 hh.1.2.2.2.2.2.2.2.2.1
  have z0 := X11b.out.cell 0
  have z1 := X11b.out.cell 1
  have z2 := X11b.out.cell 2
  have z3 := X11b.out.cell 3
  have z4 := X11b.out.cell 4
  go_wp2_with (refine wpList_store_row rfl 25 (.tmp 10) (.tmp 63) rfl (w.heap.size + 1 + 1) #[.string ⟨#[]⟩, .string ⟨#[]⟩, .slice none 0 0, .slice none 0 0, .string ⟨#[]⟩] rfl rfl _ _ X10b.out (by kernel_rfl) rfl (by simp [Value.oneCell']) ?_)
  refine bodyPost_ret (v := .agg #[.string ⟨#[]⟩, .string ⟨#[]⟩, .slice none 0 0, .slice none 0 0, .string ⟨#[]⟩]) ?_ rfl ⟨below_setRow B2.out _ _ (by omega), .inr ⟨NO.out, rfl⟩⟩
  exact results_cell_row Tryz.results9 _ _ (w.heap.size + 1 + 1) _ _ _ _ rfl (X10b.out.setRow _) Tryz.underlying25 rfl (by kernel_rfl)
 have dh9 : ¬ (10 : Int) < (m : Int) := by omega
 have y0 := X5b.out.cell 0
 have y1 := X5b.out.cell 1
 have y2 := X5b.out.cell 2
 have y3 := X5b.out.cell 3
 have y4 := X5b.out.cell 4
 go_wp2_with fail
 by_cases h10 : sgnP n2 o2 ts m
 case neg =>
  rw [pb_f h10] at KS
  refine (KS _ B2.out).out.mono ?_
  rintro e w3 ⟨rfl, hb3⟩
  have X10c := hid (RowAt.nxS hb3 X10b.out)
  have X11c := hid (RowAt.nxS hb3 X11b.out)
  have B3 := hid (B2.out.trans (hb3.mono B2.out.size))
  clear hb3
  have NO : Hid (¬ sgOk ⟨mt, pt, ⟨a1, n1, c1, o1⟩, ⟨a2, n2, c2, o2⟩, bd⟩ id sec nw ls ts m) := fun hh => h10 hh.1.2.2.2.2.2.2.2.2.2
  have z0 := X11c.out.cell 0
  have z1 := X11c.out.cell 1
  have z2 := X11c.out.cell 2
  have z3 := X11c.out.cell 3
  have z4 := X11c.out.cell 4
  go_wp2_with (refine wpList_store_row rfl 25 (.tmp 10) (.tmp 63) rfl (w.heap.size + 1 + 1) #[.string ⟨#[]⟩, .string ⟨#[]⟩, .slice none 0 0, .slice none 0 0, .string ⟨#[]⟩] rfl rfl _ _ X10c.out (by kernel_rfl) rfl (by simp [Value.oneCell']) ?_)
  refine bodyPost_ret (v := .agg #[.string ⟨#[]⟩, .string ⟨#[]⟩, .slice none 0 0, .slice none 0 0, .string ⟨#[]⟩]) ?_ rfl ⟨below_setRow B3.out _ _ (by omega), .inr ⟨NO.out, rfl⟩⟩
  exact results_cell_row Tryz.results9 _ _ (w.heap.size + 1 + 1) _ _ _ _ rfl (X10c.out.setRow _) Tryz.underlying25 rfl (by kernel_rfl)
 rw [pb_t h10] at KS
 refine (KS _ B2.out).out.mono ?_
 rintro e w3 ⟨rfl, hb3⟩
 have X5c := hid (RowAt.nxS hb3 X5b.out)
 have X6c := hid (RowAt.nxS hb3 X6b.out)
 have X10c := hid (RowAt.nxS hb3 X10b.out)
 have X11c := hid (RowAt.nxS hb3 X11b.out)
 have B3 := hid (B2.out.trans (hb3.mono B2.out.size))
 have OK0 : Hid (sgOk0 ⟨mt, pt, ⟨a1, n1, c1, o1⟩, ⟨a2, n2, c2, o2⟩, bd⟩ id sec nw ls ts m) := ⟨h1, h2, h3, h4, h5, h6, h7, h8, h9, h10⟩
 clear hb3 X5b X6b X10b X11b B2 k0 k1 y0 y1 y2 y3 y4 KS KI KR dh3 dh4 dh5 dh6 dh7 dh8 dh9 HRV
 have KB := fun (x : ByteArray) (hx : x.size ≤ 1048576) wx => hid (sBegins x ⟨#[120, 45]⟩ hx (by decide) wx)
 have HQ3 := hid (HIN.out.below B3.out).qs
 have HH3 := hid (HIN.out.below B3.out).hs
 have PB := hid HBB.out.qs.2
 have n1b : n1 ≤ 1048576 := HBB.out.qs.1
 go_wp2_with fail
 go_loopw [12] (fun v wr => ∃ i : Nat, i ≤ n1 ∧ v = .int .i64 (i : Int) ∧ (∀ q, q < i → ¬ bgP (o1 q).nm ⟨#[120, 45]⟩) ∧ wr = w3) (fun v _ => n1 - (intOf v).toNat)
 case atStart => exact ⟨0, Nat.zero_le _, rfl, fun q hq => absurd hq (Nat.not_lt_zero _), rfl⟩
 case round =>
  obtain ⟨i, hi, rfl, hq, hwr⟩ := hrel
  obtain rfl := hwr.symm
  have HQN := hid hq
  clear hwr hq
  have y2 := X5c.out.cell 2
  by_cases hlt : i < n1
  · have d1 : (i : Int) < (n1 : Int) := by omega
    have i0 : (0 : Int) ≤ (i : Int) := by omega
    obtain ⟨qb, qo, ea⟩ : ∃ qb qo, a1 = some ⟨qb, qo, none⟩ := by
     rcases HQ3.out.2 with q0 | ⟨b, off, e, _, _⟩
     · omega
     · exact ⟨b, off, e⟩
    have hc : w3.cell? ⟨qb, qo + i * 2, none⟩ = some (.string (o1 i).nm) := by
     rcases HQ3.out.2 with q0 | ⟨b, off, e, hbl, hc⟩
     · omega
     · rw [ea] at e; cases e; exact (hc i hlt).1
    rw [ea] at y2
    clear ea
    have nz := (PB.out i hlt).1
    have FA : Hid (bgP (o1 i).nm ⟨#[120, 45]⟩ → ¬ sgOk ⟨mt, pt, ⟨a1, n1, c1, o1⟩, ⟨a2, n2, c2, o2⟩, bd⟩ id sec nw ls ts m) := fun hh hk => hk.2.1 i hlt hh
    have TR : Hid (¬ bgP (o1 i).nm ⟨#[120, 45]⟩ → ∀ q, q < i + 1 → ¬ bgP (o1 q).nm ⟨#[120, 45]⟩) := fun hh q hq => by
     by_cases e : q = i
     · rw [e]; exact hh
     · exact HQN.out q (by omega)
    generalize (o1 i).nm = NM at hc nz FA TR
    have K := fun wx => hid ((KB NM nz wx).out)
    by_cases g : bgP NM ⟨#[120, 45]⟩
    · rw [pb_t g] at K
      have NB := hid (FA.out g)
      clear FA TR
      go_wp2_with fail
      refine (K _).out.mono ?_
      rintro e w4 ⟨rfl, hw4⟩
      obtain rfl := hw4.symm
      clear hw4
      have NO : Hid (¬ sgOk ⟨mt, pt, ⟨a1, n1, c1, o1⟩, ⟨a2, n2, c2, o2⟩, bd⟩ id sec nw ls ts m) := NB.out
      have z0 := X11c.out.cell 0
      have z1 := X11c.out.cell 1
      have z2 := X11c.out.cell 2
      have z3 := X11c.out.cell 3
      have z4 := X11c.out.cell 4
      go_wp2_with (refine wpList_store_row rfl 25 (.tmp 10) (.tmp 78) rfl (w.heap.size + 1 + 1) #[.string ⟨#[]⟩, .string ⟨#[]⟩, .slice none 0 0, .slice none 0 0, .string ⟨#[]⟩] rfl rfl _ _ X10c.out (by kernel_rfl) rfl (by simp [Value.oneCell']) ?_)
      refine bodyPost_ret (v := .agg #[.string ⟨#[]⟩, .string ⟨#[]⟩, .slice none 0 0, .slice none 0 0, .string ⟨#[]⟩]) ?_ rfl ⟨below_setRow B3.out _ _ (by omega), .inr ⟨NO.out, rfl⟩⟩
      exact results_cell_row Tryz.results9 _ _ (w.heap.size + 1 + 1) _ _ _ _ rfl (X10c.out.setRow _) Tryz.underlying25 rfl (by kernel_rfl)
    · rw [pb_f g] at K
      have N := hid (TR.out g)
      clear FA TR
      go_wp2_with fail
      refine (K _).out.mono ?_
      rintro e w4 ⟨rfl, hw4⟩
      obtain rfl := hw4.symm
      clear hw4
      go_wp2
      go_roundw
      case rel => exact ⟨i + 1, by omega, by go_num, N.out, trivial⟩
      case measure => simp [intOf]; omega
  · have d1 : ¬ (i : Int) < (n1 : Int) := by omega
    have NX : Hid (∀ q, q < n1 → ¬ bgP (o1 q).nm ⟨#[120, 45]⟩) := fun q hq => HQN.out q (by omega)
    clear HQN KB PB
    have y0 := X5c.out.cell 0
    have y1 := X5c.out.cell 1
    have y4 := X5c.out.cell 4
    obtain ⟨W4, hW4⟩ : ∃ W, W = w3.alloc (.cells #[.string mt, .string pt, .slice none 0 0, .slice none 0 0, .string bd] 25) := ⟨_, rfl⟩
    obtain ⟨X13, hX13⟩ : ∃ X, X = w3.heap.size := ⟨_, rfl⟩
    have s3 : w.heap.size + 1 + 1 + 1 < X13 := by rw [hX13]; exact X11c.out.lt
    have X5d : Hid (RowAt W4 w.heap.size 25 #[.string mt, .string pt, .slice a1 n1 c1, .slice a2 n2 c2, .string bd]) := by rw [hW4]; exact X5c.out.alloc _
    have X6d : Hid (RowAt W4 (w.heap.size + 1) 27 #[.string id, .string sec]) := by rw [hW4]; exact X6c.out.alloc _
    have X10d : Hid (RowAt W4 (w.heap.size + 1 + 1) 25 #[.string ⟨#[]⟩, .string ⟨#[]⟩, .slice none 0 0, .slice none 0 0, .string ⟨#[]⟩]) := by rw [hW4]; exact X10c.out.alloc _
    have X11d : Hid (RowAt W4 (w.heap.size + 1 + 1 + 1) 25 #[.string ⟨#[]⟩, .string ⟨#[]⟩, .slice none 0 0, .slice none 0 0, .string ⟨#[]⟩]) := by rw [hW4]; exact X11c.out.alloc _
    have X13d : Hid (RowAt W4 X13 25 #[.string mt, .string pt, .slice none 0 0, .slice none 0 0, .string bd]) := by rw [hW4, hX13]; exact RowAt.new _ _ _
    have B4 : Hid (Below w.heap.size w W4) := by rw [hW4]; exact B3.out.alloc B3.out.size _
    have HW4 := hid hW4
    have HX13 := hid hX13
    clear hW4 hX13
    go_upto_region 10 with ((refine wpList_store_row rfl 25 (.tmp 13) (.tmp 85) rfl w3.heap.size #[.string mt, .string pt, .slice none 0 0, .slice none 0 0, .string bd] rfl rfl _ _ (RowAt.new w3 _ _) (by kernel_rfl) rfl (by simp [Value.oneCell']) ?_); rw [World.setRow_alloc_new])
    rw [← HW4.out, ← HX13.out]
    clear HW4 HX13 y0 y1 y2 y4 X5c X6c X10c X11c B3 HQ3 HH3
    obtain ⟨LQ, hLQ⟩ : ∃ l, l = hpList o1 n1 := ⟨_, rfl⟩
    obtain ⟨LH, hLH⟩ : ∃ l, l = hpList o2 n2 := ⟨_, rfl⟩
    have lQ : LQ.length = n1 := by rw [hLQ]; exact hpList_len _ _
    have lH : LH.length = n2 := by rw [hLH]; exact hpList_len _ _
    have n30 : n1 ≤ 30 := h1.2.2.1.1
    have n31 : n2 ≤ 30 := h1.2.2.2.1.1
    have hcQ : Hid (Hps W4 a1 n1 c1 (hAt LQ)) := by
     have q := (HIN.out.below B4.out).qs
     refine ⟨q.1, ?_⟩
     rcases q.2 with q0 | ⟨b, off, e, hbl, hc⟩
     · exact .inl q0
     · exact .inr ⟨b, off, e, hbl, fun k hk => by rw [hLQ, hAt_list o1 n1 k hk]; exact hc k hk⟩
    have HLQ := hid hLQ
    have HLH := hid hLH
    have HlQ := hid lQ
    have HlH := hid lH
    have H1 := hid h1
    clear hLQ hLH lQ lH h1
    have q13 := X13d.out.cell 2
    have y2 := X5d.out.cell 2
    obtain ⟨B, hBe⟩ : ∃ b, b = W4.heap.size := ⟨_, rfl⟩
    have HBe := hid hBe
    have sB : X13 < B := by rw [hBe]; exact X13d.out.lt
    clear hBe
    go_upto_region 11 with (at_builtin; refine append_hpsO B W4 rfl (.tmp 87) (.tmp 89) 23 rfl Tryz.underlying23 Tryz.infoHpG (.slice none 0 0) [] rfl (OwnHp.nil _ _) (by rw [HBe.out]; exact Nat.le_refl _) a1 n1 c1 LQ rfl HlQ.out HA1.out hcQ.out (by simp; omega) ?_; intro v5 w5 hO5 hg5; rw [List.nil_append] at hO5; obtain ⟨aQ, cQ, rfl, hpQ⟩ := OwnHp.hps hO5; have X13e := row_grown X13d.out hg5 (by simp [Value.ownBlock]); have q5 := X13e.cell 2; have f5 := X13e.free 2)
    obtain ⟨W6, hW6⟩ : ∃ W, W = w5.setCell ⟨X13, 2, none⟩ (.slice aQ LQ.length cQ) := ⟨_, rfl⟩
    have gR : ∀ {x : Nat} {t : TypeId} {cs : Array Value}, RowAt W4 x t cs → RowAt w5 x t cs := fun hr => row_grown hr hg5 (by simp [Value.ownBlock])
    have X5e : Hid (RowAt W6 w.heap.size 25 #[.string mt, .string pt, .slice a1 n1 c1, .slice a2 n2 c2, .string bd]) := by rw [hW6]; exact (gR X5d.out).other _ _ (by simp; omega)
    have X6e : Hid (RowAt W6 (w.heap.size + 1) 27 #[.string id, .string sec]) := by rw [hW6]; exact (gR X6d.out).other _ _ (by simp; omega)
    have X10e : Hid (RowAt W6 (w.heap.size + 1 + 1) 25 #[.string ⟨#[]⟩, .string ⟨#[]⟩, .slice none 0 0, .slice none 0 0, .string ⟨#[]⟩]) := by rw [hW6]; exact (gR X10d.out).other _ _ (by simp; omega)
    have X11e : Hid (RowAt W6 (w.heap.size + 1 + 1 + 1) 25 #[.string ⟨#[]⟩, .string ⟨#[]⟩, .slice none 0 0, .slice none 0 0, .string ⟨#[]⟩]) := by rw [hW6]; exact (gR X11d.out).other _ _ (by simp; omega)
    have X13f : Hid (RowAt W6 X13 25 #[.string mt, .string pt, .slice aQ LQ.length cQ, .slice none 0 0, .string bd]) := by rw [hW6]; exact X13e.set 2 _
    have B6 : Hid (Below w.heap.size w W6) := by rw [hW6]; exact (B4.out.grown hg5 B4.out.size (fun g hg => by simp [Value.ownBlock] at hg)).setCell (by simp; omega) _
    have OQ6 : Hid (OwnHp W6 B (.slice aQ LQ.length cQ) LQ) := by rw [hW6]; exact OwnHp.setCellS hO5 (OwnHp.neRowS hO5 X13e (by decide))
    have sz6 : B ≤ W6.heap.size := by rw [hW6]; have := hg5.size; have := HBe.out; simp; omega
    have HW6 := hid hW6
    rw [← hW6]
    clear hW6 X13e q5 f5 hO5 hg5 hpQ gR X5d X6d X10d X11d X13d B4 q13 y2 hcQ HBe
    have hcH : Hid (Hps W6 a2 n2 c2 (hAt LH)) := by
     have q := (HIN.out.below B6.out).hs
     refine ⟨q.1, ?_⟩
     rcases q.2 with q0 | ⟨b, off, e, hbl, hc⟩
     · exact .inl q0
     · exact .inr ⟨b, off, e, hbl, fun k hk => by rw [HLH.out, hAt_list o2 n2 k hk]; exact hc k hk⟩
    have q13 := X13f.out.cell 3
    have y3 := X5e.out.cell 3
    obtain ⟨BH, hBH⟩ : ∃ b, b = W6.heap.size := ⟨_, rfl⟩
    have HBH := hid hBH
    have sBH : B ≤ BH := by rw [hBH]; exact sz6
    have QB : Hid (∀ g, (Value.slice aQ LQ.length cQ).ownBlock = some g → g < BH) := fun g hg => by rw [hBH]; exact (World.ownsRow.lt OQ6.out g hg).2
    clear hBH HW6
    go_upto_region 12 with (at_builtin; refine append_hpsO BH W6 rfl (.tmp 93) (.tmp 95) 23 rfl Tryz.underlying23 Tryz.infoHpG (.slice none 0 0) [] rfl (OwnHp.nil _ _) (by rw [HBH.out]; exact Nat.le_refl _) a2 n2 c2 LH rfl HlH.out HA2.out hcH.out (by simp; omega) ?_; intro v7 w7 hO7 hg7; rw [List.nil_append] at hO7; obtain ⟨aH, cH, rfl, hpH⟩ := OwnHp.hps hO7; have X13e := row_grown X13f.out hg7 (by simp [Value.ownBlock]); have q7 := X13e.cell 3; have f7 := X13e.free 3)
    obtain ⟨W8, hW8⟩ : ∃ W, W = w7.setCell ⟨X13, 3, none⟩ (.slice aH LH.length cH) := ⟨_, rfl⟩
    have gR : ∀ {x : Nat} {t : TypeId} {cs : Array Value}, RowAt W6 x t cs → RowAt w7 x t cs := fun hr => row_grown hr hg7 (by simp [Value.ownBlock])
    have X5g : Hid (RowAt W8 w.heap.size 25 #[.string mt, .string pt, .slice a1 n1 c1, .slice a2 n2 c2, .string bd]) := by rw [hW8]; exact (gR X5e.out).other _ _ (by simp; omega)
    have X6g : Hid (RowAt W8 (w.heap.size + 1) 27 #[.string id, .string sec]) := by rw [hW8]; exact (gR X6e.out).other _ _ (by simp; omega)
    have X10g : Hid (RowAt W8 (w.heap.size + 1 + 1) 25 #[.string ⟨#[]⟩, .string ⟨#[]⟩, .slice none 0 0, .slice none 0 0, .string ⟨#[]⟩]) := by rw [hW8]; exact (gR X10e.out).other _ _ (by simp; omega)
    have X11g : Hid (RowAt W8 (w.heap.size + 1 + 1 + 1) 25 #[.string ⟨#[]⟩, .string ⟨#[]⟩, .slice none 0 0, .slice none 0 0, .string ⟨#[]⟩]) := by rw [hW8]; exact (gR X11e.out).other _ _ (by simp; omega)
    have X13g : Hid (RowAt W8 X13 25 #[.string mt, .string pt, .slice aQ LQ.length cQ, .slice aH LH.length cH, .string bd]) := by rw [hW8]; exact X13e.set 3 _
    have B8 : Hid (Below w.heap.size w W8) := by rw [hW8]; exact (B6.out.grown hg7 B6.out.size (fun g hg => by simp [Value.ownBlock] at hg)).setCell (by simp; omega) _
    have OQ7 : OwnHp w7 B (.slice aQ LQ.length cQ) LQ := World.ownsRow.kept OQ6.out hg7 (Classical.em _)
    have OQ8 : Hid (OwnHp W8 B (.slice aQ LQ.length cQ) LQ) := by rw [hW8]; exact OwnHp.setCellS OQ7 (OwnHp.neRowS OQ7 X13e (by decide))
    have OH8 : Hid (OwnHp W8 BH (.slice aH LH.length cH) LH) := by rw [hW8]; exact OwnHp.setCellS hO7 (OwnHp.neRowS hO7 X13e (by decide))
    have AP : Hid ((Value.slice aH LH.length cH).ownBlock = none ∨ (Value.slice aH LH.length cH).ownBlock ≠ (Value.slice aQ LQ.length cQ).ownBlock) := by
     show _ ∨ _
     cases hv : (Value.slice aH LH.length cH).ownBlock with
     | none => exact .inl rfl
     | some g => exact .inr fun e => by have := QB.out g e.symm; have := (World.ownsRow.lt OH8.out g hv).1; omega
    have sz8 : B ≤ W8.heap.size := by rw [hW8]; have := hg7.size; simp; omega
    rw [← hW8]
    clear hW8 X13e q7 f7 hO7 hg7 hpH gR X5e X6e X10e X11e X13f B6 OQ6 OQ7 q13 y3 hcH HBH QB
    have TSZ : ∀ i, i < m → (ts i).size ≤ 60 := sgn_sz (r := ⟨mt, pt, ⟨a1, n1, c1, o1⟩, ⟨a2, n2, c2, o2⟩, bd⟩) OK0.out.1 OK0.out.2.2.2.2.2.2.2.2.2
    have KD1 : Hid (∀ wx, Calls Tryz.prog 50 #[.int .i64 nw] wx fun e w' => e = .returned (.string (ofL (Lib.decDigits nw.toNat))) ∧ Below wx.heap.size wx w') := fun wx => sDecI nw nw.toNat (by omega) (by omega) wx
    have KD2 : Hid (∀ wx, Calls Tryz.prog 50 #[.int .i64 ls] wx fun e w' => e = .returned (.string (ofL (Lib.decDigits ls.toNat))) ∧ Below wx.heap.size wx w') := fun wx => sDecI ls ls.toNat (by omega) (by omega) wx
    have KJ : Hid (∀ wx, Strs wx tA m mc ts → Calls Tryz.prog 51 #[.slice tA m mc] wx fun e w' => e = .returned (.string (ofL (jn ts m))) ∧ w' = wx) := fun wx hs => (sJoin tA m mc ts (by omega) (fun i hi => by have := TSZ i hi; omega) wx hs).mono fun e w' ⟨⟨t, he, ht, _⟩, hw⟩ => ⟨by rw [he, ofL_of ht], hw⟩
    refine sg12_wp w w.heap.size (w.heap.size + 1) (w.heap.size + 1 + 1) (w.heap.size + 1 + 1 + 1) X13 B BH mt pt bd id sec #[.string mt, .string pt, .slice a1 n1 c1, .slice a2 n2 c2, .string bd] aQ cQ LQ aH LH.length cH LH tA m mc ts nw ls (ofL (Lib.decDigits nw.toNat)) (ofL (Lib.decDigits ls.toNat)) (ofL (jn ts m)) W8 B8.out X13g.out X6g.out X5g.out X10g.out X11g.out HT.out OQ8.out ⟨OH8.out, AP.out⟩ sz8 (by have := HlQ.out; omega) ⟨by omega, by omega, by omega, by omega, by omega, by omega⟩ KD1.out KD2.out KJ.out ?_
    intro XS G CP w9 hB9 h13 h6 h5 h10' h11 _ ho2 hoH haH hBz9 _ _ _ _ _
    obtain ⟨Q1, hQ1⟩ : ∃ l, l = LQ ++ [(⟨⟨#[120, 45, 105, 100]⟩, id⟩ : Hp), ⟨⟨#[120, 45, 102, 114, 111, 109]⟩, ofL (Lib.decDigits nw.toNat)⟩, ⟨⟨#[120, 45, 108, 97, 115, 116, 115]⟩, ofL (Lib.decDigits ls.toNat)⟩, ⟨⟨#[120, 45, 115, 105, 103, 110, 101, 100]⟩, ofL (jn ts m)⟩] := ⟨_, rfl⟩
    have EQ1 : Hid (Q1 = sgQ1 ⟨mt, pt, ⟨a1, n1, c1, o1⟩, ⟨a2, n2, c2, o2⟩, bd⟩ id nw ls ts m) := by show _ = _; rw [hQ1, HLQ.out]; rfl
    have EH : Hid (LH = sgH ⟨mt, pt, ⟨a1, n1, c1, o1⟩, ⟨a2, n2, c2, o2⟩, bd⟩) := HLH.out
    have lQ1 : LQ.length + 4 = Q1.length := by rw [hQ1]; simp
    rw [← hQ1] at ho2
    simp only [lQ1] at h13 ho2 ⊢
    have Q1s : Hid (∀ x ∈ Q1, x.nm.size ≤ 1000 ∧ x.vl.size ≤ 1000) := by rw [EQ1.out]; exact sgQ1_sz OK0.out
    have LHs : Hid (∀ x ∈ LH, x.nm.size ≤ 1000 ∧ x.vl.size ≤ 1000) := by rw [EH.out]; exact sgH_sz OK0.out.1
    have lq : Q1.length ≤ 34 := by have := HlQ.out; omega
    have X5h := hid h5
    have X6h := hid h6
    have X10h := hid h10'
    have X11h := hid h11
    have X13h := hid h13
    have B9 := hid hB9
    have OQ9 := hid ho2
    have OH9 := hid hoH.1
    have AP9 := hid haH
    have RB1 : RqB ⟨mt, pt, ⟨some ⟨G, 0, none⟩, Q1.length, CP, hAt Q1⟩, ⟨aH, LH.length, cH, hAt LH⟩, bd⟩ 1048576 := ⟨HBB.out.mt, HBB.out.pt, psb_list rfl (by omega) (fun x hx => by have := Q1s.out x hx; omega), psb_list rfl (by have := HlH.out; omega) (fun x hx => by have := LHs.out x hx; omega), HBB.out.bd⟩
    have K13 := hid (sRqF ⟨mt, pt, ⟨some ⟨G, 0, none⟩, Q1.length, CP, hAt Q1⟩, ⟨aH, LH.length, cH, hAt LH⟩, bd⟩ RB1 w9 ⟨hps_own OQ9.out rfl, hps_own OH9.out rfl⟩)
    obtain ⟨V1, hV1⟩ : ∃ v, v = rqV (mkRq mt pt Q1 LH bd) := ⟨_, rfl⟩
    rw [rqV_mkS, ← hV1] at K13
    have HV1 := hid hV1
    have ER1 : Hid (mkRq mt pt Q1 LH bd = sgR1 ⟨mt, pt, ⟨a1, n1, c1, o1⟩, ⟨a2, n2, c2, o2⟩, bd⟩ id nw ls ts m) := by show _ = _; rw [EQ1.out, EH.out]; rfl
    have HQ1 := hid hQ1
    have HlQ1 := hid lQ1
    clear h5 h6 h10' h11 h13 hB9 ho2 hoH haH hQ1 lQ1 hV1 RB1 KD1 KD2 KJ X5g X6g X10g X11g X13g B8 OQ8 OH8 AP
    have z0 := X13h.out.cell 0
    have z1 := X13h.out.cell 1
    have z2 := X13h.out.cell 2
    have z3 := X13h.out.cell 3
    have z4 := X13h.out.cell 4
    go_wp2_with fail
    refine K13.out.mono ?_
    rintro e w10 ⟨rfl, hb10⟩
    have X5i := hid (RowAt.nxS hb10 X5h.out)
    have X6i := hid (RowAt.nxS hb10 X6h.out)
    have X10i := hid (RowAt.nxS hb10 X10h.out)
    have X11i := hid (RowAt.nxS hb10 X11h.out)
    have X13i := hid (RowAt.nxS hb10 X13h.out)
    have B10 := hid (B9.out.trans (hb10.mono B9.out.size))
    have OQ10 := hid (OwnHp.next hb10 OQ9.out)
    have OH10 := hid (OwnHp.next hb10 OH9.out)
    have sz10 : B ≤ w10.heap.size := Nat.le_trans hBz9 hb10.size
    clear hb10 K13 X5h X6h X10h X11h X13h B9 OQ9 OH9 z0 z1 z2 z3 z4
    by_cases g1 : rqP (mkRq mt pt Q1 LH bd)
    case neg =>
     have v1 : V1 = 1 := by rw [HV1.out]; exact rqV_f g1
     subst v1
     have G1 : Hid (¬ rqP (sgR1 ⟨mt, pt, ⟨a1, n1, c1, o1⟩, ⟨a2, n2, c2, o2⟩, bd⟩ id nw ls ts m)) := by rw [← ER1.out]; exact g1
     clear g1
     have NO : Hid (¬ sgOk ⟨mt, pt, ⟨a1, n1, c1, o1⟩, ⟨a2, n2, c2, o2⟩, bd⟩ id sec nw ls ts m) := fun hh => G1.out hh.2.2.1
     have z0 := X11i.out.cell 0
     have z1 := X11i.out.cell 1
     have z2 := X11i.out.cell 2
     have z3 := X11i.out.cell 3
     have z4 := X11i.out.cell 4
     go_wp2_with (refine wpList_store_row rfl 25 (.tmp 10) (.tmp 118) rfl (w.heap.size + 1 + 1) #[.string ⟨#[]⟩, .string ⟨#[]⟩, .slice none 0 0, .slice none 0 0, .string ⟨#[]⟩] rfl rfl _ _ X10i.out (by kernel_rfl) rfl (by simp [Value.oneCell']) ?_)
     refine bodyPost_ret (v := .agg #[.string ⟨#[]⟩, .string ⟨#[]⟩, .slice none 0 0, .slice none 0 0, .string ⟨#[]⟩]) ?_ rfl ⟨below_setRow B10.out _ _ (by omega), .inr ⟨NO.out, rfl⟩⟩
     exact results_cell_row Tryz.results9 _ _ (w.heap.size + 1 + 1) _ _ _ _ rfl (X10i.out.setRow _) Tryz.underlying25 rfl (by kernel_rfl)
    have v1 : V1 = 0 := by rw [HV1.out]; exact rqV_t g1
    subst v1
    have GG1 : Hid (rqP (sgR1 ⟨mt, pt, ⟨a1, n1, c1, o1⟩, ⟨a2, n2, c2, o2⟩, bd⟩ id nw ls ts m)) := by rw [← ER1.out]; exact g1
    have T1000 : ∀ i, i < m → (ts i).size ≤ 1000 := fun i hi => by have := TSZ i hi; omega
    have SB := sgS_bd (r := ⟨mt, pt, ⟨some ⟨G, 0, none⟩, Q1.length, CP, hAt Q1⟩, ⟨aH, LH.length, cH, hAt LH⟩, bd⟩) (rqP_mkS.2 g1) sec h4 ts m h9 T1000
    obtain ⟨SM, hSM⟩ : ∃ x, x = ofL (Lib.decDigits (sgS ⟨mt, pt, ⟨some ⟨G, 0, none⟩, Q1.length, CP, hAt Q1⟩, ⟨aH, LH.length, cH, hAt LH⟩, bd⟩ sec ts m).toNat) := ⟨_, rfl⟩
    have smz : SM.size ≤ 10 := by rw [hSM]; exact dec_len _ (by omega)
    have ESM : Hid (SM = ofL (Lib.decDigits (sgS (sgR1 ⟨mt, pt, ⟨a1, n1, c1, o1⟩, ⟨a2, n2, c2, o2⟩, bd⟩ id nw ls ts m) sec ts m).toNat)) := by show _ = _; rw [hSM, ← ER1.out]; rfl
    have KS15 : Hid (∀ wx, Below w.heap.size w wx → OwnHp wx B (.slice (some ⟨G, 0, none⟩) Q1.length CP) Q1 → OwnHp wx BH (.slice aH LH.length cH) LH → Calls Tryz.prog 52 #[.agg #[.string mt, .string pt, .slice (some ⟨G, 0, none⟩) Q1.length CP, .slice aH LH.length cH, .string bd], .string sec, .slice tA m mc] wx fun e w' => e = .returned (.string SM) ∧ Below wx.heap.size wx w') := fun wx hbx hq hh => by
     rw [hSM]
     exact sSum10 mt pt G 0 Q1.length CP (hAt Q1) aH LH.length cH (hAt LH) bd (rqP_mkS.2 g1) sec h4 tA m mc ts h9 T1000 wx ⟨hps_own hq rfl, hps_own hh rfl⟩ (HT.out.below hbx)
    clear hSM g1 SB T1000 TSZ
    go_upto_region 15 with fail
    refine sg15_wp w w.heap.size (w.heap.size + 1) (w.heap.size + 1 + 1) (w.heap.size + 1 + 1 + 1) X13 B BH mt pt bd id sec #[.string mt, .string pt, .slice a1 n1 c1, .slice a2 n2 c2, .string bd] (some ⟨G, 0, none⟩) CP Q1 aH LH.length cH LH tA m mc ts nw ls SM w10 B10.out X13i.out X6i.out X5i.out X10i.out X11i.out HT.out OQ10.out ⟨OH10.out, AP9.out⟩ sz10 (by omega) ⟨by omega, by omega, by omega, by omega, by omega, by omega⟩ KS15.out ?_
    intro XS2 G2 CP2 w11 hB11 h13 h6 h5 h10' h11 _ ho2 hoH haH hBz11 _ _ _
    obtain ⟨Q2, hQ2⟩ : ∃ l, l = Q1 ++ [(⟨⟨#[120, 45, 115, 117, 109]⟩, SM⟩ : Hp)] := ⟨_, rfl⟩
    have EQ2 : Hid (Q2 = sgQ2 ⟨mt, pt, ⟨a1, n1, c1, o1⟩, ⟨a2, n2, c2, o2⟩, bd⟩ id sec nw ls ts m) := by show _ = _; rw [hQ2, ESM.out, EQ1.out]; rfl
    have lQ2 : Q1.length + 1 = Q2.length := by rw [hQ2]; simp
    rw [← hQ2] at ho2
    simp only [lQ2] at h13 ho2 ⊢
    have Q2s : Hid (∀ x ∈ Q2, x.nm.size ≤ 1000 ∧ x.vl.size ≤ 1000) := by
     rw [hQ2]
     intro x hx
     rcases List.mem_append.1 hx with q | q
     · exact Q1s.out x q
     · rw [List.mem_singleton.1 q]; exact ⟨by show (5 : Nat) ≤ 1000; omega, by show SM.size ≤ 1000; omega⟩
    have lq2 : Q2.length ≤ 35 := by omega
    have X10j := hid h10'
    have X11j := hid h11
    have X13j := hid h13
    have B11 := hid hB11
    have OQ11 := hid ho2
    have OH11 := hid hoH.1
    have AP11 := hid haH
    have RB2 : RqB ⟨mt, pt, ⟨some ⟨G2, 0, none⟩, Q2.length, CP2, hAt Q2⟩, ⟨aH, LH.length, cH, hAt LH⟩, bd⟩ 1048576 := ⟨HBB.out.mt, HBB.out.pt, psb_list rfl (by omega) (fun x hx => by have := Q2s.out x hx; omega), psb_list rfl (by have := HlH.out; omega) (fun x hx => by have := LHs.out x hx; omega), HBB.out.bd⟩
    have K16 := hid (sRqF ⟨mt, pt, ⟨some ⟨G2, 0, none⟩, Q2.length, CP2, hAt Q2⟩, ⟨aH, LH.length, cH, hAt LH⟩, bd⟩ RB2 w11 ⟨hps_own OQ11.out rfl, hps_own OH11.out rfl⟩)
    obtain ⟨V2, hV2⟩ : ∃ v, v = rqV (mkRq mt pt Q2 LH bd) := ⟨_, rfl⟩
    rw [rqV_mkS, ← hV2] at K16
    have HV2 := hid hV2
    have ER2 : Hid (mkRq mt pt Q2 LH bd = sgR2 ⟨mt, pt, ⟨a1, n1, c1, o1⟩, ⟨a2, n2, c2, o2⟩, bd⟩ id sec nw ls ts m) := by show _ = _; rw [EQ2.out, EH.out]; rfl
    clear h5 h6 h10' h11 h13 hB11 ho2 hoH haH hQ2 lQ2 hV2 RB2 KS15 X5i X6i X10i X11i X13i B10 OQ10 OH10 AP9
    have z0 := X13j.out.cell 0
    have z1 := X13j.out.cell 1
    have z2 := X13j.out.cell 2
    have z3 := X13j.out.cell 3
    have z4 := X13j.out.cell 4
    go_wp2_with fail
    refine K16.out.mono ?_
    rintro e w12 ⟨rfl, hb12⟩
    have X10k := hid (RowAt.nxS hb12 X10j.out)
    have X11k := hid (RowAt.nxS hb12 X11j.out)
    have X13k := hid (RowAt.nxS hb12 X13j.out)
    have B12 := hid (B11.out.trans (hb12.mono B11.out.size))
    have OQ12 := hid (OwnHp.next hb12 OQ11.out)
    have OH12 := hid (OwnHp.next hb12 OH11.out)
    clear hb12 K16 X10j X11j X13j B11 OQ11 OH11 z0 z1 z2 z3 z4
    by_cases g2 : rqP (mkRq mt pt Q2 LH bd)
    case neg =>
     have v2 : V2 = 1 := by rw [HV2.out]; exact rqV_f g2
     subst v2
     have G2n : Hid (¬ rqP (sgR2 ⟨mt, pt, ⟨a1, n1, c1, o1⟩, ⟨a2, n2, c2, o2⟩, bd⟩ id sec nw ls ts m)) := by rw [← ER2.out]; exact g2
     clear g2
     have NO : Hid (¬ sgOk ⟨mt, pt, ⟨a1, n1, c1, o1⟩, ⟨a2, n2, c2, o2⟩, bd⟩ id sec nw ls ts m) := fun hh => G2n.out hh.2.2.2
     have z0 := X11k.out.cell 0
     have z1 := X11k.out.cell 1
     have z2 := X11k.out.cell 2
     have z3 := X11k.out.cell 3
     have z4 := X11k.out.cell 4
     go_wp2_with (refine wpList_store_row rfl 25 (.tmp 10) (.tmp 133) rfl (w.heap.size + 1 + 1) #[.string ⟨#[]⟩, .string ⟨#[]⟩, .slice none 0 0, .slice none 0 0, .string ⟨#[]⟩] rfl rfl _ _ X10k.out (by kernel_rfl) rfl (by simp [Value.oneCell']) ?_)
     refine bodyPost_ret (v := .agg #[.string ⟨#[]⟩, .string ⟨#[]⟩, .slice none 0 0, .slice none 0 0, .string ⟨#[]⟩]) ?_ rfl ⟨below_setRow B12.out _ _ (by omega), .inr ⟨NO.out, rfl⟩⟩
     exact results_cell_row Tryz.results9 _ _ (w.heap.size + 1 + 1) _ _ _ _ rfl (X10k.out.setRow _) Tryz.underlying25 rfl (by kernel_rfl)
    have v2 : V2 = 0 := by rw [HV2.out]; exact rqV_t g2
    subst v2
    have OKK : Hid (sgOk ⟨mt, pt, ⟨a1, n1, c1, o1⟩, ⟨a2, n2, c2, o2⟩, bd⟩ id sec nw ls ts m) := ⟨OK0.out, NX.out, GG1.out, by rw [← ER2.out]; exact g2⟩
    clear g2
    have z0 := X13k.out.cell 0
    have z1 := X13k.out.cell 1
    have z2 := X13k.out.cell 2
    have z3 := X13k.out.cell 3
    have z4 := X13k.out.cell 4
    have FIN : Hid (AnsSg w ⟨mt, pt, ⟨a1, n1, c1, o1⟩, ⟨a2, n2, c2, o2⟩, bd⟩ id sec nw ls ts m (.returned (.agg #[.string mt, .string pt, .slice (some ⟨G2, 0, none⟩) Q2.length CP2, .slice aH LH.length cH, .string bd])) (w12.setRow (w.heap.size + 1 + 1) #[.string mt, .string pt, .slice (some ⟨G2, 0, none⟩) Q2.length CP2, .slice aH LH.length cH, .string bd])) := by
     refine ⟨below_setRow B12.out _ _ (by omega), .inl ⟨OKK.out, some ⟨G2, 0, none⟩, CP2, aH, cH, B, BH, ?_⟩⟩
     rw [← EQ2.out, ← EH.out]
     exact ⟨rfl, OwnHp.setRowS OQ12.out (OwnHp.neRowS OQ12.out X10k.out (by decide)) _, OwnHp.setRowS OH12.out (OwnHp.neRowS OH12.out X10k.out (by decide)) _, by omega, by omega, AP11.out⟩
    go_wp2_with (refine wpList_store_row rfl 25 (.tmp 10) (.tmp 134) rfl (w.heap.size + 1 + 1) #[.string mt, .string pt, .slice (some ⟨G2, 0, none⟩) Q2.length CP2, .slice aH LH.length cH, .string bd] rfl rfl _ _ X10k.out (by kernel_rfl) rfl (by simp [Value.oneCell']) ?_)
    refine bodyPost_ret (v := .agg #[.string mt, .string pt, .slice (some ⟨G2, 0, none⟩) Q2.length CP2, .slice aH LH.length cH, .string bd]) ?_ rfl FIN.out
    exact results_cell_row Tryz.results9 _ _ (w.heap.size + 1 + 1) _ _ _ _ rfl (X10k.out.setRow _) Tryz.underlying25 rfl (by kernel_rfl)
end Go.Proofs.YtkcjigelenofhaaGreatDoor
