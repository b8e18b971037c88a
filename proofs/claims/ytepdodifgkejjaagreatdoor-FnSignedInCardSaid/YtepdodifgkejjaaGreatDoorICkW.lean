import Derived.Test.YtepdodifgkejjaaGreatDoorICkT
namespace Go.Proofs.YtepdodifgkejjaaGreatDoor
open Go.RowKit
/-! partSigned (by genckw.py). -/
theorem results_rr_tmp2 {P : Program} {fn : Func} {p q u u' : Tmp} {ty ty2 : TypeId} (h : fn.results = #[.cell p ty, .cell q ty2, .tmp u, .tmp u']) (tmps : Array Value) (w : World) (g : Nat) (t : TypeId) (cs : Array Value) (fr : Nat × Nat) (d : TypeDesc) (g2 : Nat) (t2 : TypeId) (cs2 : Array Value) (fr2 : Nat × Nat) (d2 : TypeDesc) (v v' : Value)
    (hp : tmps.getD p undef = .pointer (some ⟨g, 0, none⟩)) (hq : tmps.getD q undef = .pointer (some ⟨g2, 0, none⟩)) (hv : tmps.getD u undef = v) (hv2 : tmps.getD u' undef = v') (hg : w.heap[g]? = some (.cells cs t fr)) (hg2 : w.heap[g2]? = some (.cells cs2 t2 fr2))
    (hu : P.underlying ty = some d) (hd : (match d with | .struct _ | .array _ _ => true | _ => false) = true) (hi : (P.info? ty).map (·.size) = some cs.size)
    (hu2 : P.underlying ty2 = some d2) (hd2 : (match d2 with | .struct _ | .array _ _ => true | _ => false) = true) (hi2 : (P.info? ty2).map (·.size) = some cs2.size) :
    (results fn tmps).run P w = .ok (.tuple #[.agg cs, .agg cs2, v, v']) w := by
  have hp' : tmps[p]?.getD undef = .pointer (some ⟨g, 0, none⟩) := by simpa using hp
  have hq' : tmps[q]?.getD undef = .pointer (some ⟨g2, 0, none⟩) := by simpa using hq
  have hv' : tmps[u]?.getD undef = v := by simpa using hv
  have hv2' : tmps[u']?.getD undef = v' := by simpa using hv2
  simp [results, h, hp', hq', hv', hv2', asAddr, run_loadVar_row w g t ty cs fr d hg hu hd hi, run_loadVar_row w g2 t2 ty2 cs2 fr2 d2 hg2 hu2 hd2 hi2]
/-- what the parting of a signed request gives -/
def PtO (r : Rq) (w' : World) (e : Ending) : Prop := ∃ (m p : ByteArray) (a1 : Option Addr) (n1 c1 : Nat) (a2 : Option Addr) (n2 c2 : Nat) (d id : ByteArray) (z1 z2 z4 : Int) (sA : Option Addr) (sl mc : Nat) (b : Bool),
  e = .returned (.tuple #[.agg #[.string m, .string p, .slice a1 n1 c1, .slice a2 n2 c2, .string d], .agg #[.string id, .int .i64 z1, .int .i64 z2, .slice sA sl mc], .int .i64 z4, .bool b]) ∧ (b = true ↔ ckP r) ∧
  (b = true → (m = r.mt ∧ p = r.pt ∧ a1 = r.qs.ad ∧ n1 = r.qs.n - 1 ∧ c1 = r.qs.cap) ∧ (a2 = r.hs.ad ∧ n2 = r.hs.n ∧ c2 = r.hs.cap ∧ d = r.bd) ∧ (id = ckV r 0 ∧ z1 = (numL (ckV r 1).data.toList : Int) ∧ z2 = (numL (ckV r 2).data.toList : Int) ∧ z4 = (numL (ckV r 4).data.toList : Int)) ∧ sl = (ckS r).length ∧ SgAt w' sA mc (ckS r))
theorem ptO_no {r : Rq} {w' : World} (h : ¬ ckP r) : PtO r w' (.returned (.tuple #[.agg #[.string ⟨#[]⟩, .string ⟨#[]⟩, .slice none 0 0, .slice none 0 0, .string ⟨#[]⟩], .agg #[.string ⟨#[]⟩, .int .i64 0, .int .i64 0, .slice none 0 0], .int .i64 0, .bool false])) :=
  ⟨_, _, _, _, _, _, _, _, _, _, _, _, _, _, _, _, _, rfl, ⟨fun q => Bool.noConfusion q, fun q => absurd q h⟩, fun q => Bool.noConfusion q⟩
theorem splA_memW (c : UInt8) : ∀ (l cur x : List UInt8), x ∈ splA c cur l → x.length ≤ cur.length + l.length
  | [], cur, x, h => by
    unfold splA at h
    rw [List.mem_singleton.1 h]; simp
  | y :: r, cur, x, h => by
    unfold splA at h
    split at h
    · rcases List.mem_cons.1 h with rfl | h
      · simp
      · have := splA_memW c r [] x h; simp at this ⊢; omega
    · have := splA_memW c r (cur ++ [y]) x h; simp at this ⊢; omega
theorem tAt_size (V : ByteArray) (i : Nat) : (tAt (sgT V) i).size ≤ V.size := by
  unfold tAt
  rw [List.getD_eq_getElem?_getD]
  cases h : (sgT V)[i]? with
  | none => exact Nat.zero_le _
  | some x =>
    have hm := List.mem_of_getElem? h
    unfold sgT at hm
    split at hm
    · cases hm
    · unfold splB at hm
      obtain ⟨y, hy, rfl⟩ := List.mem_map.1 hm
      have q := splA_memW 44 _ _ _ hy
      show (ofL y).size ≤ V.size
      rw [ofL_size]
      simpa using q
theorem SgAt.setRow {w : World} {sA : Option Addr} {mc : Nat} {L : List ByteArray} (h : SgAt w sA mc L) {X : Nat} {t : TypeId} {cs : Array Value} (hr : RowAt w X t cs) (ht : t ≠ 9) (c' : Array Value) : SgAt (w.setRow X c') sA mc L := by
  rcases h with h | ⟨b, h1, h2, h⟩
  · exact .inl h
  · refine .inr ⟨b, h1, h2, h.otherRow _ _ fun e => ?_⟩
    subst e
    unfold RowAt at h hr
    rw [h] at hr
    cases hr
    exact ht rfl
set_option maxRecDepth 20000 in
set_option maxHeartbeats 8000000 in
theorem iPart (mt pt : ByteArray) (a1 : Option Addr) (n1 c1 : Nat) (o1 : Nat → Hp) (a2 : Option Addr) (n2 c2 : Nat) (o2 : Nat → Hp) (bd : ByteArray) (hB : RqB ⟨mt, pt, ⟨a1, n1, c1, o1⟩, ⟨a2, n2, c2, o2⟩, bd⟩ 1048576) (w : World) (hv : RdV w) (h : RqIn w ⟨mt, pt, ⟨a1, n1, c1, o1⟩, ⟨a2, n2, c2, o2⟩, bd⟩) :
    Calls Tryz.prog 54 #[.agg #[.string mt, .string pt, .slice a1 n1 c1, .slice a2 n2 c2, .string bd]] w fun e w' => PtO ⟨mt, pt, ⟨a1, n1, c1, o1⟩, ⟨a2, n2, c2, o2⟩, bd⟩ w' e ∧ Below w.heap.size w w' := by
  obtain ⟨W1, hW1⟩ : ∃ W, W = ((w.alloc (.cells #[.string mt, .string pt, .slice a1 n1 c1, .slice a2 n2 c2, .string bd] 25)).alloc (.cells #[.string ⟨#[]⟩, .string ⟨#[]⟩, .slice none 0 0, .slice none 0 0, .string ⟨#[]⟩] 25)).alloc (.cells #[.string ⟨#[]⟩, .int .i64 0, .int .i64 0, .slice none 0 0] 72) := ⟨_, rfl⟩
  have X1 : Hid (RowAt W1 w.heap.size 25 #[.string mt, .string pt, .slice a1 n1 c1, .slice a2 n2 c2, .string bd]) := by rw [hW1]; exact ((RowAt.new _ _ _).alloc _).alloc _
  have X2 : Hid (RowAt W1 (w.heap.size + 1) 25 #[.string ⟨#[]⟩, .string ⟨#[]⟩, .slice none 0 0, .slice none 0 0, .string ⟨#[]⟩]) := by rw [hW1]; exact (RowAt.next _ _ _ (by simp only [size_al])).alloc _
  have X3 : Hid (RowAt W1 (w.heap.size + 2) 72 #[.string ⟨#[]⟩, .int .i64 0, .int .i64 0, .slice none 0 0]) := by rw [hW1]; exact RowAt.next _ _ _ (by simp only [size_al])
  have B1 : Hid (Below w.heap.size w W1) := by rw [hW1]; exact (((Below.refl _ _).alloc (Nat.le_refl _) _).alloc (by simp) _).alloc (by simp; omega) _
  have KR := fun wx (hbx : Below w.heap.size w wx) => hid (iRqF ⟨mt, pt, ⟨a1, n1, c1, o1⟩, ⟨a2, n2, c2, o2⟩, bd⟩ hB wx (h.below hbx))
  obtain ⟨RVv, hRV⟩ : ∃ v, v = rqV ⟨mt, pt, ⟨a1, n1, c1, o1⟩, ⟨a2, n2, c2, o2⟩, bd⟩ := ⟨_, rfl⟩
  have HRV := hid hRV
  rw [← hRV] at KR
  have HIN := hid h
  have HBB := hid hB
  have HV := hid hv
  have HW1 := hid hW1
  have n1b : n1 ≤ 1048576 := hB.qs.1
  have x0 := X1.out.cell 0
  have x1 := X1.out.cell 1
  have x2 := X1.out.cell 2
  have x3 := X1.out.cell 3
  have x4 := X1.out.cell 4
  clear hW1 h hB hv hRV
  go_enter Tryz.func54, Tryz.ntmps54
  go_upto_region 1 with fail
  rw [← HW1.out]
  clear HW1
  go_wp2_with fail
  refine (KR _ B1.out).out.mono ?_
  rintro e w2 ⟨rfl, hb2⟩
  have X1b := hid (RowAt.nxS hb2 X1.out)
  have X2b := hid (RowAt.nxS hb2 X2.out)
  have X3b := hid (RowAt.nxS hb2 X3.out)
  have B2 := hid (B1.out.trans (hb2.mono B1.out.size))
  clear hb2 X1 X2 X3 B1 x0 x1 x2 x3 x4 KR
  have x2 := X1b.out.cell 2
  by_cases h1 : rqP ⟨mt, pt, ⟨a1, n1, c1, o1⟩, ⟨a2, n2, c2, o2⟩, bd⟩
  case neg =>
    have v1 : RVv = 1 := by rw [HRV.out]; exact rqV_f h1
    subst v1
    have NO : Hid (¬ ckP ⟨mt, pt, ⟨a1, n1, c1, o1⟩, ⟨a2, n2, c2, o2⟩, bd⟩) := fun q => h1 q.1
    clear h1
    go_wp2_with (first | (refine wpList_store_row rfl 25 (.tmp 2) (.tmp 18) rfl (w.heap.size + 1) #[.string ⟨#[]⟩, .string ⟨#[]⟩, .slice none 0 0, .slice none 0 0, .string ⟨#[]⟩] rfl rfl _ _ X2b.out (by kernel_rfl) rfl (by simp [Value.oneCell']) ?_) | (refine wpList_store_row rfl 72 (.tmp 3) (.tmp 19) rfl (w.heap.size + 2) #[.string ⟨#[]⟩, .int .i64 0, .int .i64 0, .slice none 0 0] rfl rfl _ _ (X3b.out.otherRow _ _ (by omega)) (by kernel_rfl) rfl (by simp [Value.oneCell']) ?_))
    refine bodyPost_ret (v := .tuple #[.agg #[.string ⟨#[]⟩, .string ⟨#[]⟩, .slice none 0 0, .slice none 0 0, .string ⟨#[]⟩], .agg #[.string ⟨#[]⟩, .int .i64 0, .int .i64 0, .slice none 0 0], .int .i64 0, .bool false]) ?_ rfl ⟨ptO_no NO.out, below_setRow (below_setRow B2.out _ _ (by omega)) _ _ (by omega)⟩
    exact results_rr_tmp2 Tryz.results54 _ _ (w.heap.size + 1) _ _ _ _ (w.heap.size + 2) _ _ _ _ _ _ rfl rfl rfl rfl ((X2b.out.setRow _).otherRow _ _ (by omega)) ((X3b.out.otherRow _ _ (by omega)).setRow _) Tryz.underlying25 rfl (by kernel_rfl) Tryz.underlying72 rfl (by kernel_rfl)
  have v1 : RVv = 0 := by rw [HRV.out]; exact rqV_t h1
  subst v1
  have H1 := hid h1
  clear h1
  by_cases h5 : 5 ≤ n1
  case neg =>
    have d5 : (n1 : Int) < 5 := by omega
    have d6 : decide ((n1 : Int) < 5) = true := decide_eq_true d5
    have NO : Hid (¬ ckP ⟨mt, pt, ⟨a1, n1, c1, o1⟩, ⟨a2, n2, c2, o2⟩, bd⟩) := fun q => h5 q.2.1
    clear h5
    go_wp2_with (first | (refine wpList_store_row rfl 25 (.tmp 2) (.tmp 18) rfl (w.heap.size + 1) #[.string ⟨#[]⟩, .string ⟨#[]⟩, .slice none 0 0, .slice none 0 0, .string ⟨#[]⟩] rfl rfl _ _ X2b.out (by kernel_rfl) rfl (by simp [Value.oneCell']) ?_) | (refine wpList_store_row rfl 72 (.tmp 3) (.tmp 19) rfl (w.heap.size + 2) #[.string ⟨#[]⟩, .int .i64 0, .int .i64 0, .slice none 0 0] rfl rfl _ _ (X3b.out.otherRow _ _ (by omega)) (by kernel_rfl) rfl (by simp [Value.oneCell']) ?_))
    refine bodyPost_ret (v := .tuple #[.agg #[.string ⟨#[]⟩, .string ⟨#[]⟩, .slice none 0 0, .slice none 0 0, .string ⟨#[]⟩], .agg #[.string ⟨#[]⟩, .int .i64 0, .int .i64 0, .slice none 0 0], .int .i64 0, .bool false]) ?_ rfl ⟨ptO_no NO.out, below_setRow (below_setRow B2.out _ _ (by omega)) _ _ (by omega)⟩
    exact results_rr_tmp2 Tryz.results54 _ _ (w.heap.size + 1) _ _ _ _ (w.heap.size + 2) _ _ _ _ _ _ rfl rfl rfl rfl ((X2b.out.setRow _).otherRow _ _ (by omega)) ((X3b.out.otherRow _ _ (by omega)).setRow _) Tryz.underlying25 rfl (by kernel_rfl) Tryz.underlying72 rfl (by kernel_rfl)
  have d5 : ¬ (n1 : Int) < 5 := by omega
  have d6 : decide ((n1 : Int) < 5) = false := decide_eq_false d5
  obtain ⟨nn, hnn⟩ : ∃ k, n1 = k + 5 := ⟨n1 - 5, by omega⟩
  rcases HIN.out.qs.2 with q0 | ⟨qb, qo, hqe, _, _⟩
  · dsimp only at q0; omega
  dsimp only at hqe
  subst hqe
  have cap1 : n1 ≤ c1 := HIN.out.qs.1
  have e5 : (n1 : Int) - 5 = (nn : Int) := by omega
  have e6 : n1 - nn = 5 := by omega
  have l1 : (nn : Int) ≤ (c1 : Int) := by omega
  have l2 : (nn : Int) ≤ (n1 : Int) := by omega
  have l3 : (n1 : Int) ≤ (c1 : Int) := by omega
  have l4 : (0 : Int) ≤ (nn : Int) := by omega
  have e7 : (n1 : Int) - (nn : Int) = 5 := by omega
  replace hnn := hid hnn
  clear h5
  go_upto_region 3 with fail
  go_quiet (fail)
  rename_i nq
  obtain ⟨w3, hw3⟩ : ∃ W, W = w2.drewN nq := ⟨_, rfl⟩
  have X1c : Hid (RowAt w3 w.heap.size 25 #[.string mt, .string pt, .slice (some ⟨qb, qo, none⟩) n1 c1, .slice a2 n2 c2, .string bd]) := by rw [hw3]; exact X1b.out
  have X2c : Hid (RowAt w3 (w.heap.size + 1) 25 #[.string ⟨#[]⟩, .string ⟨#[]⟩, .slice none 0 0, .slice none 0 0, .string ⟨#[]⟩]) := by rw [hw3]; exact X2b.out
  have X3c : Hid (RowAt w3 (w.heap.size + 2) 72 #[.string ⟨#[]⟩, .int .i64 0, .int .i64 0, .slice none 0 0]) := by rw [hw3]; exact X3b.out
  have B3 : Hid (Below w.heap.size w w3) := by rw [hw3]; exact bdNS B2.out nq
  rw [← hw3]
  clear hw3 X1b X2b X3b B2 x2
  generalize hto : qo + nn * 2 = tq
  have CE : Hid (∀ wx, Below w.heap.size w wx → ∀ k, k < 5 → wx.cell? ⟨qb, tq + k * 2, none⟩ = some (.string (o1 (nn + k)).nm) ∧ wx.cell? ⟨qb, tq + k * 2 + 1, none⟩ = some (.string (ckV ⟨mt, pt, ⟨some ⟨qb, qo, none⟩, n1, c1, o1⟩, ⟨a2, n2, c2, o2⟩, bd⟩ k))) := fun wx hbx k hk => by
    rcases (HIN.out.below hbx).qs.2 with q0 | ⟨b, off, hqe, hbl, hc⟩
    · dsimp only at q0; omega
    cases hqe
    have e8 : tq + k * 2 = qo + (nn + k) * 2 := by omega
    have e9 : ckV ⟨mt, pt, ⟨some ⟨qb, qo, none⟩, n1, c1, o1⟩, ⟨a2, n2, c2, o2⟩, bd⟩ k = (o1 (nn + k)).vl := by unfold ckV; show (o1 (n1 - 5 + k)).vl = _; rw [show n1 - 5 = nn by have := hnn.out; omega]
    rw [e8, e9]
    exact hc (nn + k) (by dsimp only; have := hnn.out; omega)
  have VS : Hid (∀ k, k < 5 → (ckV ⟨mt, pt, ⟨some ⟨qb, qo, none⟩, n1, c1, o1⟩, ⟨a2, n2, c2, o2⟩, bd⟩ k).size ≤ 1000) := fun k hk => by
    have e9 : ckV ⟨mt, pt, ⟨some ⟨qb, qo, none⟩, n1, c1, o1⟩, ⟨a2, n2, c2, o2⟩, bd⟩ k = (o1 (nn + k)).vl := by unfold ckV; show (o1 (n1 - 5 + k)).vl = _; rw [show n1 - 5 = nn by have := hnn.out; omega]
    rw [e9]; exact (H1.out.2.2.2.2.2.1 (nn + k) (by dsimp only; have := hnn.out; omega)).2.2
  have HTO := hid hto
  clear hto
  obtain ⟨V0, hV0⟩ : ∃ v, v = ckV ⟨mt, pt, ⟨some ⟨qb, qo, none⟩, n1, c1, o1⟩, ⟨a2, n2, c2, o2⟩, bd⟩ 0 := ⟨_, rfl⟩
  obtain ⟨V1, hV1⟩ : ∃ v, v = ckV ⟨mt, pt, ⟨some ⟨qb, qo, none⟩, n1, c1, o1⟩, ⟨a2, n2, c2, o2⟩, bd⟩ 1 := ⟨_, rfl⟩
  obtain ⟨V2, hV2⟩ : ∃ v, v = ckV ⟨mt, pt, ⟨some ⟨qb, qo, none⟩, n1, c1, o1⟩, ⟨a2, n2, c2, o2⟩, bd⟩ 2 := ⟨_, rfl⟩
  obtain ⟨V3, hV3⟩ : ∃ v, v = ckV ⟨mt, pt, ⟨some ⟨qb, qo, none⟩, n1, c1, o1⟩, ⟨a2, n2, c2, o2⟩, bd⟩ 3 := ⟨_, rfl⟩
  obtain ⟨V4, hV4⟩ : ∃ v, v = ckV ⟨mt, pt, ⟨some ⟨qb, qo, none⟩, n1, c1, o1⟩, ⟨a2, n2, c2, o2⟩, bd⟩ 4 := ⟨_, rfl⟩
  obtain ⟨N4, hN4⟩ : ∃ v, v = (o1 (nn + 4)).nm := ⟨_, rfl⟩
  have HVV : Hid (V0 = ckV ⟨mt, pt, ⟨some ⟨qb, qo, none⟩, n1, c1, o1⟩, ⟨a2, n2, c2, o2⟩, bd⟩ 0 ∧ V1 = ckV ⟨mt, pt, ⟨some ⟨qb, qo, none⟩, n1, c1, o1⟩, ⟨a2, n2, c2, o2⟩, bd⟩ 1 ∧ V2 = ckV ⟨mt, pt, ⟨some ⟨qb, qo, none⟩, n1, c1, o1⟩, ⟨a2, n2, c2, o2⟩, bd⟩ 2 ∧ V3 = ckV ⟨mt, pt, ⟨some ⟨qb, qo, none⟩, n1, c1, o1⟩, ⟨a2, n2, c2, o2⟩, bd⟩ 3 ∧ V4 = ckV ⟨mt, pt, ⟨some ⟨qb, qo, none⟩, n1, c1, o1⟩, ⟨a2, n2, c2, o2⟩, bd⟩ 4 ∧ N4 = (o1 (nn + 4)).nm) := ⟨hV0, hV1, hV2, hV3, hV4, hN4⟩
  have CV : Hid (∀ wx, Below w.heap.size w wx → (wx.cell? ⟨qb, tq + 1, none⟩ = some (.string V0) ∧ wx.cell? ⟨qb, tq + 3, none⟩ = some (.string V1) ∧ wx.cell? ⟨qb, tq + 5, none⟩ = some (.string V2) ∧ wx.cell? ⟨qb, tq + 7, none⟩ = some (.string V3)) ∧ wx.cell? ⟨qb, tq + 8, none⟩ = some (.string N4) ∧ wx.cell? ⟨qb, tq + 9, none⟩ = some (.string V4)) := fun wx hbx => by
    rw [hV0, hV1, hV2, hV3, hV4, hN4]
    exact ⟨⟨(CE.out wx hbx 0 (by omega)).2, (CE.out wx hbx 1 (by omega)).2, (CE.out wx hbx 2 (by omega)).2, (CE.out wx hbx 3 (by omega)).2⟩, (CE.out wx hbx 4 (by omega)).1, (CE.out wx hbx 4 (by omega)).2⟩
  have s1 : V1.size ≤ 1048576 := by rw [hV1]; have := VS.out 1 (by omega); omega
  have s2 : V2.size ≤ 1048576 := by rw [hV2]; have := VS.out 2 (by omega); omega
  have s3 : V3.size ≤ 1048576 := by rw [hV3]; have := VS.out 3 (by omega); omega
  have s4 : V4.size ≤ 1048576 := by rw [hV4]; have := VS.out 4 (by omega); omega
  clear hV0 hV1 hV2 hV3 hV4 hN4
  obtain ⟨y8, y9⟩ := (CV.out w3 B3.out).2
  obtain ⟨W4, hW4⟩ : ∃ W, W = w3.alloc (.cells #[.string N4, .string V4] 66) := ⟨_, rfl⟩
  have b34 : Below w3.heap.size w3 W4 := by rw [hW4]; exact (Below.refl _ _).alloc (Nat.le_refl _) _
  obtain ⟨X8, hX8⟩ : ∃ X, X = w3.heap.size := ⟨_, rfl⟩
  have X8d : Hid (RowAt W4 X8 66 #[.string N4, .string V4]) := by rw [hW4, hX8]; exact RowAt.new _ _ _
  have X1d := hid (RowAt.nxS b34 X1c.out)
  have X2d := hid (RowAt.nxS b34 X2c.out)
  have X3d := hid (RowAt.nxS b34 X3c.out)
  have B4 := hid (B3.out.trans (b34.mono B3.out.size))
  have HW4 := hid hW4
  have HX8 := hid hX8
  have x8l : w.heap.size + 2 < X8 := by rw [hX8]; exact X3c.out.lt
  clear hW4 hX8 b34
  have y8b : w3.cell? ⟨qb, tq + 8 + 1, none⟩ = some (.string V4) := y9
  go_upto_region 5 with ((refine wpList_store_row rfl 66 (.tmp 8) (.tmp 36) rfl w3.heap.size #[.string N4, .string V4] rfl rfl _ _ (RowAt.new w3 _ _) (by kernel_rfl) rfl (by simp [Value.oneCell']) ?_); rw [World.setRow_alloc_new])
  rw [← HW4.out, ← HX8.out]
  clear HW4 y8 y9 y8b X1c X2c X3c
  have KRS := hid (iRSig qb tq (c1 - nn) V0 V1 V2 V3 s1 s2 s3 W4 (HV.out.below B4.out) (fun wx hx => (CV.out wx (B4.out.trans (hx.mono B4.out.size))).1))
  go_wp2_with fail
  refine KRS.out.mono ?_
  rintro e w5 ⟨⟨z1, z2, sA, mc, rfl, hd1, hd2, hsg⟩, hb5⟩
  have X1e := hid (RowAt.nxS hb5 X1d.out)
  have X2e := hid (RowAt.nxS hb5 X2d.out)
  have X3e := hid (RowAt.nxS hb5 X3d.out)
  have X8e := hid (RowAt.nxS hb5 X8d.out)
  have B5 := hid (B4.out.trans (hb5.mono B4.out.size))
  have HD1 := hid hd1
  have HD2 := hid hd2
  obtain ⟨SL, hSL⟩ : ∃ L, L = sgT V3 := ⟨_, rfl⟩
  rw [← hSL] at hsg ⊢
  have HSL := hid hSL
  have HSG := hid hsg
  clear hb5 hd1 hd2 hsg hSL X1d X2d X3d X8d B4 KRS
  obtain ⟨W6, hW6⟩ : ∃ W, W = w5.setRow (w.heap.size + 2) #[.string V0, .int .i64 z1, .int .i64 z2, .slice sA SL.length mc] := ⟨_, rfl⟩
  have X1f : Hid (RowAt W6 w.heap.size 25 #[.string mt, .string pt, .slice (some ⟨qb, qo, none⟩) n1 c1, .slice a2 n2 c2, .string bd]) := by rw [hW6]; exact X1e.out.otherRow _ _ (by omega)
  have X2f : Hid (RowAt W6 (w.heap.size + 1) 25 #[.string ⟨#[]⟩, .string ⟨#[]⟩, .slice none 0 0, .slice none 0 0, .string ⟨#[]⟩]) := by rw [hW6]; exact X2e.out.otherRow _ _ (by omega)
  have X3f : Hid (RowAt W6 (w.heap.size + 2) 72 #[.string V0, .int .i64 z1, .int .i64 z2, .slice sA SL.length mc]) := by rw [hW6]; exact X3e.out.setRow _
  have X8f : Hid (RowAt W6 X8 66 #[.string N4, .string V4]) := by rw [hW6]; exact X8e.out.otherRow _ _ (by omega)
  have SG6 : Hid (SgAt W6 sA mc SL) := by rw [hW6]; exact HSG.out.setRow X3e.out (by decide) _
  have B6 : Hid (Below w.heap.size w W6) := by rw [hW6]; exact below_setRow B5.out _ _ (by omega)
  have HW6 := hid hW6
  clear hW6 X1e X2e X8e HSG B5
  go_upto_region 6 with (refine wpList_store_row rfl 72 (.tmp 3) (.tmp 38) rfl (w.heap.size + 2) #[.string V0, .int .i64 z1, .int .i64 z2, .slice sA SL.length mc] rfl rfl _ _ X3e.out (by kernel_rfl) rfl (by simp [Value.oneCell']) ?_)
  rw [← HW6.out]
  clear HW6 X3e
  have y81 := X8f.out.cell 1
  have K4 := hid (iRDec2 V4 s4 W6 (HV.out.below B6.out))
  go_wp2_with fail
  refine K4.out.mono ?_
  rintro e w7 ⟨⟨z4, rfl, hd4⟩, hb7⟩
  have X1g := hid (RowAt.nxS hb7 X1f.out)
  have X2g := hid (RowAt.nxS hb7 X2f.out)
  have X3g := hid (RowAt.nxS hb7 X3f.out)
  have X8g := hid (RowAt.nxS hb7 X8f.out)
  have SG7 := hid (SG6.out.below hb7)
  have B7 := hid (B6.out.trans (hb7.mono B6.out.size))
  have HD4 := hid hd4
  clear y81 K4 hd4 hb7 X1f X2f X3f X8f SG6 B6
  have CKI : Hid (ckP ⟨mt, pt, ⟨some ⟨qb, qo, none⟩, n1, c1, o1⟩, ⟨a2, n2, c2, o2⟩, bd⟩ ↔ (eqH 4 (hAt (sg4B V0 (ofL (Lib.itoa z1)) (ofL (Lib.itoa z2)) V3)) 4 (fun i => o1 (nn + i)) ∧ N4 = ckNm 4) ∧ ftP V0 z1 z2 nn o1 n2 o2 (tAt SL) SL.length ∧ 0 ≤ z4 ∧ z4 < 2147483647) := by
    obtain ⟨e0, e1, e2, e3, e4, e5⟩ := HVV.out
    have q := ckP_iff (r := ⟨mt, pt, ⟨some ⟨qb, qo, none⟩, n1, c1, o1⟩, ⟨a2, n2, c2, o2⟩, bd⟩) (nn := nn) (z1 := z1) (z2 := z2) (z4 := z4) H1.out hnn.out (by rw [← e1]; exact HD1.out.2) (by rw [← e2]; exact HD2.out.2) (by rw [← e4]; exact HD4.out.2)
    have eS : ckS ⟨mt, pt, ⟨some ⟨qb, qo, none⟩, n1, c1, o1⟩, ⟨a2, n2, c2, o2⟩, bd⟩ = SL := by unfold ckS; rw [← e3]; exact HSL.out.symm
    rw [← e0, ← e3, eS] at q
    rw [e5]
    exact q
  have KP : Hid (∀ wx, Below w7.heap.size w7 wx → SgAt wx sA mc SL → Calls Tryz.prog 43 #[.agg #[.string V0, .int .i64 z1, .int .i64 z2, .slice sA SL.length mc]] wx fun e w' => ∃ X, e = .returned (.slice (some ⟨X, 0, none⟩) 4 4) ∧ Hps w' (some ⟨X, 0, none⟩) 4 4 (hAt (sg4B V0 (ofL (Lib.itoa z1)) (ofL (Lib.itoa z2)) V3)) ∧ Below wx.heap.size wx w') := fun wx hx hs => by
    have hs' := hs.strs
    rw [HSL.out] at hs' ⊢
    exact iSPairsV V0 V3 s3 z1 z2 ⟨HD1.out.1, HD1.out.2.1⟩ ⟨HD2.out.1, HD2.out.2.1⟩ sA mc wx (HV.out.below (B7.out.trans (hx.mono B7.out.size))) hs'
  have KT : Hid (∀ wx, Below w.heap.size w wx → Hps wx (some ⟨qb, tq, none⟩) 4 (c1 - nn) (fun i => o1 (nn + i))) := fun wx hx => by
    rcases (HIN.out.below hx).qs.2 with q0 | ⟨b, off, hqe, hbl, hc⟩
    · dsimp only at q0; omega
    cases hqe
    refine ⟨by have := hnn.out; omega, .inr ⟨qb, tq, rfl, hbl, fun k hk => ?_⟩⟩
    have q := CE.out wx hx k (by omega)
    have e9 : ckV ⟨mt, pt, ⟨some ⟨qb, qo, none⟩, n1, c1, o1⟩, ⟨a2, n2, c2, o2⟩, bd⟩ k = (o1 (nn + k)).vl := by unfold ckV; show (o1 (n1 - 5 + k)).vl = _; rw [show n1 - 5 = nn by have := hnn.out; omega]
    rw [e9] at q
    exact q
  have KE : Hid (∀ wx X, Below w7.heap.size w7 wx → Hps wx (some ⟨X, 0, none⟩) 4 4 (hAt (sg4B V0 (ofL (Lib.itoa z1)) (ofL (Lib.itoa z2)) V3)) → Calls Tryz.prog 94 #[.slice (some ⟨X, 0, none⟩) 4 4, .slice (some ⟨qb, tq, none⟩) 4 (c1 - nn)] wx fun e w' => e = .returned (.bool (pb (eqH 4 (hAt (sg4B V0 (ofL (Lib.itoa z1)) (ofL (Lib.itoa z2)) V3)) 4 (fun i => o1 (nn + i))))) ∧ Below wx.heap.size wx w') := fun wx X hx hh =>
    iEqP _ 4 4 _ _ 4 _ _ (by omega) wx hh (KT.out wx (B7.out.trans (hx.mono B7.out.size)))
  have C4 : (4 : Int) ≤ ((c1 - nn : Nat) : Int) := by have := hnn.out; omega
  go_upto_region 7 with fail
  by_cases hE : eqH 4 (hAt (sg4B V0 (ofL (Lib.itoa z1)) (ofL (Lib.itoa z2)) V3)) 4 (fun i => o1 (nn + i))
  case neg =>
    have NO : Hid (¬ ckP ⟨mt, pt, ⟨some ⟨qb, qo, none⟩, n1, c1, o1⟩, ⟨a2, n2, c2, o2⟩, bd⟩) := fun q => hE (CKI.out.1 q).1.1
    have KE' := hid (fun wx X hx hh => (pb_f hE) ▸ KE.out wx X hx hh)
    refine qa_wp w7 (w.heap.size + 2) X8 qb tq (c1 - nn) V0 N4 V4 z1 z2 sA mc SL _ w7 (Below.refl _ _) X3g.out X8g.out SG7.out KP.out KE'.out C4 ?_
    intro XP w8 hb8 hx3 _ _ _ _ _ _
    have X2h := hid (RowAt.nxS hb8 X2g.out)
    have X3h := hid hx3
    have B8 := hid (B7.out.trans (hb8.mono B7.out.size))
    clear hb8 hx3 hE KE'
    go_wp2_with (first | (refine wpList_store_row rfl 25 (.tmp 2) (.tmp 53) rfl (w.heap.size + 1) #[.string ⟨#[]⟩, .string ⟨#[]⟩, .slice none 0 0, .slice none 0 0, .string ⟨#[]⟩] rfl rfl _ _ X2h.out (by kernel_rfl) rfl (by simp [Value.oneCell']) ?_) | (refine wpList_store_row rfl 72 (.tmp 3) (.tmp 54) rfl (w.heap.size + 2) #[.string ⟨#[]⟩, .int .i64 0, .int .i64 0, .slice none 0 0] rfl rfl _ _ (X3h.out.otherRow _ _ (by omega)) (by kernel_rfl) rfl (by simp [Value.oneCell']) ?_))
    refine bodyPost_ret (v := .tuple #[.agg #[.string ⟨#[]⟩, .string ⟨#[]⟩, .slice none 0 0, .slice none 0 0, .string ⟨#[]⟩], .agg #[.string ⟨#[]⟩, .int .i64 0, .int .i64 0, .slice none 0 0], .int .i64 0, .bool false]) ?_ rfl ⟨ptO_no NO.out, below_setRow (below_setRow B8.out _ _ (by omega)) _ _ (by omega)⟩
    exact results_rr_tmp2 Tryz.results54 _ _ (w.heap.size + 1) _ _ _ _ (w.heap.size + 2) _ _ _ _ _ _ rfl rfl rfl rfl ((X2h.out.setRow _).otherRow _ _ (by omega)) ((X3h.out.otherRow _ _ (by omega)).setRow _) Tryz.underlying25 rfl (by kernel_rfl) Tryz.underlying72 rfl (by kernel_rfl)
  by_cases hN : N4 = ckNm 4
  case neg =>
    have NO : Hid (¬ ckP ⟨mt, pt, ⟨some ⟨qb, qo, none⟩, n1, c1, o1⟩, ⟨a2, n2, c2, o2⟩, bd⟩) := fun q => hN (CKI.out.1 q).1.2
    have KE' := hid (fun wx X hx hh => (pb_t hE) ▸ KE.out wx X hx hh)
    have nq2 : (N4.toList == (⟨#[120, 45, 115, 117, 109]⟩ : ByteArray).toList) = false := (eqL _ _).trans (decide_eq_false hN)
    have nq1 : (N4.toList == [120, 45, 115, 117, 109]) = false := by
      rw [show (⟨#[120, 45, 115, 117, 109]⟩ : ByteArray).toList = [120, 45, 115, 117, 109] from by simp [ByteArray.toList_eq]] at nq2
      exact nq2
    refine qc_wp w7 (w.heap.size + 2) X8 qb tq (c1 - nn) V0 N4 V4 z1 z2 sA mc SL _ w7 (Below.refl _ _) X3g.out X8g.out SG7.out KP.out KE'.out C4 nq1 nq2 ?_
    intro XP w8 hb8 hx3 _ _ _ _ _ _ _ _
    have X2h := hid (RowAt.nxS hb8 X2g.out)
    have X3h := hid hx3
    have B8 := hid (B7.out.trans (hb8.mono B7.out.size))
    clear hb8 hx3 hE hN KE' nq1 nq2
    go_wp2_with (first | (refine wpList_store_row rfl 25 (.tmp 2) (.tmp 53) rfl (w.heap.size + 1) #[.string ⟨#[]⟩, .string ⟨#[]⟩, .slice none 0 0, .slice none 0 0, .string ⟨#[]⟩] rfl rfl _ _ X2h.out (by kernel_rfl) rfl (by simp [Value.oneCell']) ?_) | (refine wpList_store_row rfl 72 (.tmp 3) (.tmp 54) rfl (w.heap.size + 2) #[.string ⟨#[]⟩, .int .i64 0, .int .i64 0, .slice none 0 0] rfl rfl _ _ (X3h.out.otherRow _ _ (by omega)) (by kernel_rfl) rfl (by simp [Value.oneCell']) ?_))
    refine bodyPost_ret (v := .tuple #[.agg #[.string ⟨#[]⟩, .string ⟨#[]⟩, .slice none 0 0, .slice none 0 0, .string ⟨#[]⟩], .agg #[.string ⟨#[]⟩, .int .i64 0, .int .i64 0, .slice none 0 0], .int .i64 0, .bool false]) ?_ rfl ⟨ptO_no NO.out, below_setRow (below_setRow B8.out _ _ (by omega)) _ _ (by omega)⟩
    exact results_rr_tmp2 Tryz.results54 _ _ (w.heap.size + 1) _ _ _ _ (w.heap.size + 2) _ _ _ _ _ _ rfl rfl rfl rfl ((X2h.out.setRow _).otherRow _ _ (by omega)) ((X3h.out.otherRow _ _ (by omega)).setRow _) Tryz.underlying25 rfl (by kernel_rfl) Tryz.underlying72 rfl (by kernel_rfl)
  have KE' := hid (fun wx X hx hh => (pb_t hE) ▸ KE.out wx X hx hh)
  have nq2 : (N4.toList == (⟨#[120, 45, 115, 117, 109]⟩ : ByteArray).toList) = true := (eqL _ _).trans (decide_eq_true hN)
  have nq1 : (N4.toList == [120, 45, 115, 117, 109]) = true := by
    rw [show (⟨#[120, 45, 115, 117, 109]⟩ : ByteArray).toList = [120, 45, 115, 117, 109] from by simp [ByteArray.toList_eq]] at nq2
    exact nq2
  have CK2 : Hid (ckP ⟨mt, pt, ⟨some ⟨qb, qo, none⟩, n1, c1, o1⟩, ⟨a2, n2, c2, o2⟩, bd⟩ ↔ ftP V0 z1 z2 nn o1 n2 o2 (tAt SL) SL.length ∧ 0 ≤ z4 ∧ z4 < 2147483647) := ⟨fun q => (CKI.out.1 q).2, fun q => CKI.out.2 ⟨⟨hE, hN⟩, q⟩⟩
  refine qb_wp w7 (w.heap.size + 2) X8 qb tq (c1 - nn) V0 N4 V4 z1 z2 sA mc SL _ w7 (Below.refl _ _) X3g.out X8g.out SG7.out KP.out KE'.out C4 nq1 nq2 ?_
  intro XP w8 hb8 hx3 _ hsg8 _ _ _ _ _ _
  have X1h := hid (RowAt.nxS hb8 X1g.out)
  have X2h := hid (RowAt.nxS hb8 X2g.out)
  have X3h := hid hx3
  have SG8 := hid hsg8
  have B8 := hid (B7.out.trans (hb8.mono B7.out.size))
  clear hb8 hx3 hsg8 hE hN KE' nq1 nq2 X1g X2g X3g X8g SG7 B7 KP KE KT C4 CKI
  obtain ⟨nq, hnq⟩ : ∃ k, n1 = k + 1 := ⟨n1 - 1, by have := hnn.out; omega⟩
  have g1 : (n1 : Int) - 1 = (nq : Int) := by omega
  have g2 : (nq : Int) ≤ (c1 : Int) := by omega
  have g3 : (nq : Int) ≤ (n1 : Int) := by omega
  have g4 : (0 : Int) ≤ (nq : Int) := by omega
  have HNQ := hid hnq
  clear hnq
  obtain ⟨W9, hW9⟩ : ∃ W, W = w8.setCell ⟨w.heap.size, 2, none⟩ (.slice (some ⟨qb, qo, none⟩) nq c1) := ⟨_, rfl⟩
  have X1i : Hid (RowAt W9 w.heap.size 25 #[.string mt, .string pt, .slice (some ⟨qb, qo, none⟩) nq c1, .slice a2 n2 c2, .string bd]) := by rw [hW9]; exact X1h.out.set 2 _
  have X2i : Hid (RowAt W9 (w.heap.size + 1) 25 #[.string ⟨#[]⟩, .string ⟨#[]⟩, .slice none 0 0, .slice none 0 0, .string ⟨#[]⟩]) := by rw [hW9]; exact X2h.out.other _ _ (by simp)
  have X3i : Hid (RowAt W9 (w.heap.size + 2) 72 #[.string V0, .int .i64 z1, .int .i64 z2, .slice sA SL.length mc]) := by rw [hW9]; exact X3h.out.other _ _ (by simp)
  have SG9 : Hid (SgAt W9 sA mc SL) := by rw [hW9]; exact SgAt.set SG8.out X1h.out (by decide) 2 _
  have B9 : Hid (Below w.heap.size w W9) := by rw [hW9]; exact B8.out.setCell (by simp) _
  have x2 := X1h.out.cell 2
  have f2 := X1h.out.free 2
  have HW9 := hid hW9
  clear hW9
  go_upto_region 9 with fail
  go_upto_region 10 with fail
  rw [← HW9.out]
  clear HW9 x2 f2 g1 g2 g3 g4 X1h X2h X3h SG8 B8
  have KF : Hid (∀ wx, Below w.heap.size w wx → SgAt wx sA mc SL → Calls Tryz.prog 39 #[.agg #[.string V0, .int .i64 z1, .int .i64 z2, .slice sA SL.length mc], .slice (some ⟨qb, qo, none⟩) nn c1, .slice a2 n2 c2] wx fun e w' => e = .returned (.bool (pb (ftP V0 z1 z2 nn o1 n2 o2 (tAt SL) SL.length))) ∧ Below wx.heap.size wx w') := fun wx hx hs => by
    have hq := (HIN.out.below hx).qs
    have hh := (HIN.out.below hx).hs
    have hV := VS.out 3 (by omega)
    rw [← HVV.out.2.2.2.1] at hV
    refine iFits V0 z1 z2 sA SL.length mc (tAt SL) (by have := sgT_len V3; rw [HSL.out]; omega) (fun i _ => by have := tAt_size V3 i; rw [HSL.out]; omega) (some ⟨qb, qo, none⟩) nn c1 o1 (by have := hnn.out; omega) a2 n2 c2 o2 HBB.out.hs.1 (fun i hi => (HBB.out.hs.2 i hi).1) wx ⟨by have := hnn.out; omega, ?_⟩ hh hs.strs
    rcases hq.2 with q0 | ⟨b, off, hqe, hbl, hc⟩
    · dsimp only at q0; omega
    · exact .inr ⟨b, off, hqe, hbl, fun k hk => hc k (by dsimp only; have := hnn.out; omega)⟩
  have STT : w.heap.size ≤ w.heap.size := Nat.le_refl _
  have SZ9 : w.heap.size + 2 < W9.heap.size := X3i.out.lt
  by_cases hF : ftP V0 z1 z2 nn o1 n2 o2 (tAt SL) SL.length
  case neg =>
    have KF' := hid (fun wx hx hs => (pb_f hF) ▸ KF.out wx hx hs)
    have NO : Hid (¬ ckP ⟨mt, pt, ⟨some ⟨qb, qo, none⟩, n1, c1, o1⟩, ⟨a2, n2, c2, o2⟩, bd⟩) := fun q => hF (CK2.out.1 q).1
    clear hF KF CK2
    refine pa_wp w w.heap.size (w.heap.size + 1) (w.heap.size + 2) nn mt pt bd V0 (some ⟨qb, qo, none⟩) nq c1 a2 n2 c2 z1 z2 z4 sA mc SL W9 B9.out X1i.out X2i.out X3i.out SG9.out KF'.out ⟨by omega, by omega, by omega, by omega, by omega, by omega⟩ ?_
    intro dm w10 hB10 _ hx2 hx3 hsg10 _ _
    have X2j := hid hx2
    have X3j := hid hx3
    have SGj := hid hsg10
    have Bj := hid hB10
    clear hx2 hx3 hsg10 hB10
    have PT : Hid (PtO ⟨mt, pt, ⟨some ⟨qb, qo, none⟩, n1, c1, o1⟩, ⟨a2, n2, c2, o2⟩, bd⟩ w10 (.returned (.tuple #[.agg #[.string mt, .string pt, .slice (some ⟨qb, qo, none⟩) nq c1, .slice a2 n2 c2, .string bd], .agg #[.string V0, .int .i64 z1, .int .i64 z2, .slice sA SL.length mc], .int .i64 z4, .bool false]))) := ⟨_, _, _, _, _, _, _, _, _, _, _, _, _, _, _, _, _, rfl, ⟨fun q => Bool.noConfusion q, fun q => absurd q NO.out⟩, fun q => Bool.noConfusion q⟩
    go_wp2
    refine bodyPost_ret (v := .tuple #[.agg #[.string mt, .string pt, .slice (some ⟨qb, qo, none⟩) nq c1, .slice a2 n2 c2, .string bd], .agg #[.string V0, .int .i64 z1, .int .i64 z2, .slice sA SL.length mc], .int .i64 z4, .bool false]) ?_ rfl ⟨PT.out, Bj.out⟩
    exact results_rr_tmp2 Tryz.results54 _ _ (w.heap.size + 1) _ _ _ _ (w.heap.size + 2) _ _ _ _ _ _ rfl rfl rfl rfl X2j.out X3j.out Tryz.underlying25 rfl (by kernel_rfl) Tryz.underlying72 rfl (by kernel_rfl)
  by_cases hG : (0 : Int) ≤ z4
  case neg =>
    have KF' := hid (fun wx hx hs => (pb_t hF) ▸ KF.out wx hx hs)
    have NO : Hid (¬ ckP ⟨mt, pt, ⟨some ⟨qb, qo, none⟩, n1, c1, o1⟩, ⟨a2, n2, c2, o2⟩, bd⟩) := fun q => hG (CK2.out.1 q).2.1
    clear hF KF CK2
    refine pb_wp w w.heap.size (w.heap.size + 1) (w.heap.size + 2) nn mt pt bd V0 (some ⟨qb, qo, none⟩) nq c1 a2 n2 c2 z1 z2 z4 sA mc SL W9 B9.out X1i.out X2i.out X3i.out SG9.out KF'.out ⟨by omega, by omega, by omega, by omega, by omega, by omega⟩ hG ?_
    intro dm w10 hB10 _ hx2 hx3 hsg10 _ _ _
    have X2j := hid hx2
    have X3j := hid hx3
    have SGj := hid hsg10
    have Bj := hid hB10
    clear hx2 hx3 hsg10 hB10
    have PT : Hid (PtO ⟨mt, pt, ⟨some ⟨qb, qo, none⟩, n1, c1, o1⟩, ⟨a2, n2, c2, o2⟩, bd⟩ w10 (.returned (.tuple #[.agg #[.string mt, .string pt, .slice (some ⟨qb, qo, none⟩) nq c1, .slice a2 n2 c2, .string bd], .agg #[.string V0, .int .i64 z1, .int .i64 z2, .slice sA SL.length mc], .int .i64 z4, .bool false]))) := ⟨_, _, _, _, _, _, _, _, _, _, _, _, _, _, _, _, _, rfl, ⟨fun q => Bool.noConfusion q, fun q => absurd q NO.out⟩, fun q => Bool.noConfusion q⟩
    go_wp2
    refine bodyPost_ret (v := .tuple #[.agg #[.string mt, .string pt, .slice (some ⟨qb, qo, none⟩) nq c1, .slice a2 n2 c2, .string bd], .agg #[.string V0, .int .i64 z1, .int .i64 z2, .slice sA SL.length mc], .int .i64 z4, .bool false]) ?_ rfl ⟨PT.out, Bj.out⟩
    exact results_rr_tmp2 Tryz.results54 _ _ (w.heap.size + 1) _ _ _ _ (w.heap.size + 2) _ _ _ _ _ _ rfl rfl rfl rfl X2j.out X3j.out Tryz.underlying25 rfl (by kernel_rfl) Tryz.underlying72 rfl (by kernel_rfl)
  have KF' := hid (fun wx hx hs => (pb_t hF) ▸ KF.out wx hx hs)
  have YES : Hid (decide (z4 < 2147483647) = true ↔ ckP ⟨mt, pt, ⟨some ⟨qb, qo, none⟩, n1, c1, o1⟩, ⟨a2, n2, c2, o2⟩, bd⟩) := ⟨fun q => CK2.out.2 ⟨hF, hG, of_decide_eq_true q⟩, fun q => decide_eq_true (CK2.out.1 q).2.2⟩
  clear hF KF CK2
  refine pc_wp w w.heap.size (w.heap.size + 1) (w.heap.size + 2) nn mt pt bd V0 (some ⟨qb, qo, none⟩) nq c1 a2 n2 c2 z1 z2 z4 sA mc SL W9 B9.out X1i.out X2i.out X3i.out SG9.out KF'.out ⟨by omega, by omega, by omega, by omega, by omega, by omega⟩ hG ?_
  intro dm w10 hB10 _ hx2 hx3 hsg10 _ _ _
  have X2j := hid hx2
  have X3j := hid hx3
  have SGj := hid hsg10
  have Bj := hid hB10
  clear hx2 hx3 hsg10 hB10
  have PT : Hid (PtO ⟨mt, pt, ⟨some ⟨qb, qo, none⟩, n1, c1, o1⟩, ⟨a2, n2, c2, o2⟩, bd⟩ w10 (.returned (.tuple #[.agg #[.string mt, .string pt, .slice (some ⟨qb, qo, none⟩) nq c1, .slice a2 n2 c2, .string bd], .agg #[.string V0, .int .i64 z1, .int .i64 z2, .slice sA SL.length mc], .int .i64 z4, .bool (decide (z4 < 2147483647))]))) := by
    refine ⟨_, _, _, _, _, _, _, _, _, _, _, _, _, _, _, _, _, rfl, YES.out, fun q => ?_⟩
    have hck := YES.out.1 q
    obtain ⟨_, _, _, _, t1, t2, _, t4⟩ := hck
    obtain ⟨e0, e1, e2, e3, e4, e5⟩ := HVV.out
    have eS : ckS ⟨mt, pt, ⟨some ⟨qb, qo, none⟩, n1, c1, o1⟩, ⟨a2, n2, c2, o2⟩, bd⟩ = SL := by unfold ckS; rw [← e3]; exact HSL.out.symm
    refine ⟨⟨rfl, rfl, rfl, by have := HNQ.out; show nq = n1 - 1; omega, rfl⟩, ⟨rfl, rfl, rfl, rfl⟩, ⟨e0, dec_tmV (by rw [← e1]; exact HD1.out.2) t1, dec_tmV (by rw [← e2]; exact HD2.out.2) t2, dec_smV (by rw [← e4]; exact HD4.out.2) t4⟩, by rw [eS], by rw [eS]; exact SGj.out⟩
  go_wp2
  refine bodyPost_ret (v := .tuple #[.agg #[.string mt, .string pt, .slice (some ⟨qb, qo, none⟩) nq c1, .slice a2 n2 c2, .string bd], .agg #[.string V0, .int .i64 z1, .int .i64 z2, .slice sA SL.length mc], .int .i64 z4, .bool (decide (z4 < 2147483647))]) ?_ rfl ⟨PT.out, Bj.out⟩
  exact results_rr_tmp2 Tryz.results54 _ _ (w.heap.size + 1) _ _ _ _ (w.heap.size + 2) _ _ _ _ _ _ rfl rfl rfl rfl X2j.out X3j.out Tryz.underlying25 rfl (by kernel_rfl) Tryz.underlying72 rfl (by kernel_rfl)
end Go.Proofs.YtepdodifgkejjaaGreatDoor
