import Derived.Test.YtccokbfbkeknnaaISeal3
import Derived.Test.YtccokbfbkeknnaaSSeal5
namespace Go.Proofs.Ytccokbfbkeknnaa
open Go.RowKit
/-! The program's openData, unwrapKey, sealedFits, dataKeyOf. -/
theorem stB_take (X : Int) (m : Nat) : ∀ k, (stB X (m + k)).take m = stB X m
  | 0 => by rw [Nat.add_zero, List.take_of_length_le (by rw [stB_len]; exact Nat.le_refl _)]
  | k + 1 => by
    have e : stB X (m + (k + 1)) = stB X (m + k) ++ [UInt8.ofNat (sX X (m + k + 1) / 256 % 256).toNat] := rfl
    rw [e, List.take_append_of_le_length (by rw [stB_len]; omega)]
    exact stB_take X m k
theorem xl_cut (a b : List UInt8) (m : Nat) : (xl a b).take m = xl (a.take m) (b.take m) := by
  unfold xl
  rw [List.take_zipWith]
/-- what openData makes of sealed data, and whether it is so made -/
def opT (k s : ByteArray) (nonce : Int) : ByteArray := ofL ((xrL s.data.toList k nonce).take (s.size - 4))
theorem op_veil (k s : ByteArray) (nonce : Int) (h4 : 4 ≤ s.size) : xl (s.extract 0 (s.size - 4)).data.toList (stB (sx0 k nonce) (s.extract 0 (s.size - 4)).size) = (xrL s.data.toList k nonce).take (s.size - 4) := by
  have e1 : (s.extract 0 (s.size - 4)).size = s.size - 4 := by rw [ByteArray.size_extract]; omega
  rw [e1, ext_lo]
  unfold xrL stmL
  rw [xl_cut, baLen]
  congr 1
  have := stB_take (sx0 k nonce) (s.size - 4) 4
  rw [show s.size - 4 + 4 = s.size by omega] at this
  exact this.symm
theorem opnD_of (k s : ByteArray) (nonce : Int) (h4 : 4 ≤ s.size) : opnD k s nonce = if ofL (dtL k nonce (opT k s nonce)) = s then bsV 0 (opT k s nonce) else bsV 12 ⟨#[]⟩ := by
  have tl : (xrL s.data.toList k nonce).length = s.size := by rw [xrL_len, baLen]
  unfold opnD
  simp only
  rw [tl]
  have e0 : ofL ((xrL s.data.toList k nonce).take (s.size - 4)) = opT k s nonce := rfl
  rw [e0]
  have key : (four (sumOf (k ++ opT k s nonce) 6)).data.toList = (xrL s.data.toList k nonce).drop (s.size - 4) ↔ ofL (dtL k nonce (opT k s nonce)) = s := by
    have eD : dtL k nonce (opT k s nonce) = xrL ((xrL s.data.toList k nonce).take (s.size - 4) ++ (four (sumOf (k ++ opT k s nonce) 6)).data.toList) k nonce := by
      unfold dtL
      congr 1
    constructor
    · intro h
      rw [eD, h, List.take_append_drop, xrL_xrL]
      exact (ofL_of rfl).symm
    · intro h
      have h2 : dtL k nonce (opT k s nonce) = s.data.toList := by rw [← h, ofL_l, h]
      rw [eD] at h2
      have h3 := xrL_xrL ((xrL s.data.toList k nonce).take (s.size - 4) ++ (four (sumOf (k ++ opT k s nonce) 6)).data.toList) k nonce
      rw [h2] at h3
      generalize (four (sumOf (k ++ opT k s nonce) 6)).data.toList = F at h3 ⊢
      generalize xrL s.data.toList k nonce = T at h3 tl ⊢
      have h5 : (T.take (s.size - 4) ++ F).drop (s.size - 4) = F := by
        rw [List.drop_append_of_le_length (by rw [List.length_take]; omega), List.drop_of_length_le (by rw [List.length_take]; omega)]
        rfl
      rw [← h3] at h5
      exact h5.symm
  by_cases q : ofL (dtL k nonce (opT k s nonce)) = s
  · rw [if_pos q, if_pos ⟨h4, key.2 q⟩]
  · rw [if_neg q, if_neg fun h => q (key.1 h.2)]
theorem opnD_no (k s : ByteArray) (nonce : Int) (h4 : ¬ 4 ≤ s.size) : opnD k s nonce = bsV 12 ⟨#[]⟩ := by
  unfold opnD
  simp only
  rw [if_neg fun h => h4 (by have := h.1; rw [xrL_len, baLen] at this; exact this)]
set_option maxRecDepth 20000 in
set_option maxHeartbeats 2000000 in
theorem iOpenD (k s : ByteArray) (nonce : Int) (hk : keyP k) (hs : s.size ≤ 100004) (h1 : nonce ≤ 9223372036854775807) (w : World) :
    Calls Try.prog 38 #[.string k, .string s, .int .i64 nonce] w fun e w' => (∃ (D : ByteArray) (ok : Bool), e = .returned (.tuple #[.string D, .bool ok]) ∧ opnD k s nonce = if ok = true then bsV 0 D else bsV 12 ⟨#[]⟩) ∧ Below w.heap.size w w' := by
  by_cases h4 : 4 ≤ s.size
  case neg =>
    have E := hid (opnD_no k s nonce h4)
    have d4 : (s.size : Int) < 4 := by omega
    go_enter Try.func38, Try.ntmps38
    go_wp2
    go_ret2
    exact ⟨⟨⟨#[]⟩, false, rfl, E.out⟩, Below.refl _ _⟩
  have d4 : ¬ (s.size : Int) < 4 := by omega
  obtain ⟨n, hn4⟩ : ∃ n, s.size = n + 4 := ⟨s.size - 4, by omega⟩
  have en : s.size - 4 = n := by omega
  have E := hid (opnD_of k s nonce h4)
  have HX := sx0_bd k nonce
  have EV := op_veil k s nonce h4
  have PZ : (s.extract 0 n).size = n := by rw [ByteArray.size_extract]; omega
  have KK := fun wx => hid (iStart k nonce hk h1 wx)
  have KV := fun b wx r => hid (iVeil (s.extract 0 n) b (sx0 k nonce) HX.1 HX.2 (by omega) wx r)
  rw [en] at EV
  rw [EV] at KV
  have eo : ofL ((xrL s.data.toList k nonce).take n) = opT k s nonce := by unfold opT; rw [en]
  rw [eo] at KV
  have OZ : (opT k s nonce).size ≤ 100000 := by unfold opT; rw [ofL_size, List.length_take, xrL_len, baLen]; omega
  have KD := fun wx => hid (iSData k (opT k s nonce) nonce hk OZ h1 wx)
  have BQ := ba_beqS (ofL (dtL k nonce (opT k s nonce))) s
  generalize ofL (dtL k nonce (opT k s nonce)) = R at KD BQ E
  generalize opT k s nonce = D at KV KD E
  generalize sx0 k nonce = X at KK KV
  clear eo EV HX OZ en hk
  have i5 : (s.size : Int) - 4 = (n : Int) := by omega
  have i6 : IntKind.i64.wrap (n : Int) = (n : Int) := by rw [IntKind.wrap_i64]; omega
  have i7 : (0 : Int) ≤ (n : Int) := by omega
  have i8 : (n : Int) ≤ (s.size : Int) := by omega
  clear hn4 PZ
  have J : Hid (Below w.heap.size w w) := Below.refl _ _
  go_enter Try.func38, Try.ntmps38
  go_wp2_with fail
  go_region_law (first
    | (go_simp; go_at_call 41; refine (KK _).out.mono ?_; rintro e w2 ⟨b, rfl, hwb, hR, hb2⟩; have HR := hid hR; have HWB : Hid (w.heap.size ≤ b) := (by first | exact Nat.le_trans J.out.size hwb | exact hwb); (first | replace J := hid (J.out.trans (hb2.mono J.out.size)) | replace J := hid (J.out.drew.trans (hb2.mono J.out.size))); clear hwb hR hb2; dsimp only)
    | (go_simp; go_at_call 45; refine (KV b _ (by first | exact HR.out | exact HR.out.drew)).out.mono ?_; rintro e w3 ⟨rfl, hb3⟩; (first | replace J := hid (J.out.trans (hb3.mono HWB.out)) | replace J := hid (J.out.drew.trans (hb3.mono HWB.out))); clear hb3; dsimp only))
  all_goals
    go_wp2_with fail
    refine (KD _).out.mono ?_
    rintro e w4 ⟨rfl, hb4⟩
    replace J := hid (J.out.trans (hb4.mono J.out.size))
    clear hb4
    by_cases q : R = s
    · have bq : (R.toList == s.toList) = true := by rw [BQ]; exact decide_eq_true q
      have E2 : Hid (opnD k s nonce = bsV 0 D) := by show _ = _; rw [E.out, if_pos q]
      clear BQ q E
      go_wp2
      go_ret2
      exact ⟨⟨D, true, rfl, E2.out⟩, J.out⟩
    · have bq : (R.toList == s.toList) = false := by rw [BQ]; exact decide_eq_false q
      have E2 : Hid (opnD k s nonce = bsV 12 ⟨#[]⟩) := by show _ = _; rw [E.out, if_neg q]
      clear BQ q E
      go_wp2
      go_ret2
      exact ⟨⟨D, false, rfl, E2.out⟩, J.out⟩
/-- what GetText reads, the empty text where nothing is read -/
def gtT (o : Option (ByteArray × Int)) : ByteArray := match o with | none => ⟨#[]⟩ | some (k, _) => k
theorem gt_form (o : Option (ByteArray × Int)) : ∃ g q, textV o = .agg #[.bool g, .string (gtT o), .int .i64 q] := by
  cases o with
  | none => exact ⟨false, 0, rfl⟩
  | some x => exact ⟨true, x.2, rfl⟩
theorem unw_of (m : ByteArray) (c : Int) (wr dt : ByteArray) (nonce : Int) (h : keyP m ∧ 0 ≤ nonce ∧ c = 0 ∧ wr.size ≤ 300 ∧ dt.size ≤ 100004) (T : ByteArray) (hT : T = gtT (getText (ofL (xrL wr.data.toList m nonce)) 0)) :
    unwO m c wr dt nonce = if pb (keyP T ∧ ofL (wpL m T nonce) = wr) = true then (0, T) else (12, ⟨#[]⟩) := by
  unfold unwO
  rw [if_pos h]
  cases hg : getText (ofL (xrL wr.data.toList m nonce)) 0 with
  | none =>
    rw [hg] at hT
    have e : T = ⟨#[]⟩ := hT
    subst e
    rw [pb_f fun q => absurd q.1.1 (by decide)]
    rfl
  | some x =>
    obtain ⟨k, q⟩ := x
    rw [hg] at hT
    have e : T = k := hT
    subst e
    simp only
    by_cases p : keyP T ∧ ofL (wpL m T nonce) = wr
    · rw [if_pos p, pb_t p]; rfl
    · rw [if_neg p, pb_f p]; rfl
set_option maxRecDepth 20000 in
set_option maxHeartbeats 2000000 in
theorem iUnwK (m wr : ByteArray) (nonce : Int) (hm : keyP m) (hw3 : wr.size ≤ 300) (h1 : nonce ≤ 9223372036854775807) (T : ByteArray) (hT : T = gtT (getText (ofL (xrL wr.data.toList m nonce)) 0)) (w : World) :
    Calls Try.prog 50 #[.string m, .string wr, .int .i64 nonce] w fun e w' => e = .returned (.tuple #[.string T, .bool (pb (keyP T ∧ ofL (wpL m T nonce) = wr))]) ∧ Below w.heap.size w w' := by
  have HX := sx0_bd m nonce
  have KK := fun wx => hid (iStart m nonce hm h1 wx)
  have KV := fun b wx r => hid (iVeil wr b (sx0 m nonce) HX.1 HX.2 (by omega) wx r)
  have eX : xl wr.data.toList (stB (sx0 m nonce) wr.size) = xrL wr.data.toList m nonce := by unfold xrL stmL; rw [baLen]
  rw [eX] at KV
  have XZ : (ofL (xrL wr.data.toList m nonce)).size ≤ 300 := by rw [ofL_size, xrL_len]; simp; exact hw3
  generalize ofL (xrL wr.data.toList m nonce) = XT at KV XZ hT
  have KG := fun wx => hid (igetText_all XT 0 (by omega) wx)
  obtain ⟨g, qn, hf⟩ := gt_form (getText XT 0)
  rw [hf, ← hT] at KG
  generalize sx0 m nonce = X at KK KV
  clear hT hf eX HX
  have K2 := fun wx => hid (iKey T wx)
  by_cases p6 : keyP T
  case neg =>
    have E : Hid (pb (keyP T ∧ ofL (wpL m T nonce) = wr) = false) := pb_f fun q => p6 q.1
    rw [pb_f p6] at K2
    clear p6 hm
    go_enter Try.func50, Try.ntmps50
    go_wp2_with fail
    refine (KK _).out.mono ?_
    rintro e w1 ⟨b, rfl, hwb, hR, hb1⟩
    have HR := hid hR
    have HWB := hid hwb
    have J := hid hb1
    clear hwb hR hb1
    go_wp2_with fail
    refine (KV b _ HR.out).out.mono ?_
    rintro e w2 ⟨rfl, hb2⟩
    replace J := hid (J.out.trans (hb2.mono HWB.out))
    clear hb2
    go_wp2_with fail
    refine (KG _).out.mono ?_
    rintro e w3 ⟨rfl, hb3⟩
    replace J := hid (J.out.trans (hb3.mono J.out.size))
    clear hb3
    go_wp2_with fail
    go_quiet ((go_at_call 28; exact Calls.quiet_of_same (K2 _).out))
    go_wp2
    go_ret2
    exact ⟨by rw [E.out]; rfl, below_drewN (J.out.alloc J.out.size _) _⟩
  rw [pb_t p6] at K2
  have KW := fun wx => hid (iWrap m T nonce hm p6 h1 wx)
  have BN := ba_beqS (ofL (wpL m T nonce)) wr
  have EB : Hid (∀ V : ByteArray, V = ofL (wpL m T nonce) → pb (keyP T ∧ ofL (wpL m T nonce) = wr) = (V.toList == wr.toList)) := fun V hV => by
    rw [hV, BN]
    by_cases q : ofL (wpL m T nonce) = wr
    · rw [pb_t ⟨p6, q⟩]; exact (decide_eq_true q).symm
    · rw [pb_f fun h => q h.2]; exact (decide_eq_false q).symm
  have E := hid (EB.out _ rfl)
  clear EB BN
  generalize hB : pb (keyP T ∧ ofL (wpL m T nonce) = wr) = B at E ⊢
  generalize ofL (wpL m T nonce) = V at KW E hB
  clear p6 hm hB
  obtain ⟨bq, hbq⟩ : ∃ b, b = (V.toList == wr.toList) := ⟨_, rfl⟩
  have E3 : Hid (B = bq) := by show _ = _; rw [E.out, hbq]
  clear E
  go_enter Try.func50, Try.ntmps50
  go_wp2_with fail
  refine (KK _).out.mono ?_
  rintro e w1 ⟨b, rfl, hwb, hR, hb1⟩
  have HR := hid hR
  have HWB := hid hwb
  have J := hid hb1
  clear hwb hR hb1
  go_wp2_with fail
  refine (KV b _ HR.out).out.mono ?_
  rintro e w2 ⟨rfl, hb2⟩
  replace J := hid (J.out.trans (hb2.mono HWB.out))
  clear hb2
  go_wp2_with fail
  refine (KG _).out.mono ?_
  rintro e w3 ⟨rfl, hb3⟩
  replace J := hid (J.out.trans (hb3.mono J.out.size))
  clear hb3
  obtain ⟨W2, hW2⟩ : ∃ W, W = w3.alloc (.cells #[.bool g, .string T, .int .i64 qn] 66) := ⟨_, rfl⟩
  obtain ⟨X2, hX2⟩ : ∃ X, X = w3.heap.size := ⟨_, rfl⟩
  have A : Hid (RowAt W2 X2 66 #[.bool g, .string T, .int .i64 qn]) := by rw [hW2, hX2]; exact RowAt.new _ _ _
  have J2 : Hid (Below w.heap.size w W2) := by rw [hW2]; exact J.out.alloc J.out.size _
  clear J
  go_upto_region 2 with fail
  rw [← hW2, ← hX2]
  clear hW2 hX2 HR HWB
  have a1 : W2.cell? ⟨X2, 1, none⟩ = some (.string T) := A.out.cell 1
  have HBQ := hid hbq
  clear hbq
  go_region_held3 (fun wx => wx.cell? ⟨X2, 1, none⟩ = some (.string T))
    (first | with_reducible exact a1 | exact A.out.cell 1)
    (first
      | (go_at_call 28; refine (K2 _).out.mono ?_; rintro e w4 ⟨rfl, hw⟩; obtain rfl := hw.symm)
      | (go_at_call 30; refine (KW _).out.mono ?_; rintro e w4 ⟨rfl, hb4⟩; (first | replace A := hid (A.out.below hb4 A.out.lt) | replace A := hid (A.out.drew.below hb4 A.out.lt)); (first | replace J2 := hid (J2.out.trans (hb4.mono J2.out.size)) | replace J2 := hid (J2.out.drew.trans (hb4.mono J2.out.size))); replace a1 := A.out.cell 1; clear hb4))
  rw [← HBQ.out]
  clear HBQ a1
  go_wp2
  go_ret2
  exact ⟨by rw [E3.out]; rfl, J2.out⟩
def sfP (c : Int) (wr dt : ByteArray) : Prop := c = 0 ∧ wr.size ≤ 300 ∧ dt.size ≤ 100004
set_option maxRecDepth 20000 in
set_option maxHeartbeats 2000000 in
theorem iSFits (c : Int) (wr dt : ByteArray) (w : World) :
    Calls Try.prog 49 #[.agg #[.int .i64 c, .string wr, .string dt]] w fun e w' => e = .returned (.bool (pb (sfP c wr dt))) ∧ Below w.heap.size w w' := by
  have J := Jn.box w 26 #[.int .i64 c, .string wr, .string dt]
  obtain ⟨W0, hW0⟩ : ∃ W, W = w.alloc (.cells #[.int .i64 c, .string wr, .string dt] 26) := ⟨_, rfl⟩
  rw [← hW0] at J
  have s0 : W0.cell? ⟨w.heap.size, 0, none⟩ = some (.int .i64 c) := J.out.1.cell 0
  have s1 : W0.cell? ⟨w.heap.size, 1, none⟩ = some (.string wr) := J.out.1.cell 1
  have s2 : W0.cell? ⟨w.heap.size, 2, none⟩ = some (.string dt) := J.out.1.cell 2
  by_cases h1 : c = 0
  case neg =>
    have E : Hid (pb (sfP c wr dt) = false) := pb_f fun q => h1 q.1
    have d1 : (c == 0) = false := by simp; exact h1
    clear h1
    go_enter Try.func49, Try.ntmps49
    go_wp2_with fail
    rw [← hW0]
    clear hW0
    go_wp2
    go_ret
    exact ⟨by rw [E.out]; rfl, J.out.2⟩
  have d1 : (c == 0) = true := by simp; exact h1
  by_cases h2 : wr.size ≤ 300
  case neg =>
    have E : Hid (pb (sfP c wr dt) = false) := pb_f fun q => h2 q.2.1
    have d2 : decide ((wr.size : Int) ≤ 300) = false := by simp; omega
    clear h1 h2
    go_enter Try.func49, Try.ntmps49
    go_wp2_with fail
    rw [← hW0]
    clear hW0
    go_wp2
    go_ret
    exact ⟨by rw [E.out]; rfl, J.out.2⟩
  have d2 : decide ((wr.size : Int) ≤ 300) = true := by simp; omega
  by_cases h3 : dt.size ≤ 100004
  case neg =>
    have E : Hid (pb (sfP c wr dt) = false) := pb_f fun q => h3 q.2.2
    have d3 : decide ((dt.size : Int) ≤ 100004) = false := by simp; omega
    clear h1 h2 h3
    go_enter Try.func49, Try.ntmps49
    go_wp2_with fail
    rw [← hW0]
    clear hW0
    go_wp2
    go_ret
    exact ⟨by rw [E.out]; rfl, J.out.2⟩
  have E : Hid (pb (sfP c wr dt) = true) := pb_t ⟨h1, h2, h3⟩
  have d3 : decide ((dt.size : Int) ≤ 100004) = true := by simp; omega
  clear h1 h2 h3
  go_enter Try.func49, Try.ntmps49
  go_wp2_with fail
  rw [← hW0]
  clear hW0
  go_wp2
  go_ret
  exact ⟨by rw [E.out]; rfl, J.out.2⟩
end Go.Proofs.Ytccokbfbkeknnaa
