import Derived.Test.YtccokbfbkeknnaaSSeal4
namespace Go.Proofs.Ytccokbfbkeknnaa
open Go.RowKit
/-! The specification's OpenSealed, Rewrap. -/
theorem unw_ok {m : ByteArray} {c : Int} {wr dt : ByteArray} {nonce : Int} (h : (unwO m c wr dt nonce).1 = 0) : keyP (unwO m c wr dt nonce).2 ∧ 0 ≤ nonce ∧ dt.size ≤ 100004 := by
  unfold unwO at h ⊢
  split at h
  · rename_i hp
    rw [if_pos hp]
    split at h
    · cases h
    · rename_i k qn hg
      split at h
      · rename_i hq
        simp only [if_pos hq]
        exact ⟨hq.1, hp.2.1, hp.2.2.2.2⟩
      · cases h
  · cases h
theorem ext_lo (s : ByteArray) (n : Nat) : (s.extract 0 n).data.toList = s.data.toList.take n := by rw [ByteArray.data_extract]; simp
theorem ext_hi (s : ByteArray) (n : Nat) : (s.extract n s.size).data.toList = s.data.toList.drop n := by
  rw [ByteArray.data_extract]
  simp
  rw [List.take_of_length_le]
  simp
set_option maxRecDepth 20000 in
set_option maxHeartbeats 2000000 in
theorem sOpn (m : ByteArray) (c : Int) (wr dt : ByteArray) (nonce : Int) (h1 : nonce ≤ 9223372036854775807) (w : World) :
    Calls Try.prog 19 #[.string m, .agg #[.int .i64 c, .string wr, .string dt], .int .i64 nonce] w fun e w' => e = .returned (opnO m c wr dt nonce) ∧ Below w.heap.size w w' := by
  have J := Jn.box w 26 #[.int .i64 c, .string wr, .string dt]
  obtain ⟨W0, hW0⟩ : ∃ W, W = (w.alloc (.cells #[.int .i64 c, .string wr, .string dt] 26)).alloc (.cells #[.int .i64 0, .string ⟨#[]⟩] 29) := ⟨_, rfl⟩
  have J0 : Hid (Jn w W0 w.heap.size 26 #[.int .i64 c, .string wr, .string dt]) := by rw [hW0]; exact ⟨J.out.1.alloc _, J.out.2.alloc J.out.2.size _⟩
  obtain ⟨X, hX⟩ : ∃ X, X = w.heap.size + 1 := ⟨_, rfl⟩
  have A0 : Hid (RowAt W0 X 29 #[.int .i64 0, .string ⟨#[]⟩]) := by
    have := RowAt.new (w.alloc (.cells #[.int .i64 c, .string wr, .string dt] 26)) 29 #[.int .i64 0, .string ⟨#[]⟩]
    rw [World.size_alloc] at this
    rw [hW0, hX]
    exact this
  have hXw : w.heap.size ≤ X := by omega
  have s0 : W0.cell? ⟨w.heap.size, 0, none⟩ = some (.int .i64 c) := J0.out.1.cell 0
  have s1 : W0.cell? ⟨w.heap.size, 1, none⟩ = some (.string wr) := J0.out.1.cell 1
  have s2 : W0.cell? ⟨w.heap.size, 2, none⟩ = some (.string dt) := J0.out.1.cell 2
  have KU := fun wx => hid (sUnw m c wr dt nonce h1 wx)
  have OK := hid (@unw_ok m c wr dt nonce)
  have EO : Hid (opnO m c wr dt nonce = if (unwO m c wr dt nonce).1 = 0 then opnD (unwO m c wr dt nonce).2 dt nonce else bsV (unwO m c wr dt nonce).1 ⟨#[]⟩) := rfl
  generalize unwO m c wr dt nonce = U at KU OK EO
  obtain ⟨uc, k⟩ := U
  dsimp only at KU OK EO
  clear J
  by_cases hc : uc = 0
  case neg =>
    have E : Hid (opnO m c wr dt nonce = bsV uc ⟨#[]⟩) := by show _ = _; rw [EO.out, if_neg hc]
    have d : (uc != 0) = true := by simp; exact hc
    clear hc EO OK
    go_enter Try.func19, Try.ntmps19
    go_wp2_with fail
    rw [← hW0, ← hX]
    clear hW0 hX
    refine (KU _).out.mono ?_
    rintro e w1 ⟨rfl, hb1⟩
    replace J0 := Jn.next hb1 J0
    replace A0 := hid (A0.out.below hb1 A0.out.lt)
    have q0 : w1.cell? ⟨X, 0, none⟩ = some (.int .i64 0) := A0.out.cell 0
    have q1 : w1.cell? ⟨X, 1, none⟩ = some (.string ⟨#[]⟩) := A0.out.cell 1
    have f0 := A0.out.free 0
    have f1 := A0.out.free 1
    clear hb1 s0 s1 s2
    go_wp2
    refine bodyPost_ret (v := bsV uc ⟨#[]⟩) (by simp [results, Try.results19, go_sem, q0, q1, bsV]) rfl ⟨by rw [E.out], ?_⟩
    exact (J0.out.2.setCell hXw _).setCell hXw _
  have HE : Hid (opnO m c wr dt nonce = opnD k dt nonce) := by show _ = _; rw [EO.out, if_pos hc]
  have d : (uc != 0) = false := by simp; exact hc
  obtain ⟨kp, hn, hdt⟩ := OK.out hc
  have k2 := kp.2
  have KX := fun wx => hid (sXor dt k nonce kp hn h1 (by omega) wx)
  have TL : Hid ((ofL (xrL dt.data.toList k nonce)).data.toList = xrL dt.data.toList k nonce) := ofL_l _
  have TZ : (ofL (xrL dt.data.toList k nonce)).size ≤ 100004 := by rw [ofL_size, xrL_len]; simp; exact hdt
  have ED : Hid (∀ T : ByteArray, T.data.toList = xrL dt.data.toList k nonce → opnD k dt nonce = if 4 ≤ T.size ∧ four (sumOf (k ++ T.extract 0 (T.size - 4)) 6) = T.extract (T.size - 4) T.size then bsV 0 (T.extract 0 (T.size - 4)) else bsV 12 ⟨#[]⟩) := fun T hT => by
    have e0 : T.data.toList.length = T.size := by simp
    have e1 : T.extract 0 (T.size - 4) = ofL (T.data.toList.take (T.size - 4)) := ofL_of (ext_lo _ _)
    unfold opnD
    simp only
    rw [← hT, e0, ← e1]
    have e2 : (four (sumOf (k ++ T.extract 0 (T.size - 4)) 6)).data.toList = T.data.toList.drop (T.size - 4) ↔ four (sumOf (k ++ T.extract 0 (T.size - 4)) 6) = T.extract (T.size - 4) T.size := by
      rw [← ext_hi]
      exact ⟨fun h => ba_extL h, fun h => by rw [h]⟩
    by_cases q : 4 ≤ T.size ∧ four (sumOf (k ++ T.extract 0 (T.size - 4)) 6) = T.extract (T.size - 4) T.size
    · rw [if_pos q, if_pos ⟨q.1, e2.2 q.2⟩]
    · rw [if_neg q, if_neg fun h => q ⟨h.1, e2.1 h.2⟩]
  generalize ofL (xrL dt.data.toList k nonce) = T at KX TL TZ
  have ET := hid (ED.out T TL.out)
  clear ED TL hc EO OK kp
  by_cases h4 : 4 ≤ T.size
  case neg =>
    have E : Hid (opnO m c wr dt nonce = bsV 12 ⟨#[]⟩) := by show _ = _; rw [HE.out, ET.out, if_neg fun q => h4 q.1]
    have d4 : (T.size : Int) < 4 := by omega
    clear HE ET h4
    go_enter Try.func19, Try.ntmps19
    go_wp2_with fail
    rw [← hW0, ← hX]
    clear hW0 hX
    refine (KU _).out.mono ?_
    rintro e w1 ⟨rfl, hb1⟩
    replace J0 := Jn.next hb1 J0
    replace A0 := hid (A0.out.below hb1 A0.out.lt)
    have s2 : w1.cell? ⟨w.heap.size, 2, none⟩ = some (.string dt) := J0.out.1.cell 2
    clear hb1 s0 s1
    go_wp2_with fail
    refine (KX _).out.mono ?_
    rintro e w2 ⟨rfl, hb2⟩
    replace J0 := Jn.next hb2 J0
    replace A0 := hid (A0.out.below hb2 A0.out.lt)
    clear hb2 s2
    have q0 : w2.cell? ⟨X, 0, none⟩ = some (.int .i64 0) := A0.out.cell 0
    have q1 : w2.cell? ⟨X, 1, none⟩ = some (.string ⟨#[]⟩) := A0.out.cell 1
    have f0 := A0.out.free 0
    have f1 := A0.out.free 1
    go_wp2_with fail
    go_quiet (fail)
    go_wp2
    refine bodyPost_ret (v := bsV 12 ⟨#[]⟩) (by simp [results, Try.results19, go_sem, q0, q1, bsV]) rfl ⟨by rw [E.out], ?_⟩
    exact ((below_drewN J0.out.2 nq).setCell hXw _).setCell hXw _
  obtain ⟨n, hn4⟩ : ∃ n, T.size = n + 4 := ⟨T.size - 4, by omega⟩
  have en : T.size - 4 = n := by omega
  rw [en] at ET
  have i4 : decide ((T.size : Int) < 4) = false := by simp; omega
  have i5 : (T.size : Int) - 4 = (n : Int) := by omega
  have i6 : IntKind.i64.wrap (n : Int) = (n : Int) := by rw [IntKind.wrap_i64]; omega
  have i7 : (0 : Int) ≤ (n : Int) := by omega
  have i8 : (n : Int) ≤ (T.size : Int) := by omega
  have PZ : (T.extract 0 n).size = n := by rw [ByteArray.size_extract]; omega
  have KS := fun wx => hid (ssum_all (k ++ T.extract 0 n) 6 (by decide) (by rw [sizeApp]; omega) wx)
  have SB := sum_bd (k ++ T.extract 0 n) 6
  have KF := fun wx => hid (sFour (sumOf (k ++ T.extract 0 n) 6) SB.1 SB.2 wx)
  have z0 : ¬ 9223372036854775807 < k.size + (T.extract 0 n).size := by omega
  have z1 : ¬ 9223372036854775807 < k.size + min n T.size := by omega
  have z2 : ¬ 9223372036854775807 < k.size + n := by omega
  have BQ := ba_beqS (four (sumOf (k ++ T.extract 0 n) 6)) (T.extract n T.size)
  have h4' := hid h4
  generalize hsm : sumOf (k ++ T.extract 0 n) 6 = sm at KS KF ET SB BQ
  generalize four sm = F at KF ET BQ
  clear hsm SB en hn4 h4 PZ
  have EQ : Hid (opnO m c wr dt nonce = if F = T.extract n T.size then bsV 0 (T.extract 0 n) else bsV 12 ⟨#[]⟩) := by
    show _ = _
    rw [HE.out, ET.out]
    by_cases q : F = T.extract n T.size
    · rw [if_pos ⟨h4'.out, q⟩, if_pos q]
    · rw [if_neg fun h => q h.2, if_neg q]
  clear HE ET h4'
  by_cases q : F = T.extract n T.size
  · have E : Hid (opnO m c wr dt nonce = bsV 0 (T.extract 0 n)) := by show _ = _; rw [EQ.out, if_pos q]
    have bq : (F.toList == (T.extract n T.size).toList) = true := by rw [BQ]; exact decide_eq_true q
    clear EQ BQ q
    go_enter Try.func19, Try.ntmps19
    go_wp2_with fail
    rw [← hW0, ← hX]
    clear hW0 hX
    refine (KU _).out.mono ?_
    rintro e w1 ⟨rfl, hb1⟩
    replace J0 := Jn.next hb1 J0
    replace A0 := hid (A0.out.below hb1 A0.out.lt)
    have s2 : w1.cell? ⟨w.heap.size, 2, none⟩ = some (.string dt) := J0.out.1.cell 2
    clear hb1 s0 s1
    go_wp2_with fail
    refine (KX _).out.mono ?_
    rintro e w2 ⟨rfl, hb2⟩
    replace J0 := Jn.next hb2 J0
    replace A0 := hid (A0.out.below hb2 A0.out.lt)
    clear hb2 s2
    go_upto_region 5 with fail
    go_region_held3 (fun _ => True) (trivial)
      (first
        | (go_at_call 36; refine (KS _).out.mono ?_; rintro e w3 ⟨rfl, hw⟩; obtain rfl := hw.symm)
        | (go_at_call 35; refine (KF _).out.mono ?_; rintro e w3 ⟨rfl, hb3⟩; (first | replace J0 := Jn.next hb3 J0 | replace J0 := Jn.next hb3 (Jn.drew J0)); (first | replace A0 := hid (A0.out.below hb3 A0.out.lt) | replace A0 := hid (A0.out.drew.below hb3 A0.out.lt)); clear hb3))
    have q0 : w3.cell? ⟨X, 0, none⟩ = some (.int .i64 0) := A0.out.cell 0
    have q1 : w3.cell? ⟨X, 1, none⟩ = some (.string ⟨#[]⟩) := A0.out.cell 1
    have f0 := A0.out.free 0
    have f1 := A0.out.free 1
    try (rw [bq]; simp only [Bool.not_false, Bool.not_true])
    go_wp2
    refine bodyPost_ret (v := bsV 0 (T.extract 0 n)) (by simp [results, Try.results19, go_sem, q0, q1, bsV]) rfl ⟨by rw [E.out], ?_⟩
    exact (J0.out.2.setCell hXw _).setCell hXw _
  · have E : Hid (opnO m c wr dt nonce = bsV 12 ⟨#[]⟩) := by show _ = _; rw [EQ.out, if_neg q]
    have bq : (F.toList == (T.extract n T.size).toList) = false := by rw [BQ]; exact decide_eq_false q
    clear EQ BQ q
    go_enter Try.func19, Try.ntmps19
    go_wp2_with fail
    rw [← hW0, ← hX]
    clear hW0 hX
    refine (KU _).out.mono ?_
    rintro e w1 ⟨rfl, hb1⟩
    replace J0 := Jn.next hb1 J0
    replace A0 := hid (A0.out.below hb1 A0.out.lt)
    have s2 : w1.cell? ⟨w.heap.size, 2, none⟩ = some (.string dt) := J0.out.1.cell 2
    clear hb1 s0 s1
    go_wp2_with fail
    refine (KX _).out.mono ?_
    rintro e w2 ⟨rfl, hb2⟩
    replace J0 := Jn.next hb2 J0
    replace A0 := hid (A0.out.below hb2 A0.out.lt)
    clear hb2 s2
    go_upto_region 5 with fail
    go_region_held3 (fun _ => True) (trivial)
      (first
        | (go_at_call 36; refine (KS _).out.mono ?_; rintro e w3 ⟨rfl, hw⟩; obtain rfl := hw.symm)
        | (go_at_call 35; refine (KF _).out.mono ?_; rintro e w3 ⟨rfl, hb3⟩; (first | replace J0 := Jn.next hb3 J0 | replace J0 := Jn.next hb3 (Jn.drew J0)); (first | replace A0 := hid (A0.out.below hb3 A0.out.lt) | replace A0 := hid (A0.out.drew.below hb3 A0.out.lt)); clear hb3))
    have q0 : w3.cell? ⟨X, 0, none⟩ = some (.int .i64 0) := A0.out.cell 0
    have q1 : w3.cell? ⟨X, 1, none⟩ = some (.string ⟨#[]⟩) := A0.out.cell 1
    have f0 := A0.out.free 0
    have f1 := A0.out.free 1
    try (rw [bq]; simp only [Bool.not_false, Bool.not_true])
    go_wp2
    refine bodyPost_ret (v := bsV 12 ⟨#[]⟩) (by simp [results, Try.results19, go_sem, q0, q1, bsV]) rfl ⟨by rw [E.out], ?_⟩
    exact (J0.out.2.setCell hXw _).setCell hXw _
end Go.Proofs.Ytccokbfbkeknnaa
