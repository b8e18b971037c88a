import Derived.Test.YtccokbfbkeknnaaISeal5
namespace Go.Proofs.Ytccokbfbkeknnaa
open Go.RowKit
/-! The program's SealObject, OpenSealed, Rewrap. -/
theorem iLong (s : ByteArray) (w : World) : Calls Try.prog 29 #[.string s] w fun e w' => e = .returned (.bool (decide ((100000 : Int) < (s.size : Int)))) ∧ w' = w := by
  go_enter Try.func29, Try.ntmps29
  go_wp2
  go_ret
  exact ⟨rfl, rfl⟩
set_option maxRecDepth 20000 in
set_option maxHeartbeats 2000000 in
theorem iSeal (m dk : ByteArray) (nonce : Int) (data : ByteArray) (h1 : nonce ≤ 9223372036854775807) (hd : data.size ≤ 1048576) (w : World) :
    Calls Try.prog 9 #[.string m, .string dk, .int .i64 nonce, .string data] w fun e w' => e = .returned (sealO m dk nonce data) ∧ Below w.heap.size w w' := by
  have J := Jn.box w 26 #[.int .i64 0, .string ⟨#[]⟩, .string ⟨#[]⟩]
  obtain ⟨W0, hW0⟩ : ∃ W, W = w.alloc (.cells #[.int .i64 0, .string ⟨#[]⟩, .string ⟨#[]⟩] 26) := ⟨_, rfl⟩
  rw [← hW0] at J
  have K1 := fun wx => hid (iKey m wx)
  have K2 := fun wx => hid (iKey dk wx)
  have KL := fun wx => hid (iLong data wx)
  have q0 : W0.cell? ⟨w.heap.size, 0, none⟩ = some (.int .i64 0) := J.out.1.cell 0
  have q1 : W0.cell? ⟨w.heap.size, 1, none⟩ = some (.string ⟨#[]⟩) := J.out.1.cell 1
  have q2 : W0.cell? ⟨w.heap.size, 2, none⟩ = some (.string ⟨#[]⟩) := J.out.1.cell 2
  have f0 := J.out.1.free 0
  have f1 := J.out.1.free 1
  have f2 := J.out.1.free 2
  by_cases p1 : keyP m
  case neg =>
    have E : Hid (sealO m dk nonce data = slV 1 ⟨#[]⟩ ⟨#[]⟩) := if_neg fun q => p1 q.1
    rw [pb_f p1] at K1
    clear p1
    go_enter Try.func9, Try.ntmps9
    go_wp2_with fail
    rw [← hW0]
    clear hW0
    refine (K1 _).out.mono ?_
    rintro e w1 ⟨rfl, hw⟩
    obtain rfl := hw.symm
    go_wp2
    refine bodyPost_ret (v := slV 1 ⟨#[]⟩ ⟨#[]⟩) (by simp [results, Try.results9, go_sem, q0, q1, q2, slV]) rfl ⟨by rw [E.out], ?_⟩
    exact ((J.out.2.setCell (Nat.le_refl _) _).setCell (Nat.le_refl _) _).setCell (Nat.le_refl _) _
  rw [pb_t p1] at K1
  by_cases p2 : keyP dk
  case neg =>
    have E : Hid (sealO m dk nonce data = slV 1 ⟨#[]⟩ ⟨#[]⟩) := if_neg fun q => p2 q.2.1
    rw [pb_f p2] at K2
    clear p1 p2
    go_enter Try.func9, Try.ntmps9
    go_wp2_with fail
    rw [← hW0]
    clear hW0
    refine (K1 _).out.mono ?_
    rintro e w1 ⟨rfl, hw⟩
    obtain rfl := hw.symm
    go_wp2_with fail
    refine (K2 _).out.mono ?_
    rintro e w1 ⟨rfl, hw⟩
    obtain rfl := hw.symm
    go_wp2
    refine bodyPost_ret (v := slV 1 ⟨#[]⟩ ⟨#[]⟩) (by simp [results, Try.results9, go_sem, q0, q1, q2, slV]) rfl ⟨by rw [E.out], ?_⟩
    exact ((J.out.2.setCell (Nat.le_refl _) _).setCell (Nat.le_refl _) _).setCell (Nat.le_refl _) _
  rw [pb_t p2] at K2
  by_cases p3 : 0 ≤ nonce
  case neg =>
    have E : Hid (sealO m dk nonce data = slV 1 ⟨#[]⟩ ⟨#[]⟩) := if_neg fun q => p3 q.2.2
    have d3 : decide (nonce < 0) = true := by simp; omega
    clear p1 p2 p3
    go_enter Try.func9, Try.ntmps9
    go_wp2_with fail
    rw [← hW0]
    clear hW0
    refine (K1 _).out.mono ?_
    rintro e w1 ⟨rfl, hw⟩
    obtain rfl := hw.symm
    go_wp2_with fail
    refine (K2 _).out.mono ?_
    rintro e w1 ⟨rfl, hw⟩
    obtain rfl := hw.symm
    go_wp2
    refine bodyPost_ret (v := slV 1 ⟨#[]⟩ ⟨#[]⟩) (by simp [results, Try.results9, go_sem, q0, q1, q2, slV]) rfl ⟨by rw [E.out], ?_⟩
    exact ((J.out.2.setCell (Nat.le_refl _) _).setCell (Nat.le_refl _) _).setCell (Nat.le_refl _) _
  have d3 : decide (nonce < 0) = false := by simp; omega
  by_cases p4 : data.size ≤ 100000
  case neg =>
    have E : Hid (sealO m dk nonce data = slV 2 ⟨#[]⟩ ⟨#[]⟩) := by show _ = _; unfold sealO; rw [if_pos ⟨p1, p2, p3⟩, if_neg p4]
    have d4 : decide ((100000 : Int) < (data.size : Int)) = true := by simp; omega
    rw [d4] at KL
    clear p1 p2 p3 p4 d4
    go_enter Try.func9, Try.ntmps9
    go_wp2_with fail
    rw [← hW0]
    clear hW0
    refine (K1 _).out.mono ?_
    rintro e w1 ⟨rfl, hw⟩
    obtain rfl := hw.symm
    go_wp2_with fail
    refine (K2 _).out.mono ?_
    rintro e w1 ⟨rfl, hw⟩
    obtain rfl := hw.symm
    go_wp2_with fail
    refine (KL _).out.mono ?_
    rintro e w1 ⟨rfl, hw⟩
    obtain rfl := hw.symm
    go_wp2
    refine bodyPost_ret (v := slV 2 ⟨#[]⟩ ⟨#[]⟩) (by simp [results, Try.results9, go_sem, q0, q1, q2, slV]) rfl ⟨by rw [E.out], ?_⟩
    exact ((J.out.2.setCell (Nat.le_refl _) _).setCell (Nat.le_refl _) _).setCell (Nat.le_refl _) _
  have d4 : decide ((100000 : Int) < (data.size : Int)) = false := by simp; omega
  rw [d4] at KL
  have E : Hid (sealO m dk nonce data = slV 0 (ofL (wpL m dk nonce)) (ofL (dtL dk nonce data))) := by show _ = _; unfold sealO; rw [if_pos ⟨p1, p2, p3⟩, if_pos p4]
  have KW := fun wx => hid (iWrap m dk nonce p1 p2 h1 wx)
  have KD := fun wx => hid (iSData dk data nonce p2 p4 h1 wx)
  generalize ofL (dtL dk nonce data) = R at KD E
  generalize ofL (wpL m dk nonce) = V at KW E
  clear p1 p2 p3 p4 d4
  go_enter Try.func9, Try.ntmps9
  go_wp2_with fail
  rw [← hW0]
  clear hW0
  refine (K1 _).out.mono ?_
  rintro e w1 ⟨rfl, hw⟩
  obtain rfl := hw.symm
  go_wp2_with fail
  refine (K2 _).out.mono ?_
  rintro e w1 ⟨rfl, hw⟩
  obtain rfl := hw.symm
  go_wp2_with fail
  refine (KL _).out.mono ?_
  rintro e w1 ⟨rfl, hw⟩
  obtain rfl := hw.symm
  go_wp2_with fail
  refine (KW _).out.mono ?_
  rintro e w1 ⟨rfl, hb1⟩
  replace J := Jn.next hb1 J
  clear hb1 q0 q1 q2 f0 f1 f2
  go_wp2_with fail
  refine (KD _).out.mono ?_
  rintro e w2 ⟨rfl, hb2⟩
  replace J := Jn.next hb2 J
  clear hb2
  have q0 : w2.cell? ⟨w.heap.size, 0, none⟩ = some (.int .i64 0) := J.out.1.cell 0
  have q1 : w2.cell? ⟨w.heap.size, 1, none⟩ = some (.string ⟨#[]⟩) := J.out.1.cell 1
  have q2 : w2.cell? ⟨w.heap.size, 2, none⟩ = some (.string ⟨#[]⟩) := J.out.1.cell 2
  have f0 := J.out.1.free 0
  have f1 := J.out.1.free 1
  have f2 := J.out.1.free 2
  go_wp2
  refine bodyPost_ret (v := slV 0 V R) (by simp [results, Try.results9, go_sem, q0, q1, q2, slV]) rfl ⟨by rw [E.out], ?_⟩
  exact ((J.out.2.setCell (Nat.le_refl _) _).setCell (Nat.le_refl _) _).setCell (Nat.le_refl _) _
set_option maxRecDepth 20000 in
set_option maxHeartbeats 2000000 in
theorem iOpn (m : ByteArray) (c : Int) (wr dt : ByteArray) (nonce : Int) (h1 : nonce ≤ 9223372036854775807) (w : World) :
    Calls Try.prog 11 #[.string m, .agg #[.int .i64 c, .string wr, .string dt], .int .i64 nonce] w fun e w' => e = .returned (opnO m c wr dt nonce) ∧ Below w.heap.size w w' := by
  have J := Jn.box w 26 #[.int .i64 c, .string wr, .string dt]
  obtain ⟨W0, hW0⟩ : ∃ W, W = (w.alloc (.cells #[.int .i64 c, .string wr, .string dt] 26)).alloc (.cells #[.int .i64 0, .string ⟨#[]⟩] 29) := ⟨_, rfl⟩
  have J0 : Hid (Jn w W0 w.heap.size 26 #[.int .i64 c, .string wr, .string dt]) := by rw [hW0]; exact ⟨J.out.1.alloc _, J.out.2.alloc J.out.2.size _⟩
  obtain ⟨X, hX⟩ : ∃ X, X = w.heap.size + 1 := ⟨_, rfl⟩
  have A0 : Hid (RowAt W0 X 29 #[.int .i64 0, .string ⟨#[]⟩]) := by
    have := RowAt.new (w.alloc (.cells #[.int .i64 c, .string wr, .string dt] 26)) 29 #[.int .i64 0, .string ⟨#[]⟩]
    rw [World.size_alloc] at this
    rw [hW0, hX]
    exact this
  have hXw : w.heap.size ≤ X := by omega
  have s0 : W0.cell? ⟨w.heap.size, 0, none⟩ = some (.int .i64 c) := J0.out.1.cell 0
  have s1 : W0.cell? ⟨w.heap.size, 1, none⟩ = some (.string wr) := J0.out.1.cell 1
  have s2 : W0.cell? ⟨w.heap.size, 2, none⟩ = some (.string dt) := J0.out.1.cell 2
  have KU := fun wx => hid (iDKey m c wr dt nonce h1 wx)
  have OK := hid (@unw_ok m c wr dt nonce)
  have EO : Hid (opnO m c wr dt nonce = if (unwO m c wr dt nonce).1 = 0 then opnD (unwO m c wr dt nonce).2 dt nonce else bsV (unwO m c wr dt nonce).1 ⟨#[]⟩) := rfl
  generalize unwO m c wr dt nonce = U at KU OK EO
  obtain ⟨uc, k⟩ := U
  dsimp only at KU OK EO
  clear J
  by_cases hc : uc = 0
  case neg =>
    have E : Hid (opnO m c wr dt nonce = bsV uc ⟨#[]⟩) := by show _ = _; rw [EO.out, if_neg hc]
    have d : (uc != 0) = true := by simp; exact hc
    clear hc EO OK
    go_enter Try.func11, Try.ntmps11
    go_wp2_with fail
    rw [← hW0, ← hX]
    clear hW0 hX
    refine (KU _).out.mono ?_
    rintro e w1 ⟨rfl, hb1⟩
    replace J0 := Jn.next hb1 J0
    replace A0 := hid (A0.out.below hb1 A0.out.lt)
    clear hb1 s0 s1 s2
    have q0 : w1.cell? ⟨X, 0, none⟩ = some (.int .i64 0) := A0.out.cell 0
    have q1 : w1.cell? ⟨X, 1, none⟩ = some (.string ⟨#[]⟩) := A0.out.cell 1
    have f0 := A0.out.free 0
    have f1 := A0.out.free 1
    go_wp2
    refine bodyPost_ret (v := bsV uc ⟨#[]⟩) (by simp [results, Try.results11, go_sem, q0, q1, bsV]) rfl ⟨by rw [E.out], ?_⟩
    exact (J0.out.2.setCell hXw _).setCell hXw _
  have HE : Hid (opnO m c wr dt nonce = opnD k dt nonce) := by show _ = _; rw [EO.out, if_pos hc]
  have d : (uc != 0) = false := by simp; exact hc
  obtain ⟨kp, hn, hdt⟩ := OK.out hc
  have KO := fun wx => hid (iOpenD k dt nonce kp hdt h1 wx)
  generalize opnD k dt nonce = RV at HE KO
  clear hc EO OK kp hn hdt
  go_enter Try.func11, Try.ntmps11
  go_wp2_with fail
  rw [← hW0, ← hX]
  clear hW0 hX
  refine (KU _).out.mono ?_
  rintro e w1 ⟨rfl, hb1⟩
  replace J0 := Jn.next hb1 J0
  replace A0 := hid (A0.out.below hb1 A0.out.lt)
  clear hb1 s0 s1 s2
  have s2 : w1.cell? ⟨w.heap.size, 2, none⟩ = some (.string dt) := J0.out.1.cell 2
  go_wp2_with fail
  refine (KO _).out.mono ?_
  rintro e w2 ⟨⟨D, ok, rfl, hE⟩, hb2⟩
  replace J0 := Jn.next hb2 J0
  replace A0 := hid (A0.out.below hb2 A0.out.lt)
  clear hb2 s2
  have q0 : w2.cell? ⟨X, 0, none⟩ = some (.int .i64 0) := A0.out.cell 0
  have q1 : w2.cell? ⟨X, 1, none⟩ = some (.string ⟨#[]⟩) := A0.out.cell 1
  have f0 := A0.out.free 0
  have f1 := A0.out.free 1
  cases ok with
  | true =>
    have E : Hid (opnO m c wr dt nonce = bsV 0 D) := by show _ = _; rw [HE.out, hE]; rfl
    clear HE hE
    go_wp2
    refine bodyPost_ret (v := bsV 0 D) (by simp [results, Try.results11, go_sem, q0, q1, bsV]) rfl ⟨by rw [E.out], ?_⟩
    exact (J0.out.2.setCell hXw _).setCell hXw _
  | false =>
    have E : Hid (opnO m c wr dt nonce = bsV 12 ⟨#[]⟩) := by show _ = _; rw [HE.out, hE]; rfl
    clear HE hE
    go_wp2
    refine bodyPost_ret (v := bsV 12 ⟨#[]⟩) (by simp [results, Try.results11, go_sem, q0, q1, bsV]) rfl ⟨by rw [E.out], ?_⟩
    exact (J0.out.2.setCell hXw _).setCell hXw _
set_option maxRecDepth 20000 in
set_option maxHeartbeats 2000000 in
theorem iRew (old now : ByteArray) (c : Int) (wr dt : ByteArray) (nonce : Int) (h1 : nonce ≤ 9223372036854775807) (hdt0 : dt.size ≤ 1048576) (w : World) :
    Calls Try.prog 14 #[.string old, .string now, .agg #[.int .i64 c, .string wr, .string dt], .int .i64 nonce] w fun e w' => e = .returned (rewO old now c wr dt nonce) ∧ Below w.heap.size w w' := by
  have J := Jn.box w 26 #[.int .i64 c, .string wr, .string dt]
  obtain ⟨W0, hW0⟩ : ∃ W, W = (w.alloc (.cells #[.int .i64 c, .string wr, .string dt] 26)).alloc (.cells #[.int .i64 0, .string ⟨#[]⟩, .string ⟨#[]⟩] 26) := ⟨_, rfl⟩
  have J0 : Hid (Jn w W0 w.heap.size 26 #[.int .i64 c, .string wr, .string dt]) := by rw [hW0]; exact ⟨J.out.1.alloc _, J.out.2.alloc J.out.2.size _⟩
  obtain ⟨X, hX⟩ : ∃ X, X = w.heap.size + 1 := ⟨_, rfl⟩
  have A0 : Hid (RowAt W0 X 26 #[.int .i64 0, .string ⟨#[]⟩, .string ⟨#[]⟩]) := by
    have := RowAt.new (w.alloc (.cells #[.int .i64 c, .string wr, .string dt] 26)) 26 #[.int .i64 0, .string ⟨#[]⟩, .string ⟨#[]⟩]
    rw [World.size_alloc] at this
    rw [hW0, hX]
    exact this
  have hXw : w.heap.size ≤ X := by omega
  have s0 : W0.cell? ⟨w.heap.size, 0, none⟩ = some (.int .i64 c) := J0.out.1.cell 0
  have s1 : W0.cell? ⟨w.heap.size, 1, none⟩ = some (.string wr) := J0.out.1.cell 1
  have s2 : W0.cell? ⟨w.heap.size, 2, none⟩ = some (.string dt) := J0.out.1.cell 2
  have KU := fun wx => hid (iDKey old c wr dt nonce h1 wx)
  have KN := fun wx => hid (iKey now wx)
  have KC := fun wx => hid (clone_any dt wx (by omega))
  have OK := hid (@unw_ok old c wr dt nonce)
  have EO : Hid (rewO old now c wr dt nonce = if keyP now then if (unwO old c wr dt nonce).1 = 0 then slV 0 (ofL (wpL now (unwO old c wr dt nonce).2 nonce)) dt else slV (unwO old c wr dt nonce).1 ⟨#[]⟩ ⟨#[]⟩ else slV 1 ⟨#[]⟩ ⟨#[]⟩) := rfl
  generalize unwO old c wr dt nonce = U at KU OK EO
  obtain ⟨uc, k⟩ := U
  dsimp only at KU OK EO
  clear J
  by_cases hnow : keyP now
  case neg =>
    have E : Hid (rewO old now c wr dt nonce = slV 1 ⟨#[]⟩ ⟨#[]⟩) := by show _ = _; rw [EO.out, if_neg hnow]
    rw [pb_f hnow] at KN
    clear EO OK hnow
    go_enter Try.func14, Try.ntmps14
    go_wp2_with fail
    rw [← hW0, ← hX]
    clear hW0 hX
    have q0 : W0.cell? ⟨X, 0, none⟩ = some (.int .i64 0) := A0.out.cell 0
    have q1 : W0.cell? ⟨X, 1, none⟩ = some (.string ⟨#[]⟩) := A0.out.cell 1
    have q2 : W0.cell? ⟨X, 2, none⟩ = some (.string ⟨#[]⟩) := A0.out.cell 2
    have f0 := A0.out.free 0
    have f1 := A0.out.free 1
    have f2 := A0.out.free 2
    refine (KN _).out.mono ?_
    rintro e w1 ⟨rfl, hw⟩
    obtain rfl := hw.symm
    go_wp2
    refine bodyPost_ret (v := slV 1 ⟨#[]⟩ ⟨#[]⟩) (by simp [results, Try.results14, go_sem, q0, q1, q2, slV]) rfl ⟨by rw [E.out], ?_⟩
    exact ((J0.out.2.setCell hXw _).setCell hXw _).setCell hXw _
  rw [pb_t hnow] at KN
  by_cases hc : uc = 0
  case neg =>
    have E : Hid (rewO old now c wr dt nonce = slV uc ⟨#[]⟩ ⟨#[]⟩) := by show _ = _; rw [EO.out, if_pos hnow, if_neg hc]
    have d : (uc != 0) = true := by simp; exact hc
    clear EO OK hnow hc
    go_enter Try.func14, Try.ntmps14
    go_wp2_with fail
    rw [← hW0, ← hX]
    clear hW0 hX
    refine (KN _).out.mono ?_
    rintro e w1 ⟨rfl, hw⟩
    obtain rfl := hw.symm
    go_wp2_with fail
    refine (KU _).out.mono ?_
    rintro e w1 ⟨rfl, hb1⟩
    replace J0 := Jn.next hb1 J0
    replace A0 := hid (A0.out.below hb1 A0.out.lt)
    clear hb1 s0 s1 s2
    have q0 : w1.cell? ⟨X, 0, none⟩ = some (.int .i64 0) := A0.out.cell 0
    have q1 : w1.cell? ⟨X, 1, none⟩ = some (.string ⟨#[]⟩) := A0.out.cell 1
    have q2 : w1.cell? ⟨X, 2, none⟩ = some (.string ⟨#[]⟩) := A0.out.cell 2
    have f0 := A0.out.free 0
    have f1 := A0.out.free 1
    have f2 := A0.out.free 2
    go_wp2
    refine bodyPost_ret (v := slV uc ⟨#[]⟩ ⟨#[]⟩) (by simp [results, Try.results14, go_sem, q0, q1, q2, slV]) rfl ⟨by rw [E.out], ?_⟩
    exact ((J0.out.2.setCell hXw _).setCell hXw _).setCell hXw _
  have E : Hid (rewO old now c wr dt nonce = slV 0 (ofL (wpL now k nonce)) dt) := by show _ = _; rw [EO.out, if_pos hnow, if_pos hc]
  have d : (uc != 0) = false := by simp; exact hc
  obtain ⟨kp, hn, hdt⟩ := OK.out hc
  have KW := fun wx => hid (iWrap now k nonce hnow kp h1 wx)
  generalize ofL (wpL now k nonce) = V at KW E
  clear EO OK hnow hc kp hn hdt
  go_enter Try.func14, Try.ntmps14
  go_wp2_with fail
  rw [← hW0, ← hX]
  clear hW0 hX
  refine (KN _).out.mono ?_
  rintro e w1 ⟨rfl, hw⟩
  obtain rfl := hw.symm
  go_wp2_with fail
  refine (KU _).out.mono ?_
  rintro e w1 ⟨rfl, hb1⟩
  replace J0 := Jn.next hb1 J0
  replace A0 := hid (A0.out.below hb1 A0.out.lt)
  clear hb1 s0 s1 s2
  have s2 : w1.cell? ⟨w.heap.size, 2, none⟩ = some (.string dt) := J0.out.1.cell 2
  go_upto_region 6 with fail
  go_region_law (first
    | (go_simp; go_at_call 30; refine (KW _).out.mono ?_; rintro e w2 ⟨rfl, hb2⟩; (first | replace J0 := Jn.next hb2 J0 | replace J0 := Jn.next hb2 (Jn.drew J0)); (first | replace A0 := hid (A0.out.below hb2 A0.out.lt) | replace A0 := hid (A0.out.drew.below hb2 A0.out.lt)); have s2 : w2.cell? ⟨w.heap.size, 2, none⟩ = some (.string dt) := J0.out.1.cell 2; have q0 : w2.cell? ⟨X, 0, none⟩ = some (.int .i64 0) := A0.out.cell 0; have q1 : w2.cell? ⟨X, 1, none⟩ = some (.string ⟨#[]⟩) := A0.out.cell 1; have q2 : w2.cell? ⟨X, 2, none⟩ = some (.string ⟨#[]⟩) := A0.out.cell 2; have f0 := A0.out.free 0; have f1 := A0.out.free 1; have f2 := A0.out.free 2; clear hb2; dsimp only)
    | (go_simp; go_at_call 39; refine (KC _).out.mono ?_; rintro e w2 ⟨rfl, hb2⟩; (first | replace J0 := Jn.next hb2 J0 | replace J0 := Jn.next hb2 (Jn.drew J0)); (first | replace A0 := hid (A0.out.below hb2 A0.out.lt) | replace A0 := hid (A0.out.drew.below hb2 A0.out.lt)); have s2 : w2.cell? ⟨w.heap.size, 2, none⟩ = some (.string dt) := J0.out.1.cell 2; have q0 : w2.cell? ⟨X, 0, none⟩ = some (.int .i64 0) := A0.out.cell 0; have q1 : w2.cell? ⟨X, 1, none⟩ = some (.string ⟨#[]⟩) := A0.out.cell 1; have q2 : w2.cell? ⟨X, 2, none⟩ = some (.string ⟨#[]⟩) := A0.out.cell 2; have f0 := A0.out.free 0; have f1 := A0.out.free 1; have f2 := A0.out.free 2; clear hb2; dsimp only))
  all_goals go_wp2
  all_goals
    refine bodyPost_ret (v := slV 0 V dt) (by simp [results, Try.results14, go_sem, q0, q1, q2, slV]) rfl ⟨by rw [E.out], ?_⟩
    first
      | exact ((J0.out.2.setCell hXw _).setCell hXw _).setCell hXw _
      | exact (((J0.out.2.setCell hXw _).setCell hXw _).setCell hXw _).drew
      | exact ((J0.out.2.drew.setCell hXw _).setCell hXw _).setCell hXw _
end Go.Proofs.Ytccokbfbkeknnaa
