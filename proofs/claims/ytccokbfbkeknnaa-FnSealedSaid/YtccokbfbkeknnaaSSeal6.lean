import Derived.Test.YtccokbfbkeknnaaSSeal5
namespace Go.Proofs.Ytccokbfbkeknnaa
open Go.RowKit
/-! The specification's Rewrap. -/
set_option maxRecDepth 20000 in
set_option maxHeartbeats 2000000 in
theorem sRew (old now : ByteArray) (c : Int) (wr dt : ByteArray) (nonce : Int) (h1 : nonce ≤ 9223372036854775807) (w : World) :
    Calls Try.prog 22 #[.string old, .string now, .agg #[.int .i64 c, .string wr, .string dt], .int .i64 nonce] w fun e w' => e = .returned (rewO old now c wr dt nonce) ∧ Below w.heap.size w w' := by
  have J := Jn.box w 26 #[.int .i64 c, .string wr, .string dt]
  obtain ⟨W0, hW0⟩ : ∃ W, W = (w.alloc (.cells #[.int .i64 c, .string wr, .string dt] 26)).alloc (.cells #[.int .i64 0, .string ⟨#[]⟩, .string ⟨#[]⟩] 26) := ⟨_, rfl⟩
  have J0 : Hid (Jn w W0 w.heap.size 26 #[.int .i64 c, .string wr, .string dt]) := by rw [hW0]; exact ⟨J.out.1.alloc _, J.out.2.alloc J.out.2.size _⟩
  obtain ⟨X, hX⟩ : ∃ X, X = w.heap.size + 1 := ⟨_, rfl⟩
  have A0 : Hid (RowAt W0 X 26 #[.int .i64 0, .string ⟨#[]⟩, .string ⟨#[]⟩]) := by
    have := RowAt.new (w.alloc (.cells #[.int .i64 c, .string wr, .string dt] 26)) 26 #[.int .i64 0, .string ⟨#[]⟩, .string ⟨#[]⟩]
    rw [World.size_alloc] at this
    rw [hW0, hX]
    exact this
  have hXw : w.heap.size ≤ X := by omega
  have s0 : W0.cell? ⟨w.heap.size, 0, none⟩ = some (.int .i64 c) := J0.out.1.cell 0
  have s1 : W0.cell? ⟨w.heap.size, 1, none⟩ = some (.string wr) := J0.out.1.cell 1
  have s2 : W0.cell? ⟨w.heap.size, 2, none⟩ = some (.string dt) := J0.out.1.cell 2
  have KU := fun wx => hid (sUnw old c wr dt nonce h1 wx)
  have KN := fun wx => hid (sKey now wx)
  have OK := hid (@unw_ok old c wr dt nonce)
  have EO : Hid (rewO old now c wr dt nonce = if keyP now then if (unwO old c wr dt nonce).1 = 0 then slV 0 (ofL (wpL now (unwO old c wr dt nonce).2 nonce)) dt else slV (unwO old c wr dt nonce).1 ⟨#[]⟩ ⟨#[]⟩ else slV 1 ⟨#[]⟩ ⟨#[]⟩) := rfl
  generalize unwO old c wr dt nonce = U at KU OK EO
  obtain ⟨uc, k⟩ := U
  dsimp only at KU OK EO
  clear J
  by_cases hnow : keyP now
  case neg =>
    have E : Hid (rewO old now c wr dt nonce = slV 1 ⟨#[]⟩ ⟨#[]⟩) := by show _ = _; rw [EO.out, if_neg hnow]
    rw [pb_f hnow] at KN
    clear EO OK hnow
    go_enter Try.func22, Try.ntmps22
    go_wp2_with fail
    rw [← hW0, ← hX]
    clear hW0 hX
    refine (KU _).out.mono ?_
    rintro e w1 ⟨rfl, hb1⟩
    replace J0 := Jn.next hb1 J0
    replace A0 := hid (A0.out.below hb1 A0.out.lt)
    have q0 : w1.cell? ⟨X, 0, none⟩ = some (.int .i64 0) := A0.out.cell 0
    have q1 : w1.cell? ⟨X, 1, none⟩ = some (.string ⟨#[]⟩) := A0.out.cell 1
    have q2 : w1.cell? ⟨X, 2, none⟩ = some (.string ⟨#[]⟩) := A0.out.cell 2
    have f0 := A0.out.free 0
    have f1 := A0.out.free 1
    have f2 := A0.out.free 2
    clear hb1 s0 s1 s2
    go_wp2_with fail
    refine (KN _).out.mono ?_
    rintro e w2 ⟨rfl, hw⟩
    obtain rfl := hw.symm
    go_wp2
    refine bodyPost_ret (v := slV 1 ⟨#[]⟩ ⟨#[]⟩) (by simp [results, Try.results22, go_sem, q0, q1, q2, slV]) rfl ⟨by rw [E.out], ?_⟩
    exact ((J0.out.2.setCell hXw _).setCell hXw _).setCell hXw _
  rw [pb_t hnow] at KN
  by_cases hc : uc = 0
  case neg =>
    have E : Hid (rewO old now c wr dt nonce = slV uc ⟨#[]⟩ ⟨#[]⟩) := by show _ = _; rw [EO.out, if_pos hnow, if_neg hc]
    have d : (uc != 0) = true := by simp; exact hc
    clear EO OK hnow hc
    go_enter Try.func22, Try.ntmps22
    go_wp2_with fail
    rw [← hW0, ← hX]
    clear hW0 hX
    refine (KU _).out.mono ?_
    rintro e w1 ⟨rfl, hb1⟩
    replace J0 := Jn.next hb1 J0
    replace A0 := hid (A0.out.below hb1 A0.out.lt)
    have q0 : w1.cell? ⟨X, 0, none⟩ = some (.int .i64 0) := A0.out.cell 0
    have q1 : w1.cell? ⟨X, 1, none⟩ = some (.string ⟨#[]⟩) := A0.out.cell 1
    have q2 : w1.cell? ⟨X, 2, none⟩ = some (.string ⟨#[]⟩) := A0.out.cell 2
    have f0 := A0.out.free 0
    have f1 := A0.out.free 1
    have f2 := A0.out.free 2
    clear hb1 s0 s1 s2
    go_wp2_with fail
    refine (KN _).out.mono ?_
    rintro e w2 ⟨rfl, hw⟩
    obtain rfl := hw.symm
    go_wp2
    refine bodyPost_ret (v := slV uc ⟨#[]⟩ ⟨#[]⟩) (by simp [results, Try.results22, go_sem, q0, q1, q2, slV]) rfl ⟨by rw [E.out], ?_⟩
    exact ((J0.out.2.setCell hXw _).setCell hXw _).setCell hXw _
  · have E : Hid (rewO old now c wr dt nonce = slV 0 (ofL (wpL now k nonce)) dt) := by show _ = _; rw [EO.out, if_pos hnow, if_pos hc]
    have d : (uc != 0) = false := by simp; exact hc
    obtain ⟨kp, hn, hdt⟩ := OK.out hc
    have KW := fun wx => hid (sWrap now k nonce hnow kp hn h1 wx)
    generalize ofL (wpL now k nonce) = V at KW E
    clear EO OK hnow hc kp hn hdt
    go_enter Try.func22, Try.ntmps22
    go_wp2_with fail
    rw [← hW0, ← hX]
    clear hW0 hX
    refine (KU _).out.mono ?_
    rintro e w1 ⟨rfl, hb1⟩
    replace J0 := Jn.next hb1 J0
    replace A0 := hid (A0.out.below hb1 A0.out.lt)
    have q0 : w1.cell? ⟨X, 0, none⟩ = some (.int .i64 0) := A0.out.cell 0
    have q1 : w1.cell? ⟨X, 1, none⟩ = some (.string ⟨#[]⟩) := A0.out.cell 1
    have q2 : w1.cell? ⟨X, 2, none⟩ = some (.string ⟨#[]⟩) := A0.out.cell 2
    have f0 := A0.out.free 0
    have f1 := A0.out.free 1
    have f2 := A0.out.free 2
    clear hb1 s0 s1 s2
    go_wp2_with fail
    refine (KN _).out.mono ?_
    rintro e w2 ⟨rfl, hw⟩
    obtain rfl := hw.symm
    clear q0 q1 q2 f0 f1 f2
    have s2 : w1.cell? ⟨w.heap.size, 2, none⟩ = some (.string dt) := J0.out.1.cell 2
    go_upto_region 6 with fail
    go_region_law (first
      | (go_simp; go_at_call 33; refine (KW _).out.mono ?_; rintro e w2 ⟨rfl, hb2⟩; (first | replace J0 := Jn.next hb2 J0 | replace J0 := Jn.next hb2 (Jn.drew J0)); (first | replace A0 := hid (A0.out.below hb2 A0.out.lt) | replace A0 := hid (A0.out.drew.below hb2 A0.out.lt)); have s2 : w2.cell? ⟨w.heap.size, 2, none⟩ = some (.string dt) := J0.out.1.cell 2; have q0 : w2.cell? ⟨X, 0, none⟩ = some (.int .i64 0) := A0.out.cell 0; have q1 : w2.cell? ⟨X, 1, none⟩ = some (.string ⟨#[]⟩) := A0.out.cell 1; have q2 : w2.cell? ⟨X, 2, none⟩ = some (.string ⟨#[]⟩) := A0.out.cell 2; have f0 := A0.out.free 0; have f1 := A0.out.free 1; have f2 := A0.out.free 2; clear hb2; dsimp only))
    all_goals go_wp2
    all_goals
      refine bodyPost_ret (v := slV 0 V dt) (by simp [results, Try.results22, go_sem, q0, q1, q2, slV]) rfl ⟨by rw [E.out], ?_⟩
      first
        | exact ((J0.out.2.setCell hXw _).setCell hXw _).setCell hXw _
        | exact (((J0.out.2.setCell hXw _).setCell hXw _).setCell hXw _).drew
        | exact ((J0.out.2.drew.setCell hXw _).setCell hXw _).setCell hXw _
set_option maxRecDepth 20000 in
theorem eqBs (c : Int) (a : ByteArray) (w : World) :
    Calls Try.prog 21 #[bsV c a, bsV c a] w fun e w' => e = .returned (.bool true) ∧ Below w.heap.size w w' := by
  unfold bsV
  go_enter Try.func21, Try.ntmps21
  go_wp2
  go_ret
  exact ⟨rfl, ((Below.refl _ _).alloc (Nat.le_refl _) _).alloc (by simp) _⟩
end Go.Proofs.Ytccokbfbkeknnaa
