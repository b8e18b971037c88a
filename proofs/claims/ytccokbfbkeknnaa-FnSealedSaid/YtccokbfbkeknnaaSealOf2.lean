import Derived.Test.YtccokbfbkeknnaaSealOf
namespace Go.Proofs.Ytccokbfbkeknnaa
open Go.RowKit
/-! The laws on OpenSealed and Rewrap, out of contracts of the program's functions. -/
set_option maxRecDepth 20000 in
set_option maxHeartbeats 1000000 in
theorem fnExactOpenSealed_of (HI : ∀ (m : ByteArray) (c : Int) (wr dt : ByteArray) (nonce : Int), m.size ≤ 1048576 → (Lit.int .i64 c).wf = true → wr.size ≤ 1048576 → dt.size ≤ 1048576 → (Lit.int .i64 nonce).wf = true → ∀ w, Calls Try.prog 11 #[.string m, .agg #[.int .i64 c, .string wr, .string dt], .int .i64 nonce] w fun e w' => e = .returned (opnO m c wr dt nonce) ∧ Below w.heap.size w w')
    (m : ByteArray) (hm : m.size ≤ maxLen) (c : Int) (wc : (Lit.int .i64 c).wf = true) (wr : ByteArray) (hwr : wr.size ≤ maxLen) (dt : ByteArray) (hdt : dt.size ≤ maxLen) (nonce : Int) (wn : (Lit.int .i64 nonce).wf = true) (w : World) :
    Calls Try.prog 6 #[.string m, .agg #[.int .i64 c, .string wr, .string dt], .int .i64 nonce] w fun e w' => e = .returned (.bool true) ∧ Below w.heap.size w w' := by
  unfold maxLen at hm hwr hdt
  have J := Jn.box w 38 #[.int .i64 c, .string wr, .string dt]
  obtain ⟨W0, hW0⟩ : ∃ W, W = w.alloc (.cells #[.int .i64 c, .string wr, .string dt] 38) := ⟨_, rfl⟩
  rw [← hW0] at J
  have s0 : W0.cell? ⟨w.heap.size, 0, none⟩ = some (.int .i64 c) := J.out.1.cell 0
  have s1 : W0.cell? ⟨w.heap.size, 1, none⟩ = some (.string wr) := J.out.1.cell 1
  have s2 : W0.cell? ⟨w.heap.size, 2, none⟩ = some (.string dt) := J.out.1.cell 2
  by_cases gm : m.size ≤ 1048576
  case neg =>
    go_enter Try.func6, Try.ntmps6
    go_wp2_with fail
    rw [← hW0]
    clear hW0
    go_ret
    exact ⟨rfl, J.out.2⟩
  have KZ := fun wx => hid (sz1Sl c wr dt 1048576 (by decide) (by decide) (by omega) (by omega) wx)
  by_cases gz : (wr.size : Int) + dt.size ≤ 1048576
  case neg =>
    rw [if_neg gz] at KZ
    go_enter Try.func6, Try.ntmps6
    go_wp2_with fail
    rw [← hW0]
    clear hW0
    refine (KZ _).out.mono ?_
    rintro e w1 ⟨rfl, hb1⟩
    replace J := Jn.next hb1 J
    clear hb1 s0 s1 s2
    go_wp2
    go_ret
    exact ⟨rfl, J.out.2⟩
  rw [if_pos gz] at KZ
  obtain ⟨z, hz⟩ : ∃ z : Int, z = 1048576 - wr.size - dt.size := ⟨_, rfl⟩
  rw [← hz] at KZ
  have z0 : ¬ z < 0 := by omega
  have K1 := fun wx => hid (sOpn m c wr dt nonce (wf_hi wn) wx)
  have K2 := fun wx => hid (HI m c wr dt nonce gm wc (by omega) (by omega) wn wx)
  have KT := fun wx => hid (to1Sl c wr dt wx)
  obtain ⟨rc, ra, hV⟩ := opnO_form m c wr dt nonce
  rw [hV] at K1 K2
  unfold bsV at K1 K2
  clear HI wn wc hV hz gz
  go_enter Try.func6, Try.ntmps6
  go_wp2_with fail
  rw [← hW0]
  clear hW0
  refine (KZ _).out.mono ?_
  rintro e w1 ⟨rfl, hb1⟩
  replace J := Jn.next hb1 J
  clear hb1 s0 s1 s2
  have s0 : w1.cell? ⟨w.heap.size, 0, none⟩ = some (.int .i64 c) := J.out.1.cell 0
  have s1 : w1.cell? ⟨w.heap.size, 1, none⟩ = some (.string wr) := J.out.1.cell 1
  have s2 : w1.cell? ⟨w.heap.size, 2, none⟩ = some (.string dt) := J.out.1.cell 2
  go_wp2_with fail
  refine (KT _).out.mono ?_
  rintro e w2 ⟨rfl, hb2⟩
  replace J := Jn.next hb2 J
  clear hb2 s0 s1 s2
  go_wp2_with fail
  refine (K1 _).out.mono ?_
  rintro e w3 ⟨rfl, hb3⟩
  replace J := Jn.next hb3 J
  clear hb3
  obtain ⟨X, hX⟩ : ∃ X, X = w3.heap.size := ⟨_, rfl⟩
  obtain ⟨W4, hW4⟩ : ∃ W, W = w3.alloc (.cells #[.int .i64 rc, .string ra] 29) := ⟨_, rfl⟩
  have R : Hid (RowAt W4 X 29 #[.int .i64 rc, .string ra]) := by rw [hW4, hX]; exact RowAt.new _ _ _
  have J4 : Hid (Jn w W4 w.heap.size 38 #[.int .i64 c, .string wr, .string dt]) := by rw [hW4]; exact ⟨J.out.1.alloc _, J.out.2.alloc J.out.2.size _⟩
  clear J
  have s0 : W4.cell? ⟨w.heap.size, 0, none⟩ = some (.int .i64 c) := J4.out.1.cell 0
  have s1 : W4.cell? ⟨w.heap.size, 1, none⟩ = some (.string wr) := J4.out.1.cell 1
  have s2 : W4.cell? ⟨w.heap.size, 2, none⟩ = some (.string dt) := J4.out.1.cell 2
  go_upto_region 8 with fail
  rw [← hW4, ← hX]
  clear hW4 hX
  go_wp2_with fail
  refine (KT _).out.mono ?_
  rintro e w5 ⟨rfl, hb5⟩
  replace J4 := Jn.next hb5 J4
  replace R := hid (R.out.below hb5 R.out.lt)
  clear hb5 s0 s1 s2
  go_wp2_with fail
  refine (K2 _).out.mono ?_
  rintro e w6 ⟨rfl, hb6⟩
  replace J4 := Jn.next hb6 J4
  replace R := hid (R.out.below hb6 R.out.lt)
  clear hb6
  obtain ⟨Y, hY⟩ : ∃ Y, Y = w6.heap.size := ⟨_, rfl⟩
  obtain ⟨W7, hW7⟩ : ∃ W, W = w6.alloc (.cells #[.int .i64 rc, .string ra] 29) := ⟨_, rfl⟩
  have R7 : Hid (RowAt W7 X 29 #[.int .i64 rc, .string ra]) := by rw [hW7]; exact R.out.alloc _
  have S7 : Hid (RowAt W7 Y 29 #[.int .i64 rc, .string ra]) := by rw [hW7, hY]; exact RowAt.new _ _ _
  have B7 : Hid (Below w.heap.size w W7) := by rw [hW7]; exact J4.out.2.alloc J4.out.2.size _
  clear R J4
  have r0 : W7.cell? ⟨X, 0, none⟩ = some (.int .i64 rc) := R7.out.cell 0
  have t0 : W7.cell? ⟨Y, 0, none⟩ = some (.int .i64 rc) := S7.out.cell 0
  have r1 : W7.cell? ⟨X, 1, none⟩ = some (.string ra) := R7.out.cell 1
  have t1 : W7.cell? ⟨Y, 1, none⟩ = some (.string ra) := S7.out.cell 1
  go_upto_region 9 with fail
  rw [← hW7, ← hY]
  clear hW7 hY
  go_wp2_with fail
  refine (eqBs rc ra _).mono ?_
  rintro e w8 ⟨rfl, hb8⟩
  have B8 := hid (B7.out.trans (hb8.mono B7.out.size))
  clear hb8
  go_wp2
  go_ret
  exact ⟨rfl, B8.out⟩
set_option maxRecDepth 20000 in
set_option maxHeartbeats 1000000 in
theorem fnExactRewrap_of (HI : ∀ (old now : ByteArray) (c : Int) (wr dt : ByteArray) (nonce : Int), old.size ≤ 1048576 → now.size ≤ 1048576 → (Lit.int .i64 c).wf = true → wr.size ≤ 1048576 → dt.size ≤ 1048576 → (Lit.int .i64 nonce).wf = true → ∀ w, Calls Try.prog 14 #[.string old, .string now, .agg #[.int .i64 c, .string wr, .string dt], .int .i64 nonce] w fun e w' => e = .returned (rewO old now c wr dt nonce) ∧ Below w.heap.size w w')
    (old : ByteArray) (hold : old.size ≤ maxLen) (now : ByteArray) (hnow : now.size ≤ maxLen) (c : Int) (wc : (Lit.int .i64 c).wf = true) (wr : ByteArray) (hwr : wr.size ≤ maxLen) (dt : ByteArray) (hdt : dt.size ≤ maxLen) (nonce : Int) (wn : (Lit.int .i64 nonce).wf = true) (w : World) :
    Calls Try.prog 7 #[.string old, .string now, .agg #[.int .i64 c, .string wr, .string dt], .int .i64 nonce] w fun e w' => e = .returned (.bool true) ∧ Below w.heap.size w w' := by
  unfold maxLen at hold hnow hwr hdt
  have J := Jn.box w 38 #[.int .i64 c, .string wr, .string dt]
  obtain ⟨W0, hW0⟩ : ∃ W, W = w.alloc (.cells #[.int .i64 c, .string wr, .string dt] 38) := ⟨_, rfl⟩
  rw [← hW0] at J
  have s0 : W0.cell? ⟨w.heap.size, 0, none⟩ = some (.int .i64 c) := J.out.1.cell 0
  have s1 : W0.cell? ⟨w.heap.size, 1, none⟩ = some (.string wr) := J.out.1.cell 1
  have s2 : W0.cell? ⟨w.heap.size, 2, none⟩ = some (.string dt) := J.out.1.cell 2
  by_cases gold : old.size ≤ 1048576
  case neg =>
    go_enter Try.func7, Try.ntmps7
    go_wp2_with fail
    rw [← hW0]
    clear hW0
    go_ret
    exact ⟨rfl, J.out.2⟩
  by_cases gnow : now.size ≤ 1048576
  case neg =>
    go_enter Try.func7, Try.ntmps7
    go_wp2_with fail
    rw [← hW0]
    clear hW0
    go_ret
    exact ⟨rfl, J.out.2⟩
  have KZ := fun wx => hid (sz1Sl c wr dt 1048576 (by decide) (by decide) (by omega) (by omega) wx)
  by_cases gz : (wr.size : Int) + dt.size ≤ 1048576
  case neg =>
    rw [if_neg gz] at KZ
    go_enter Try.func7, Try.ntmps7
    go_wp2_with fail
    rw [← hW0]
    clear hW0
    refine (KZ _).out.mono ?_
    rintro e w1 ⟨rfl, hb1⟩
    replace J := Jn.next hb1 J
    clear hb1 s0 s1 s2
    go_wp2
    go_ret
    exact ⟨rfl, J.out.2⟩
  rw [if_pos gz] at KZ
  obtain ⟨z, hz⟩ : ∃ z : Int, z = 1048576 - wr.size - dt.size := ⟨_, rfl⟩
  rw [← hz] at KZ
  have z0 : ¬ z < 0 := by omega
  have K1 := fun wx => hid (sRew old now c wr dt nonce (wf_hi wn) wx)
  have K2 := fun wx => hid (HI old now c wr dt nonce gold gnow wc (by omega) (by omega) wn wx)
  have KT := fun wx => hid (to1Sl c wr dt wx)
  obtain ⟨rc, ra, rb, hV⟩ := rewO_form old now c wr dt nonce
  rw [hV] at K1 K2

  clear HI wn wc hV hz gz
  go_enter Try.func7, Try.ntmps7
  go_wp2_with fail
  rw [← hW0]
  clear hW0
  refine (KZ _).out.mono ?_
  rintro e w1 ⟨rfl, hb1⟩
  replace J := Jn.next hb1 J
  clear hb1 s0 s1 s2
  have s0 : w1.cell? ⟨w.heap.size, 0, none⟩ = some (.int .i64 c) := J.out.1.cell 0
  have s1 : w1.cell? ⟨w.heap.size, 1, none⟩ = some (.string wr) := J.out.1.cell 1
  have s2 : w1.cell? ⟨w.heap.size, 2, none⟩ = some (.string dt) := J.out.1.cell 2
  go_wp2_with fail
  refine (KT _).out.mono ?_
  rintro e w2 ⟨rfl, hb2⟩
  replace J := Jn.next hb2 J
  clear hb2 s0 s1 s2
  go_wp2_with fail
  refine (K1 _).out.mono ?_
  rintro e w3 ⟨rfl, hb3⟩
  replace J := Jn.next hb3 J
  clear hb3
  obtain ⟨X, hX⟩ : ∃ X, X = w3.heap.size := ⟨_, rfl⟩
  obtain ⟨W4, hW4⟩ : ∃ W, W = w3.alloc (.cells #[.int .i64 rc, .string ra, .string rb] 26) := ⟨_, rfl⟩
  have R : Hid (RowAt W4 X 26 #[.int .i64 rc, .string ra, .string rb]) := by rw [hW4, hX]; exact RowAt.new _ _ _
  have J4 : Hid (Jn w W4 w.heap.size 38 #[.int .i64 c, .string wr, .string dt]) := by rw [hW4]; exact ⟨J.out.1.alloc _, J.out.2.alloc J.out.2.size _⟩
  clear J
  have s0 : W4.cell? ⟨w.heap.size, 0, none⟩ = some (.int .i64 c) := J4.out.1.cell 0
  have s1 : W4.cell? ⟨w.heap.size, 1, none⟩ = some (.string wr) := J4.out.1.cell 1
  have s2 : W4.cell? ⟨w.heap.size, 2, none⟩ = some (.string dt) := J4.out.1.cell 2
  go_upto_region 10 with fail
  rw [← hW4, ← hX]
  clear hW4 hX
  go_wp2_with fail
  refine (KT _).out.mono ?_
  rintro e w5 ⟨rfl, hb5⟩
  replace J4 := Jn.next hb5 J4
  replace R := hid (R.out.below hb5 R.out.lt)
  clear hb5 s0 s1 s2
  go_wp2_with fail
  refine (K2 _).out.mono ?_
  rintro e w6 ⟨rfl, hb6⟩
  replace J4 := Jn.next hb6 J4
  replace R := hid (R.out.below hb6 R.out.lt)
  clear hb6
  obtain ⟨Y, hY⟩ : ∃ Y, Y = w6.heap.size := ⟨_, rfl⟩
  obtain ⟨W7, hW7⟩ : ∃ W, W = w6.alloc (.cells #[.int .i64 rc, .string ra, .string rb] 26) := ⟨_, rfl⟩
  have R7 : Hid (RowAt W7 X 26 #[.int .i64 rc, .string ra, .string rb]) := by rw [hW7]; exact R.out.alloc _
  have S7 : Hid (RowAt W7 Y 26 #[.int .i64 rc, .string ra, .string rb]) := by rw [hW7, hY]; exact RowAt.new _ _ _
  have B7 : Hid (Below w.heap.size w W7) := by rw [hW7]; exact J4.out.2.alloc J4.out.2.size _
  clear R J4
  have r0 : W7.cell? ⟨X, 0, none⟩ = some (.int .i64 rc) := R7.out.cell 0
  have t0 : W7.cell? ⟨Y, 0, none⟩ = some (.int .i64 rc) := S7.out.cell 0
  have r1 : W7.cell? ⟨X, 1, none⟩ = some (.string ra) := R7.out.cell 1
  have t1 : W7.cell? ⟨Y, 1, none⟩ = some (.string ra) := S7.out.cell 1
  have r2 : W7.cell? ⟨X, 2, none⟩ = some (.string rb) := R7.out.cell 2
  have t2 : W7.cell? ⟨Y, 2, none⟩ = some (.string rb) := S7.out.cell 2
  go_upto_region 11 with fail
  rw [← hW7, ← hY]
  clear hW7 hY
  go_wp2_with fail
  refine (eqSl rc ra rb _).mono ?_
  rintro e w8 ⟨rfl, hb8⟩
  have B8 := hid (B7.out.trans (hb8.mono B7.out.size))
  clear hb8
  go_wp2
  go_ret
  exact ⟨rfl, B8.out⟩
end Go.Proofs.Ytccokbfbkeknnaa
