import Derived.Test.YtccokbfbkeknnaaSSeal6
import Derived.Test.YtccokbfbkeknnaaLawSl
namespace Go.Proofs.Ytccokbfbkeknnaa
open Go.RowKit
/-! The laws on sealing, out of contracts of the program's functions. -/
theorem wf_hi {n : Int} (h : (Lit.int .i64 n).wf = true) : n ≤ 9223372036854775807 := by have := bounds_i64 h; omega
set_option maxRecDepth 20000 in
set_option maxHeartbeats 1000000 in
theorem fnExactStreamOf_of (HI : ∀ (key : ByteArray) (nonce size : Int), key.size ≤ 1048576 → (Lit.int .i64 nonce).wf = true → (Lit.int .i64 size).wf = true → ∀ w, Calls Try.prog 16 #[.string key, .int .i64 nonce, .int .i64 size] w fun e w' => e = .returned (.string (ofL (stmV key nonce size))) ∧ Below w.heap.size w w')
    (key : ByteArray) (hk0 : key.size ≤ maxLen) (nonce : Int) (wn : (Lit.int .i64 nonce).wf = true) (size : Int) (ws : (Lit.int .i64 size).wf = true) (w : World) :
    Calls Try.prog 4 #[.string key, .int .i64 nonce, .int .i64 size] w fun e w' => e = .returned (.bool true) ∧ Below w.heap.size w w' := by
  unfold maxLen at hk0
  by_cases hk : key.size ≤ 1048576
  · have K1 := fun wx => hid (sStm key nonce size (wf_hi wn) wx)
    have K2 := fun wx => hid (HI key nonce size hk wn ws wx)
    generalize ofL (stmV key nonce size) = V at K1 K2
    have dF : (V.toList == V.toList) = true := by simp
    clear HI wn ws
    go_enter Try.func4, Try.ntmps4
    go_wp2_with fail
    refine (K1 _).out.mono ?_
    rintro e w1 ⟨rfl, hb1⟩
    have B1 := hid hb1
    clear hb1
    go_wp2_with fail
    refine (K2 _).out.mono ?_
    rintro e w2 ⟨rfl, hb2⟩
    have B2 := hid (B1.out.trans (hb2.mono B1.out.size))
    clear hb2
    go_wp2
    go_ret
    exact ⟨rfl, B2.out⟩
  · go_enter Try.func4, Try.ntmps4
    go_wp2_with fail
    go_ret
    exact ⟨rfl, Below.refl _ _⟩
theorem sealO_form (m dk : ByteArray) (nonce : Int) (data : ByteArray) : ∃ c a b, sealO m dk nonce data = .agg #[.int .i64 c, .string a, .string b] := by
  unfold sealO
  split
  · split
    · exact ⟨_, _, _, rfl⟩
    · exact ⟨_, _, _, rfl⟩
  · exact ⟨_, _, _, rfl⟩
theorem opnO_form (m : ByteArray) (c : Int) (wr dt : ByteArray) (nonce : Int) : ∃ c' a, opnO m c wr dt nonce = bsV c' a := by
  unfold opnO opnD
  simp only
  split
  · split
    · exact ⟨_, _, rfl⟩
    · exact ⟨_, _, rfl⟩
  · exact ⟨_, _, rfl⟩
theorem rewO_form (old now : ByteArray) (c : Int) (wr dt : ByteArray) (nonce : Int) : ∃ c' a b, rewO old now c wr dt nonce = .agg #[.int .i64 c', .string a, .string b] := by
  unfold rewO
  split
  · split
    · exact ⟨_, _, _, rfl⟩
    · exact ⟨_, _, _, rfl⟩
  · exact ⟨_, _, _, rfl⟩
set_option maxRecDepth 20000 in
set_option maxHeartbeats 1000000 in
theorem fnExactSealObject_of (HI : ∀ (m dk : ByteArray) (nonce : Int) (data : ByteArray), m.size ≤ 1048576 → dk.size ≤ 1048576 → (Lit.int .i64 nonce).wf = true → data.size ≤ 1048576 → ∀ w, Calls Try.prog 9 #[.string m, .string dk, .int .i64 nonce, .string data] w fun e w' => e = .returned (sealO m dk nonce data) ∧ Below w.heap.size w w')
    (m : ByteArray) (hm0 : m.size ≤ maxLen) (dk : ByteArray) (hd0 : dk.size ≤ maxLen) (nonce : Int) (wn : (Lit.int .i64 nonce).wf = true) (data : ByteArray) (ht0 : data.size ≤ maxLen) (w : World) :
    Calls Try.prog 5 #[.string m, .string dk, .int .i64 nonce, .string data] w fun e w' => e = .returned (.bool true) ∧ Below w.heap.size w w' := by
  unfold maxLen at hm0 hd0 ht0
  by_cases hm : m.size ≤ 1048576
  case neg =>
    go_enter Try.func5, Try.ntmps5
    go_wp2_with fail
    go_ret
    exact ⟨rfl, Below.refl _ _⟩
  by_cases hd : dk.size ≤ 1048576
  case neg =>
    go_enter Try.func5, Try.ntmps5
    go_wp2_with fail
    go_ret
    exact ⟨rfl, Below.refl _ _⟩
  by_cases ht : data.size ≤ 1048576
  case neg =>
    go_enter Try.func5, Try.ntmps5
    go_wp2_with fail
    go_ret
    exact ⟨rfl, Below.refl _ _⟩
  have K1 := fun wx => hid (sSeal m dk nonce data (wf_hi wn) ht wx)
  have K2 := fun wx => hid (HI m dk nonce data hm hd wn ht wx)
  obtain ⟨c, a, b, hV⟩ := sealO_form m dk nonce data
  rw [hV] at K1 K2
  clear HI wn hV
  go_enter Try.func5, Try.ntmps5
  go_wp2_with fail
  refine (K1 _).out.mono ?_
  rintro e w1 ⟨rfl, hb1⟩
  have B1 := hid hb1
  clear hb1
  obtain ⟨X, hX⟩ : ∃ X, X = w1.heap.size := ⟨_, rfl⟩
  obtain ⟨W2, hW2⟩ : ∃ W, W = w1.alloc (.cells #[.int .i64 c, .string a, .string b] 26) := ⟨_, rfl⟩
  have R2 : Hid (RowAt W2 X 26 #[.int .i64 c, .string a, .string b]) := by rw [hW2, hX]; exact RowAt.new _ _ _
  have B2 : Hid (Below w.heap.size w W2) := by rw [hW2]; exact B1.out.alloc B1.out.size _
  clear B1
  go_wp2_with fail
  rw [← hW2, ← hX]
  clear hW2 hX
  refine (K2 _).out.mono ?_
  rintro e w3 ⟨rfl, hb3⟩
  have R3 := hid (R2.out.below hb3 R2.out.lt)
  have B3 := hid (B2.out.trans (hb3.mono B2.out.size))
  clear hb3 R2 B2
  obtain ⟨Y, hY⟩ : ∃ Y, Y = w3.heap.size := ⟨_, rfl⟩
  obtain ⟨W4, hW4⟩ : ∃ W, W = w3.alloc (.cells #[.int .i64 c, .string a, .string b] 26) := ⟨_, rfl⟩
  have R4 : Hid (RowAt W4 X 26 #[.int .i64 c, .string a, .string b]) := by rw [hW4]; exact R3.out.alloc _
  have S4 : Hid (RowAt W4 Y 26 #[.int .i64 c, .string a, .string b]) := by rw [hW4, hY]; exact RowAt.new _ _ _
  have B4 : Hid (Below w.heap.size w W4) := by rw [hW4]; exact B3.out.alloc B3.out.size _
  clear B3 R3
  have r0 : W4.cell? ⟨X, 0, none⟩ = some (.int .i64 c) := R4.out.cell 0
  have r1 : W4.cell? ⟨X, 1, none⟩ = some (.string a) := R4.out.cell 1
  have r2 : W4.cell? ⟨X, 2, none⟩ = some (.string b) := R4.out.cell 2
  have t0 : W4.cell? ⟨Y, 0, none⟩ = some (.int .i64 c) := S4.out.cell 0
  have t1 : W4.cell? ⟨Y, 1, none⟩ = some (.string a) := S4.out.cell 1
  have t2 : W4.cell? ⟨Y, 2, none⟩ = some (.string b) := S4.out.cell 2
  go_upto_region 9 with fail
  rw [← hW4, ← hY]
  clear hW4 hY
  go_wp2_with fail
  refine (eqSl c a b _).mono ?_
  rintro e w5 ⟨rfl, hb5⟩
  have B5 := hid (B4.out.trans (hb5.mono B4.out.size))
  clear hb5
  go_wp2
  go_ret
  exact ⟨rfl, B5.out⟩
end Go.Proofs.Ytccokbfbkeknnaa
