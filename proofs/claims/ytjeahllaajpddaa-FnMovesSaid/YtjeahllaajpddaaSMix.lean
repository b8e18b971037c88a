import Derived.Test.YtjeahllaajpddaaPut
import Derived.Test.YtjeahllaajpddaaSum
import Derived.Test.YtjeahllaajpddaaRows1
namespace Go.Proofs.Ytjeahllaajpddaa
open Go.RowKit
/-! MixOf. -/
/-- what is mixed of a sum -/
def mixX (x : Int) : Int := bits .xor .i64 (x * 48271 % 2147483647) (x * 48271 % 2147483647 / 65536)
def mixV (key : ByteArray) (node turn : Int) : Int := if node < 0 ∨ turn < 0 ∨ 1000 < key.size then -1 else mixX (sumOf (key ++ putNum node ++ putNum turn) 17)
theorem putL_len8 : ∀ k n, (putL k n).length ≤ k + 1
  | 0, _ => by simp [putL]
  | k + 1, n => by
    unfold putL
    split
    · simp
    · have := putL_len8 k (n / 128); simp; omega
theorem putNum_size (n : Int) : (putNum n).size ≤ 10 := by
  unfold putNum
  split
  · decide
  · rw [strOfNums_size]; have := putL_len8 8 n.toNat; omega
theorem sumOf_bd (s : ByteArray) (hs : s.size ≤ 400000) : 0 ≤ sumOf s 17 ∧ sumOf s 17 ≤ 2147483647 := by
  unfold sumOf
  rw [if_neg (by omega)]
  exact sumL_bd _ _ (by decide) (by decide)
set_option maxRecDepth 20000 in
set_option maxHeartbeats 2000000 in
theorem sMix (key : ByteArray) (node turn : Int) (hk : key.size ≤ 1048576) (hn : node ≤ 9223372036854775807) (ht : turn ≤ 9223372036854775807) (w : World) :
    Calls Try.prog 22 #[.string key, .int .i64 node, .int .i64 turn] w fun e w' => e = .returned (.int .i64 (mixV key node turn)) ∧ Below w.heap.size w w' := by
  by_cases h0 : node < 0
  · have E : Hid (mixV key node turn = -1) := if_pos (Or.inl h0)
    have d0 : decide (node < 0) = true := by simp; omega
    go_enter Try.func22, Try.ntmps22
    go_wp2
    go_ret
    exact ⟨by rw [E.out]; rfl, Below.refl _ _⟩
  have d0 : decide (node < 0) = false := by simp; omega
  by_cases h1 : turn < 0
  · have E : Hid (mixV key node turn = -1) := if_pos (Or.inr (Or.inl h1))
    have d1 : decide (turn < 0) = true := by simp; omega
    go_enter Try.func22, Try.ntmps22
    go_wp2
    go_ret
    exact ⟨by rw [E.out]; rfl, Below.refl _ _⟩
  have d1 : decide (turn < 0) = false := by simp; omega
  by_cases h2 : 1000 < key.size
  · have E : Hid (mixV key node turn = -1) := if_pos (Or.inr (Or.inr h2))
    have d2 : decide ((1000 : Int) < ((key.size : Nat) : Int)) = true := by simp; omega
    go_enter Try.func22, Try.ntmps22
    go_wp2
    go_ret
    exact ⟨by rw [E.out]; rfl, Below.refl _ _⟩
  have d2 : decide ((1000 : Int) < ((key.size : Nat) : Int)) = false := by simp; omega
  have E : Hid (mixV key node turn = mixX (sumOf (key ++ putNum node ++ putNum turn) 17)) := if_neg (by omega)
  have hs1 := putNum_size node
  have hs2 := putNum_size turn
  have P1 := fun w => hid (sput_all node hn w)
  have P2 := fun w => hid (sput_all turn ht w)
  obtain ⟨s1, e1⟩ : ∃ s, s = putNum node := ⟨_, rfl⟩
  obtain ⟨s2, e2⟩ : ∃ s, s = putNum turn := ⟨_, rfl⟩
  rw [← e1] at E hs1 P1
  rw [← e2] at E hs2 P2
  clear e1 e2 h0 h1
  have z1 : ¬ 9223372036854775807 < key.size + s1.size := by omega
  obtain ⟨k1, hk1⟩ : ∃ k, k = key ++ s1 := ⟨_, rfl⟩
  have zk1 : k1.size ≤ 1010 := by rw [hk1, ByteArray.size_append]; omega
  have z2 : ¬ 9223372036854775807 < k1.size + s2.size := by omega
  obtain ⟨k2, hk2⟩ : ∃ k, k = k1 ++ s2 := ⟨_, rfl⟩
  have zk2 : k2.size ≤ 1020 := by rw [hk2, ByteArray.size_append]; omega
  have q1 : key ++ s1 = k1 := hk1.symm
  have q2 : k1 ++ s2 = k2 := hk2.symm
  rw [q1, q2] at E
  clear hk1 hk2
  obtain ⟨x, hx⟩ : ∃ x, x = sumOf k2 17 := ⟨_, rfl⟩
  have hb := sumOf_bd k2 (by omega)
  rw [← hx] at hb E
  have SS := fun w => hid (ssum_all k2 17 (by decide) (by omega) w)
  rw [← hx] at SS
  clear hx
  obtain ⟨y, hy⟩ : ∃ y, y = x * 48271 % 2147483647 := ⟨_, rfl⟩
  have hyb : 0 ≤ y ∧ y < 2147483647 := by omega
  have y1 : (x * 48271).tmod 2147483647 = y := by rw [Int.tmod_eq_emod_of_nonneg (by omega)]; exact hy.symm
  have y2 : x * 48271 % 2147483647 = y := hy.symm
  have y3 : y.tdiv 65536 = y / 65536 := Int.tdiv_eq_ediv_of_nonneg (by omega)
  have E2 : Hid (mixV key node turn = bits .xor .i64 y (y / 65536)) := by show _ = _; rw [E.out]; unfold mixX; rw [← hy]
  clear hy E
  go_enter Try.func22, Try.ntmps22
  go_wp2_with fail
  refine (P1 _).out.mono ?_
  rintro e w1 ⟨rfl, hb1⟩
  go_wp2_with fail
  refine (P2 _).out.mono ?_
  rintro e w2 ⟨rfl, hb2⟩
  go_wp2_with fail
  refine (SS _).out.mono ?_
  rintro e w3 ⟨rfl, rfl⟩
  go_wp2
  go_ret
  exact ⟨by rw [E2.out]; rfl, hb1.trans (hb2.mono hb1.size)⟩
end Go.Proofs.Ytjeahllaajpddaa
