import Derived.Test.YtjeahllaajpddaaSNodes
namespace Go.Proofs.Ytjeahllaajpddaa
open Go.RowKit
/-! The program's own: keySum, mix, MixOf, scoreOf, NodesFault, DiskScore. -/
theorem sumL_append (s0 : Int) (a b : List UInt8) : sumL s0 (a ++ b) = sumL (sumL s0 a) b := by simp [sumL]
/-- the sum of a key -/
def kSum (key : ByteArray) : Int := sumL 18 key.data.toList
theorem kSum_bd (key : ByteArray) : 0 ≤ kSum key ∧ kSum key ≤ 2147483647 := sumL_bd _ _ (by decide) (by decide)
theorem bytes_append (a b : ByteArray) : (a ++ b).data.toList = a.data.toList ++ b.data.toList := by
  rw [ByteArray.data_append, Array.toList_append]
theorem mixV_eq (key : ByteArray) (node turn : Int) (hk : key.size ≤ 1000) (hn : 0 ≤ node) (ht : 0 ≤ turn) :
    mixV key node turn = mixX (sumL (sumL (kSum key) (putNum node).data.toList) (putNum turn).data.toList) := by
  have h1 := putNum_size node
  have h2 := putNum_size turn
  unfold mixV
  rw [if_neg (by omega)]
  unfold sumOf
  rw [if_neg (by simp only [ByteArray.size_append]; omega), bytes_append, bytes_append, sumL_append, sumL_append]
  rfl
theorem iKeySum (key : ByteArray) (hk : key.size ≤ 400000) (w : World) :
    Calls Try.prog 42 #[.string key] w fun e w' => e = .returned (.int .i64 (kSum key)) ∧ w' = w := by
  have F := fun w => hid (ifirstSum 17 (by decide) (by decide) w)
  have S := fun w => hid (isumOn 18 key (by decide) (by decide) hk w)
  go_enter Try.func42, Try.ntmps42
  go_wp2_with fail
  refine (F _).out.mono ?_
  rintro e w1 ⟨rfl, rfl⟩
  go_wp2_with fail
  refine (S _).out.mono ?_
  rintro e w2 ⟨rfl, rfl⟩
  go_wp2
  go_ret
  exact ⟨rfl, rfl⟩
set_option maxRecDepth 20000 in
theorem iMixX (x : Int) (h0 : 0 ≤ x) (h1 : x ≤ 2147483647) (w : World) :
    Calls Try.prog 45 #[.int .i64 x] w fun e w' => e = .returned (.int .i64 (mixX x)) ∧ w' = w := by
  obtain ⟨y, hy⟩ : ∃ y, y = x * 48271 % 2147483647 := ⟨_, rfl⟩
  have hyb : 0 ≤ y ∧ y < 2147483647 := by omega
  have y1 : (x * 48271).tmod 2147483647 = y := by rw [Int.tmod_eq_emod_of_nonneg (by omega)]; exact hy.symm
  have y2 : x * 48271 % 2147483647 = y := hy.symm
  have E2 : Hid (mixX x = bits .xor .i64 y (y / 65536)) := by show _ = _; unfold mixX; rw [← hy]
  clear hy
  go_enter Try.func45, Try.ntmps45
  go_wp2
  go_ret
  exact ⟨by rw [E2.out]; rfl, rfl⟩
end Go.Proofs.Ytjeahllaajpddaa
