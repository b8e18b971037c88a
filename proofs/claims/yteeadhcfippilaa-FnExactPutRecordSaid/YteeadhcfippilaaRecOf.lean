import Derived.Test.YteeadhcfippilaaSRec
namespace Go.Proofs.Yteeadhcfippilaa
open Go.RowKit
set_option maxRecDepth 20000 in
set_option maxHeartbeats 400000 in
theorem fnExactPutRecord_of (key : ByteArray) (gone : Bool) (data : ByteArray) (hk0 : key.size ≤ 9223372036854775807) (hd0 : data.size ≤ 9223372036854775807)
    (HI : ∀ w : World, key.size ≤ 1048576 → data.size ≤ 1048576 → Calls Try.prog 5 #[.string key, .bool gone, .string data] w fun e w' => e = .returned (.string (recV key gone data)) ∧ Below w.heap.size w w') (w : World) :
    Calls Try.prog 3 #[.string key, .bool gone, .string data] w fun e w' => e = .returned (.bool true) ∧ Below w.heap.size w w' := by
  by_cases hk : key.size ≤ 1048576
  · by_cases hd : data.size ≤ 1048576
    · have S := fun w => hid (sPutRec key gone data hk hd w)
      have I := fun w => hid (HI w hk hd)
      obtain ⟨r, hr⟩ : ∃ r, r = recV key gone data := ⟨_, rfl⟩
      rw [← hr] at S I
      clear hr HI
      go_enter Try.func3, Try.ntmps3
      go_wp2_with fail
      refine (S _).out.mono ?_
      rintro e w1 ⟨rfl, hb1⟩
      go_wp2_with fail
      refine (I _).out.mono ?_
      rintro e w2 ⟨rfl, hb2⟩
      go_wp2
      go_ret
      exact ⟨rfl, hb1.trans (hb2.mono hb1.size)⟩
    · go_enter Try.func3, Try.ntmps3
      go_wp2_with fail
      go_ret
      exact ⟨rfl, Below.refl _ _⟩
  · go_enter Try.func3, Try.ntmps3
    go_wp2_with fail
    go_ret
    exact ⟨rfl, Below.refl _ _⟩
end Go.Proofs.Yteeadhcfippilaa
