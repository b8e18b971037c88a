import Derived.Test.YteeadhcfippilaaDoorPut
namespace Go.Proofs.YteeadhcfippilaaDoor
open Go.RowKit
theorem putNum_size (n : Int) : (putNum n).size ≤ 9 := by
  unfold putNum
  split
  · decide
  · rw [strOfNums_size]; exact putL_length 8 _
def putText (s : ByteArray) : ByteArray := if 100000 < s.size then ByteArray.empty else putNum s.size ++ s

set_option maxHeartbeats 400000 in
theorem sptext_all (s : ByteArray) (hs : s.size ≤ 1048576) (w : World) :
    Calls Tryd.prog 19 #[.string s] w fun e w' => e = .returned (.string (putText s)) ∧ Below w.heap.size w w' := by
  unfold putText
  have hz := putNum_size s.size
  by_cases h : 100000 < s.size
  · rw [if_pos h]
    go_enter Tryd.func19, Tryd.ntmps19
    go_wp2
    go_ret
    exact ⟨rfl, Below.refl _ _⟩
  · rw [if_neg h]
    go_enter Tryd.func19, Tryd.ntmps19
    go_wp2_with fail
    refine (sput_all _ (by omega) _).mono ?_
    rintro e w1 ⟨rfl, hb1⟩
    go_wp2
    go_ret
    exact ⟨rfl, hb1⟩
set_option maxHeartbeats 400000 in
theorem iptext_all (s : ByteArray) (hs : s.size ≤ 1048576) (w : World) :
    Calls Tryd.prog 16 #[.string s] w fun e w' => e = .returned (.string (putText s)) ∧ Below w.heap.size w w' := by
  unfold putText
  have hz := putNum_size s.size
  by_cases h : 100000 < s.size
  · rw [if_pos h]
    go_enter Tryd.func16, Tryd.ntmps16
    go_wp2
    go_ret
    exact ⟨rfl, Below.refl _ _⟩
  · rw [if_neg h]
    go_enter Tryd.func16, Tryd.ntmps16
    go_wp2_with fail
    refine (iput_all _ (by omega) _).mono ?_
    rintro e w1 ⟨rfl, hb1⟩
    go_wp2
    go_ret
    exact ⟨rfl, hb1⟩
end Go.Proofs.YteeadhcfippilaaDoor
