import Derived.Test.YteimhnklebppkaaPut
import Derived.Deep.RegionHeld3
import Derived.Deep.DrawnRows
import Derived.Deep.RegionLaw
namespace Go.Proofs.Yteimhnklebppkaa
open Go.RowKit
def hexd (n : Nat) : Int := if n < 10 then 48 + n else 87 + n
def hexByte (c : UInt8) : List Int := [hexd (c.toNat / 16), hexd (c.toNat % 16)]
def hexL (l : List UInt8) : List Int := l.flatMap hexByte
theorem hexL_snoc (l : List UInt8) (c : UInt8) : hexL (l ++ [c]) = hexL l ++ hexByte c := by simp [hexL]
theorem hexL_len (l : List UInt8) : (hexL l).length = 2 * l.length := by
  induction l with
  | nil => rfl
  | cons c l ih => simp [hexL, hexByte] at ih ⊢; omega
theorem take_snoc' (s : ByteArray) (k : Nat) (h : k < s.size) : s.data.toList.take (k + 1) = s.data.toList.take k ++ [s[k]] := by
  rw [List.take_succ_eq_append_getElem (by simpa using h)]; rfl

def digs : ByteArray := { data := #[48, 49, 50, 51, 52, 53, 54, 55, 56, 57, 97, 98, 99, 100, 101, 102] }
theorem ix_digs (n : Nat) (h : n < 16) (x : Int) (hx : x = (n : Int)) (w : World) : (Instr.index 9 (.string { data := #[48, 49, 50, 51, 52, 53, 54, 55, 56, 57, 97, 98, 99, 100, 101, 102] }) (.int .u8 x)).run Try.prog w = .ok (.int .u8 (hexd n)) w := by
  subst hx
  rcases (by omega : n = 0 ∨ n = 1 ∨ n = 2 ∨ n = 3 ∨ n = 4 ∨ n = 5 ∨ n = 6 ∨ n = 7 ∨ n = 8 ∨ n = 9 ∨ n = 10 ∨ n = 11 ∨ n = 12 ∨ n = 13 ∨ n = 14 ∨ n = 15) with rfl | rfl | rfl | rfl | rfl | rfl | rfl | rfl | rfl | rfl | rfl | rfl | rfl | rfl | rfl | rfl <;> kernel_rfl

set_option maxRecDepth 20000 in
set_option maxHeartbeats 1000000 in
theorem ihex_any (s : ByteArray) (hs : s.size ≤ 100000) (w : World) :
    Calls Try.prog 12 #[.string s] w fun e w' => e = .returned (.string (strOfNums (hexL s.data.toList))) ∧ Below w.heap.size w w' := by
  have d1 : decide (100000 < (s.size : Int)) = false := by simp; omega
  go_enter Try.func12, Try.ntmps12
  go_wp2_with (first | (at_make; refine make_nums w w rfl (.const (.int .i64 0)) (.tmp 10) 22 rfl 5 .u8 1 Try.underlying22 Try.info5 (by decide) .i64 .i64 (2 * (s.size : Int)) (2 * s.size) rfl rfl (by omega) (by omega) (Below.refl _ _) ?_) | go_in)
  intro w0 hown0 hbel0
  go_wp2
  go_loopw [3, 14] (fun v i wr => ∃ k : Nat, k ≤ s.size ∧ i = .int .i64 k ∧ OwnNums wr w.heap.size 5 .u8 v (hexL (s.data.toList.take k)) ∧ Below w.heap.size w wr) (fun _ i _ => s.size - (intOf i).toNat)
  case atStart => exact ⟨0, Nat.zero_le _, rfl, hown0, hbel0⟩
  case round =>
    obtain ⟨k, hk, rfl, hown, hbel⟩ := hrel
    by_cases hlt : k < s.size
    · have i0 : (0 : Int) ≤ (k : Int) := by omega
      have i1 : (k : Int) < (s.size : Int) := by omega
      have c0 : 0 ≤ (s[k].toNat : Int) := by omega
      have c1 : (s[k].toNat : Int) < 256 := by have := s[k].toNat_lt; omega
      have e1 := fun wx => ix_digs (s[k].toNat / 16) (by omega) (↑s[k].toNat / 16) (by omega) wx
      have e2 := fun wx => ix_digs (s[k].toNat % 16) (by omega) (bits .and .u8 (↑s[k].toNat) 15) (by rw [show (15 : Int) = ((15 : Nat) : Int) from rfl, u8_and_nat _ _ (by omega) (by omega), nat_mask4]) wx
      have hl : (hexL (s.data.toList.take k)).length ≤ 200000 := by
        have h1 := hexL_len (s.data.toList.take k)
        have h2 : (s.data.toList.take k).length ≤ k := List.length_take_le _ _
        omega
      have HS : Hid (hexL (s.data.toList.take (k + 1)) = hexL (s.data.toList.take k) ++ hexByte s[k]) := by
        rw [take_snoc' s k hlt]; exact hexL_snoc _ _
      go_wp2_with fail
      go_region_held3 (fun _ => True) (trivial) ((refine step_append_nums w _ (by rfl) _ _ 22 (by rfl) 5 .u8 1 Try.underlying22 Try.info5 (by decide) _ (hexL (s.data.toList.take k)) [hexd (s[k].toNat / 16), hexd (s[k].toNat % 16)] (by rfl) ((hown.alloc _).drew) ((hbel.alloc hbel.size _).drew) wr.heap.size 2 (by exact heap_alloc_new wr _) (by rfl) rfl (by decide) (by omega) ?_; intro g cap w1 hown1 hbel1))
      all_goals go_wp2
      all_goals
        go_roundw
        case rel => exact ⟨k + 1, by omega, by go_num, by rw [HS.out]; exact hown1, hbel1⟩
        case measure => simp [intOf]; omega
    · have hcv := conv_owned wr 22 5 9 Try.underlying22 Try.underlying5 Try.underlying9 hown
      have HE : Hid (s.data.toList.take k = s.data.toList) := List.take_of_length_le (by simp; omega)
      go_wp2
      go_ret
      exact ⟨by rw [HE.out]; rfl, hbel⟩
end Go.Proofs.Yteimhnklebppkaa
