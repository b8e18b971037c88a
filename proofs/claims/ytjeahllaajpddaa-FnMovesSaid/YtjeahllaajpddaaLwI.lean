import Derived.Test.YtjeahllaajpddaaLawInts
import Derived.BigQuiet
namespace Go.Proofs.Ytjeahllaajpddaa
open Go.RowKit
set_option maxRecDepth 20000 in
set_option maxHeartbeats 1000000 in
theorem lwInts_eq (a : Option Addr) (len cap : Nat) (a' : Option Addr) (len' cap' : Nat) (xs : List Int) (w : World) (h : Ints .i64 w a len cap xs) (h' : Ints .i64 w a' len' cap' xs) (hl : xs.length ≤ 1048576) :
    Calls Try.prog 17 #[.slice a len cap, .slice a' len' cap'] w fun e w' => e = .returned (.bool true) ∧ Below w.heap.size w w' := by
  have hx := h.1
  have hx' := h'.1
  have e1 : len' = len := by omega
  subst e1
  have d0 : ((len' : Int) != (len' : Int)) = false := by simp
  go_enter Try.func17, Try.ntmps17
  go_wp2
  go_loopw [5] (fun y wr => ∃ (k : Nat), k ≤ len' ∧ y = .int .i64 k ∧ Below w.heap.size w wr) (fun y _ => len' - (intOf y).toNat)
  case atStart => exact ⟨0, Nat.zero_le _, rfl, Below.refl _ _⟩
  case round =>
    obtain ⟨k, hk, rfl, hb⟩ := hrel
    by_cases hlt : k < len'
    · rcases h.2.2 with h00 | ⟨b, off, rfl, hbl, hc⟩
      · omega
      · rcases h'.2.2 with h01 | ⟨b', off', rfl, hbl', hc'⟩
        · omega
        · have c1 : wr.cell? ⟨b, off + k, none⟩ = some (.int .i64 (xs.getD k 0)) := (hb.cell (p := ⟨b, off + k, none⟩) hbl).trans (hc k hlt)
          have c2 : wr.cell? ⟨b', off' + k, none⟩ = some (.int .i64 (xs.getD k 0)) := (hb.cell (p := ⟨b', off' + k, none⟩) hbl').trans (hc' k hlt)
          have hlt' : (k : Int) < (len' : Int) := by omega
          have i0 : (0 : Int) ≤ (k : Int) := by omega
          obtain ⟨x, hx2⟩ : ∃ x, x = xs.getD k 0 := ⟨_, rfl⟩
          rw [← hx2] at c1 c2
          clear hx2
          go_wp2_with fail
          go_quiet (fail)
          go_wp2
          go_roundw
          case rel => exact ⟨k + 1, by omega, by go_num, below_drewN' hb nq⟩
          case measure => simp [intOf]; omega
    · go_wp2
      go_ret
      exact ⟨rfl, hb⟩
end Go.Proofs.Ytjeahllaajpddaa
