import Derived.Test.YtokjfffcciddhaaGreatDoorLawNd
import Derived.Test.YtokjfffcciddhaaGreatDoorSMix
namespace Go.Proofs.YtokjfffcciddhaaGreatDoor
open Go.RowKit
/-! NodesFault and DiskScore. -/
/-- the nodes are right -/
def NdOk (n : Nat) (x y : Nat → Int) : Prop := 1 ≤ n ∧ n ≤ 200 ∧ ∀ i, i < n → 0 ≤ x i ∧ x i ≤ 200 ∧ 0 ≤ y i ∧ y i ≤ 64
instance (n : Nat) (x y : Nat → Int) : Decidable (NdOk n x y) := inferInstanceAs (Decidable (_ ∧ _ ∧ ∀ i, i < n → _))
def ndF (n : Nat) (x y : Nat → Int) : Int := if NdOk n x y then 0 else 1
/-- the greatest mix of the turns ahead of t -/
def best (key : ByteArray) (disk : Int) : Nat → Int
  | 0 => -1
  | t + 1 => if best key disk t < mixV key disk (t : Int) then mixV key disk (t : Int) else best key disk t
def scoreV (key : ByteArray) (n : Nat) (x y : Nat → Int) (disk : Int) : Int := if NdOk n x y ∧ 0 ≤ disk ∧ disk < n ∧ key.size ≤ 1000 then best key disk (y disk.toNat).toNat else -1
set_option maxRecDepth 20000 in
set_option maxHeartbeats 2000000 in
theorem sNodes (a : Option Addr) (n cap : Nat) (x y : Nat → Int) (hl : n ≤ 1048576) (w : World) (h : Prs w a n cap x y) :
    Calls Tryz.prog 31 #[.slice a n cap] w fun e w' => e = .returned (.int .i64 (ndF n x y)) ∧ w' = w := by
  by_cases h1 : n < 1
  · have E : Hid (ndF n x y = 1) := if_neg (fun q => by have := q.1; omega)
    have d0 : decide ((n : Int) < 1) = true := by simp; omega
    go_enter Tryz.func31, Tryz.ntmps31
    go_wp2
    go_ret
    exact ⟨by rw [E.out]; rfl, rfl⟩
  have d0 : decide ((n : Int) < 1) = false := by simp; omega
  by_cases h2 : 200 < n
  · have E : Hid (ndF n x y = 1) := if_neg (fun q => by have := q.2.1; omega)
    have d1 : decide ((200 : Int) < (n : Int)) = true := by simp; omega
    go_enter Tryz.func31, Tryz.ntmps31
    go_wp2
    go_ret
    exact ⟨by rw [E.out]; rfl, rfl⟩
  have d1 : decide ((200 : Int) < (n : Int)) = false := by simp; omega
  rcases h.2 with h00 | ⟨b, off, rfl, hbl, hc⟩
  · omega
  have HC := hid hc
  clear h hc
  go_enter Tryz.func31, Tryz.ntmps31
  go_wp2_with fail
  go_loopw [3] (fun q wr => ∃ k : Nat, k ≤ n ∧ q = .int .i64 k ∧ (∀ i, i < k → 0 ≤ x i ∧ x i ≤ 200 ∧ 0 ≤ y i ∧ y i ≤ 64) ∧ wr = w) (fun q _ => n - (intOf q).toNat)
  case atStart => exact ⟨0, Nat.zero_le _, rfl, fun i hi => absurd hi (by omega), rfl⟩
  case round =>
    obtain ⟨k, hk, rfl, hok, rfl⟩ := hrel
    have HOK := hid hok
    clear hok
    by_cases hlt : k < n
    · have hlt' : (k : Int) < (n : Int) := by omega
      have k0 : (0 : Int) ≤ (k : Int) := by omega
      obtain ⟨c0, c1⟩ := HC.out k hlt
      obtain ⟨X, hX⟩ : ∃ X, X = x k := ⟨_, rfl⟩
      obtain ⟨Y, hY⟩ : ∃ Y, Y = y k := ⟨_, rfl⟩
      rw [← hX] at c0
      rw [← hY] at c1
      have bad : ¬ (0 ≤ X ∧ X ≤ 200 ∧ 0 ≤ Y ∧ Y ≤ 64) → ndF n x y = 1 := fun q => if_neg (fun r => q (by rw [hX, hY]; exact r.2.2 k hlt))
      have BAD := hid bad
      have HX := hid hX
      have HY := hid hY
      clear bad hX hY
      by_cases g0 : X < 0
      · have E : Hid (ndF n x y = 1) := BAD.out (by omega)
        have q0 : decide (X < 0) = true := by simp; omega
        go_wp2
        go_ret
        exact ⟨by rw [E.out]; rfl, rfl⟩
      have q0 : decide (X < 0) = false := by simp; omega
      by_cases g1 : 200 < X
      · have E : Hid (ndF n x y = 1) := BAD.out (by omega)
        have q1 : decide (200 < X) = true := by simp; omega
        go_wp2
        go_ret
        exact ⟨by rw [E.out]; rfl, rfl⟩
      have q1 : decide (200 < X) = false := by simp; omega
      by_cases g2 : Y < 0
      · have E : Hid (ndF n x y = 1) := BAD.out (by omega)
        have q2 : decide (Y < 0) = true := by simp; omega
        go_wp2
        go_ret
        exact ⟨by rw [E.out]; rfl, rfl⟩
      have q2 : decide (Y < 0) = false := by simp; omega
      by_cases g3 : 64 < Y
      · have E : Hid (ndF n x y = 1) := BAD.out (by omega)
        have q3 : decide (64 < Y) = true := by simp; omega
        go_wp2
        go_ret
        exact ⟨by rw [E.out]; rfl, rfl⟩
      have q3 : decide (64 < Y) = false := by simp; omega
      have N1 : Hid (∀ i, i < k + 1 → 0 ≤ x i ∧ x i ≤ 200 ∧ 0 ≤ y i ∧ y i ≤ 64) := fun i hi => by
        by_cases e : i = k
        · rw [e, ← HX.out, ← HY.out]; omega
        · exact HOK.out i (by omega)
      go_wp2
      go_roundw
      case rel => exact ⟨k + 1, by omega, by go_num, N1.out, trivial⟩
      case measure => simp [intOf]; omega
    · have hlt' : ¬ (k : Int) < (n : Int) := by omega
      have hke : k = n := by omega
      have E : Hid (ndF n x y = 0) := if_pos ⟨by omega, by omega, by rw [← hke]; exact HOK.out⟩
      go_wp2
      go_ret
      exact ⟨by rw [E.out]; rfl, rfl⟩
end Go.Proofs.YtokjfffcciddhaaGreatDoor
