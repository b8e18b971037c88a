import Derived.Test.YtokjfffcciddhaaGreatDoorSNodes
namespace Go.Proofs.YtokjfffcciddhaaGreatDoor
open Go.RowKit
/-! The program's own: keySum, mix, MixOf, scoreOf, NodesFault, DiskScore. -/
theorem sumL_append (s0 : Int) (a b : List UInt8) : sumL s0 (a ++ b) = sumL (sumL s0 a) b := by simp [sumL]
/-- the sum of a key -/
def kSum (key : ByteArray) : Int := sumL 18 key.data.toList
theorem kSum_bd (key : ByteArray) : 0 ≤ kSum key ∧ kSum key ≤ 2147483647 := sumL_bd _ _ (by decide) (by decide)
theorem bytes_append (a b : ByteArray) : (a ++ b).data.toList = a.data.toList ++ b.data.toList := by
  rw [ByteArray.data_append, Array.toList_append]
theorem mixV_eq (key : ByteArray) (node turn : Int) (hk : key.size ≤ 1000) (hn : 0 ≤ node) (ht : 0 ≤ turn) :
    mixV key node turn = mixX (sumL (sumL (kSum key) (putNum node).data.toList) (putNum turn).data.toList) := by
  have h1 := putNum_size node
  have h2 := putNum_size turn
  unfold mixV
  rw [if_neg (by omega)]
  unfold sumOf
  rw [if_neg (by simp only [ByteArray.size_append]; omega), bytes_append, bytes_append, sumL_append, sumL_append]
  rfl
end Go.Proofs.YtokjfffcciddhaaGreatDoor
namespace Go.Proofs.YtokjfffcciddhaaGreatDoor
open Go.RowKit
set_option maxRecDepth 20000 in
set_option maxHeartbeats 2000000 in
theorem iNodes (a : Option Addr) (n cap : Nat) (x y : Nat → Int) (hl : n ≤ 1048576) (w : World) (h : Prs w a n cap x y) :
    Calls Tryz.prog 44 #[.slice a n cap] w fun e w' => e = .returned (.int .i64 (ndF n x y)) ∧ Below w.heap.size w w' := by
  by_cases h1 : n < 1
  · have E : Hid (ndF n x y = 1) := if_neg (fun q => by have := q.1; omega)
    have d0 : decide ((n : Int) < 1) = true := by simp; omega
    go_enter Tryz.func44, Tryz.ntmps44
    go_wp2
    go_ret
    exact ⟨by rw [E.out]; rfl, Below.refl _ _⟩
  have d0 : decide ((n : Int) < 1) = false := by simp; omega
  by_cases h2 : 200 < n
  · have E : Hid (ndF n x y = 1) := if_neg (fun q => by have := q.2.1; omega)
    have d1 : decide ((200 : Int) < (n : Int)) = true := by simp; omega
    go_enter Tryz.func44, Tryz.ntmps44
    go_wp2
    go_ret
    exact ⟨by rw [E.out]; rfl, Below.refl _ _⟩
  have d1 : decide ((200 : Int) < (n : Int)) = false := by simp; omega
  rcases h.2 with h00 | ⟨b, off, rfl, hbl, hc⟩
  · omega
  have HC := hid hc
  clear h hc
  go_enter Tryz.func44, Tryz.ntmps44
  go_wp2_with fail
  go_loopw [15] (fun q wr => ∃ k : Nat, k ≤ n ∧ q = .int .i64 k ∧ (∀ i, i < k → 0 ≤ x i ∧ x i ≤ 200 ∧ 0 ≤ y i ∧ y i ≤ 64) ∧ Below w.heap.size w wr) (fun q _ => n - (intOf q).toNat)
  case atStart => exact ⟨0, Nat.zero_le _, rfl, fun i hi => absurd hi (by omega), Below.refl _ _⟩
  case round =>
    obtain ⟨k, hk, rfl, hok, hB⟩ := hrel
    have HOK := hid hok
    have HB := hid hB
    clear hok hB
    by_cases hlt : k < n
    · have hlt' : (k : Int) < (n : Int) := by omega
      have k0 : (0 : Int) ≤ (k : Int) := by omega
      obtain ⟨c0, c1⟩ := HC.out k hlt
      replace c0 := (HB.out.cell (p := ⟨b, off + k * 2, none⟩) hbl).trans c0
      replace c1 := (HB.out.cell (p := ⟨b, off + k * 2 + 1, none⟩) hbl).trans c1
      have B2 : Hid (∀ bl, Below w.heap.size w (wr.alloc bl)) := fun bl => HB.out.alloc HB.out.size _
      obtain ⟨X, hX⟩ : ∃ X, X = x k := ⟨_, rfl⟩
      obtain ⟨Y, hY⟩ : ∃ Y, Y = y k := ⟨_, rfl⟩
      rw [← hX] at c0
      rw [← hY] at c1
      have bad : ¬ (0 ≤ X ∧ X ≤ 200 ∧ 0 ≤ Y ∧ Y ≤ 64) → ndF n x y = 1 := fun q => if_neg (fun r => q (by rw [hX, hY]; exact r.2.2 k hlt))
      have BAD := hid bad
      have HX := hid hX
      have HY := hid hY
      clear bad hX hY
      by_cases g0 : X < 0
      · have E : Hid (ndF n x y = 1) := BAD.out (by omega)
        have q0 : decide (X < 0) = true := by simp; omega
        go_wp2
        go_ret
        exact ⟨by rw [E.out]; rfl, B2.out _⟩
      have q0 : decide (X < 0) = false := by simp; omega
      by_cases g1 : 200 < X
      · have E : Hid (ndF n x y = 1) := BAD.out (by omega)
        have q1 : decide (200 < X) = true := by simp; omega
        go_wp2
        go_ret
        exact ⟨by rw [E.out]; rfl, B2.out _⟩
      have q1 : decide (200 < X) = false := by simp; omega
      by_cases g2 : Y < 0
      · have E : Hid (ndF n x y = 1) := BAD.out (by omega)
        have q2 : decide (Y < 0) = true := by simp; omega
        go_wp2
        go_ret
        exact ⟨by rw [E.out]; rfl, B2.out _⟩
      have q2 : decide (Y < 0) = false := by simp; omega
      by_cases g3 : 64 < Y
      · have E : Hid (ndF n x y = 1) := BAD.out (by omega)
        have q3 : decide (64 < Y) = true := by simp; omega
        go_wp2
        go_ret
        exact ⟨by rw [E.out]; rfl, B2.out _⟩
      have q3 : decide (64 < Y) = false := by simp; omega
      have N1 : Hid (∀ i, i < k + 1 → 0 ≤ x i ∧ x i ≤ 200 ∧ 0 ≤ y i ∧ y i ≤ 64) := fun i hi => by
        by_cases e : i = k
        · rw [e, ← HX.out, ← HY.out]; omega
        · exact HOK.out i (by omega)
      go_wp2
      go_roundw
      case rel => exact ⟨k + 1, by omega, by go_num, N1.out, B2.out _⟩
      case measure => simp [intOf]; omega
    · have hlt' : ¬ (k : Int) < (n : Int) := by omega
      have hke : k = n := by omega
      have E : Hid (ndF n x y = 0) := if_pos ⟨by omega, by omega, by rw [← hke]; exact HOK.out⟩
      go_wp2
      go_ret
      exact ⟨by rw [E.out]; rfl, HB.out⟩
end Go.Proofs.YtokjfffcciddhaaGreatDoor
