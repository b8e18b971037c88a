import Derived.Test.YtjeahllaajpddaaLawNd
import Derived.Test.YtjeahllaajpddaaSMix
namespace Go.Proofs.Ytjeahllaajpddaa
open Go.RowKit
/-! NodesFault and DiskScore. -/
/-- the nodes are right -/
def NdOk (n : Nat) (x y : Nat → Int) : Prop := 1 ≤ n ∧ n ≤ 200 ∧ ∀ i, i < n → 0 ≤ x i ∧ x i ≤ 200 ∧ 0 ≤ y i ∧ y i ≤ 64
instance (n : Nat) (x y : Nat → Int) : Decidable (NdOk n x y) := inferInstanceAs (Decidable (_ ∧ _ ∧ ∀ i, i < n → _))
def ndF (n : Nat) (x y : Nat → Int) : Int := if NdOk n x y then 0 else 1
/-- the greatest mix of the turns ahead of t -/
def best (key : ByteArray) (disk : Int) : Nat → Int
  | 0 => -1
  | t + 1 => if best key disk t < mixV key disk (t : Int) then mixV key disk (t : Int) else best key disk t
def scoreV (key : ByteArray) (n : Nat) (x y : Nat → Int) (disk : Int) : Int := if NdOk n x y ∧ 0 ≤ disk ∧ disk < n ∧ key.size ≤ 1000 then best key disk (y disk.toNat).toNat else -1
set_option maxRecDepth 20000 in
set_option maxHeartbeats 2000000 in
theorem sNodes (a : Option Addr) (n cap : Nat) (x y : Nat → Int) (hl : n ≤ 1048576) (w : World) (h : Prs w a n cap x y) :
    Calls Try.prog 19 #[.slice a n cap] w fun e w' => e = .returned (.int .i64 (ndF n x y)) ∧ w' = w := by
  by_cases h1 : n < 1
  · have E : Hid (ndF n x y = 1) := if_neg (fun q => by have := q.1; omega)
    have d0 : decide ((n : Int) < 1) = true := by simp; omega
    go_enter Try.func19, Try.ntmps19
    go_wp2
    go_ret
    exact ⟨by rw [E.out]; rfl, rfl⟩
  have d0 : decide ((n : Int) < 1) = false := by simp; omega
  by_cases h2 : 200 < n
  · have E : Hid (ndF n x y = 1) := if_neg (fun q => by have := q.2.1; omega)
    have d1 : decide ((200 : Int) < (n : Int)) = true := by simp; omega
    go_enter Try.func19, Try.ntmps19
    go_wp2
    go_ret
    exact ⟨by rw [E.out]; rfl, rfl⟩
  have d1 : decide ((200 : Int) < (n : Int)) = false := by simp; omega
  rcases h.2 with h00 | ⟨b, off, rfl, hbl, hc⟩
  · omega
  have HC := hid hc
  clear h hc
  go_enter Try.func19, Try.ntmps19
  go_wp2_with fail
  go_loopw [3] (fun q wr => ∃ k : Nat, k ≤ n ∧ q = .int .i64 k ∧ (∀ i, i < k → 0 ≤ x i ∧ x i ≤ 200 ∧ 0 ≤ y i ∧ y i ≤ 64) ∧ wr = w) (fun q _ => n - (intOf q).toNat)
  case atStart => exact ⟨0, Nat.zero_le _, rfl, fun i hi => absurd hi (by omega), rfl⟩
  case round =>
    obtain ⟨k, hk, rfl, hok, rfl⟩ := hrel
    have HOK := hid hok
    clear hok
    by_cases hlt : k < n
    · have hlt' : (k : Int) < (n : Int) := by omega
      have k0 : (0 : Int) ≤ (k : Int) := by omega
      obtain ⟨c0, c1⟩ := HC.out k hlt
      obtain ⟨X, hX⟩ : ∃ X, X = x k := ⟨_, rfl⟩
      obtain ⟨Y, hY⟩ : ∃ Y, Y = y k := ⟨_, rfl⟩
      rw [← hX] at c0
      rw [← hY] at c1
      have bad : ¬ (0 ≤ X ∧ X ≤ 200 ∧ 0 ≤ Y ∧ Y ≤ 64) → ndF n x y = 1 := fun q => if_neg (fun r => q (by rw [hX, hY]; exact r.2.2 k hlt))
      have BAD := hid bad
      have HX := hid hX
      have HY := hid hY
      clear bad hX hY
      by_cases g0 : X < 0
      · have E : Hid (ndF n x y = 1) := BAD.out (by omega)
        have q0 : decide (X < 0) = true := by simp; omega
        go_wp2
        go_ret
        exact ⟨by rw [E.out]; rfl, rfl⟩
      have q0 : decide (X < 0) = false := by simp; omega
      by_cases g1 : 200 < X
      · have E : Hid (ndF n x y = 1) := BAD.out (by omega)
        have q1 : decide (200 < X) = true := by simp; omega
        go_wp2
        go_ret
        exact ⟨by rw [E.out]; rfl, rfl⟩
      have q1 : decide (200 < X) = false := by simp; omega
      by_cases g2 : Y < 0
      · have E : Hid (ndF n x y = 1) := BAD.out (by omega)
        have q2 : decide (Y < 0) = true := by simp; omega
        go_wp2
        go_ret
        exact ⟨by rw [E.out]; rfl, rfl⟩
      have q2 : decide (Y < 0) = false := by simp; omega
      by_cases g3 : 64 < Y
      · have E : Hid (ndF n x y = 1) := BAD.out (by omega)
        have q3 : decide (64 < Y) = true := by simp; omega
        go_wp2
        go_ret
        exact ⟨by rw [E.out]; rfl, rfl⟩
      have q3 : decide (64 < Y) = false := by simp; omega
      have N1 : Hid (∀ i, i < k + 1 → 0 ≤ x i ∧ x i ≤ 200 ∧ 0 ≤ y i ∧ y i ≤ 64) := fun i hi => by
        by_cases e : i = k
        · rw [e, ← HX.out, ← HY.out]; omega
        · exact HOK.out i (by omega)
      go_wp2
      go_roundw
      case rel => exact ⟨k + 1, by omega, by go_num, N1.out, trivial⟩
      case measure => simp [intOf]; omega
    · have hlt' : ¬ (k : Int) < (n : Int) := by omega
      have hke : k = n := by omega
      have E : Hid (ndF n x y = 0) := if_pos ⟨by omega, by omega, by rw [← hke]; exact HOK.out⟩
      go_wp2
      go_ret
      exact ⟨by rw [E.out]; rfl, rfl⟩
set_option maxRecDepth 20000 in
set_option maxHeartbeats 2000000 in
theorem sScore (a : Option Addr) (n cap : Nat) (x y : Nat → Int) (hl : n ≤ 200) (key : ByteArray) (hk : key.size ≤ 1048576) (disk : Nat) (hd : disk < n) (hy : 0 ≤ y disk ∧ y disk ≤ 64) (w : World) (h : Prs w a n cap x y) :
    Calls Try.prog 39 #[.slice a n cap, .string key, .int .i64 (disk : Int)] w fun e w' => e = .returned (.int .i64 (best key disk (y disk).toNat)) ∧ Below w.heap.size w w' := by
  rcases h.2 with h00 | ⟨b, off, rfl, hbl, hc⟩
  · omega
  obtain ⟨c0, c1⟩ := hc disk hd
  obtain ⟨W, hW⟩ := Int.eq_ofNat_of_zero_le hy.1
  rw [hW] at c1 hy ⊢
  rw [Int.toNat_natCast]
  have hW64 : W ≤ 64 := by omega
  have hd' : (disk : Int) < (n : Int) := by omega
  have hd0 : (0 : Int) ≤ (disk : Int) := by omega
  have C1 := hid c1
  clear h hc c0 c1 hW hy
  go_enter Try.func39, Try.ntmps39
  go_wp2_with fail
  go_loopw [8, 7] (fun q r wr => ∃ t : Nat, t ≤ W ∧ q = .int .i64 (t : Int) ∧ r = .int .i64 (best key disk t) ∧ Below w.heap.size w wr) (fun q _ _ => W - (intOf q).toNat)
  case atStart => exact ⟨0, Nat.zero_le _, rfl, rfl, Below.refl _ _⟩
  case round =>
    obtain ⟨t, ht, rfl, rfl, hB⟩ := hrel
    have HB := hid hB
    have c1 : wr.cell? ⟨b, off + disk * 2 + 1, none⟩ = some (.int .i64 (W : Int)) := (hB.cell (p := ⟨b, off + disk * 2 + 1, none⟩) hbl).trans C1.out
    clear hB
    by_cases hlt : t < W
    · have hlt' : (t : Int) < (W : Int) := by omega
      have MX := hid (sMix key disk t hk (by omega) (by omega) wr)
      obtain ⟨m, hm⟩ : ∃ m, m = mixV key disk (t : Int) := ⟨_, rfl⟩
      obtain ⟨B, hBB⟩ : ∃ B, B = best key disk t := ⟨_, rfl⟩
      have SU : Hid (best key disk (t + 1) = if B < m then m else B) := by rw [hm, hBB]; rfl
      rw [← hm] at MX
      rw [← hBB]
      clear hm hBB
      go_wp2_with fail
      refine MX.out.mono ?_
      rintro e w2 ⟨rfl, hb2⟩
      have B2 : Hid (Below w.heap.size w w2) := HB.out.trans (hb2.mono HB.out.size)
      clear MX hb2 c1
      by_cases hbm : B < m
      · have SU2 : Hid (best key disk (t + 1) = m) := by show _ = _; rw [SU.out, if_pos hbm]
        go_wp2
        go_roundw
        case rel => exact ⟨t + 1, hlt, by go_num, by rw [SU2.out], B2.out⟩
        case measure => simp [intOf]; omega
      · have SU2 : Hid (best key disk (t + 1) = B) := by show _ = _; rw [SU.out, if_neg hbm]
        go_wp2
        go_roundw
        case rel => exact ⟨t + 1, hlt, by go_num, by rw [SU2.out], B2.out⟩
        case measure => simp [intOf]; omega
    · have hlt' : ¬ (t : Int) < (W : Int) := by omega
      obtain rfl : t = W := by omega
      go_wp2
      go_ret
      exact ⟨rfl, HB.out⟩
set_option maxRecDepth 20000 in
set_option maxHeartbeats 2000000 in
theorem sDisk (a : Option Addr) (n cap : Nat) (x y : Nat → Int) (hl : n ≤ 1048576) (key : ByteArray) (hk : key.size ≤ 1048576) (disk : Int) (w : World) (h : Prs w a n cap x y) :
    Calls Try.prog 25 #[.slice a n cap, .string key, .int .i64 disk] w fun e w' => e = .returned (.int .i64 (scoreV key n x y disk)) ∧ Below w.heap.size w w' := by
  have NF := hid (sNodes a n cap x y hl w h)
  have HH := hid h
  clear h
  by_cases hok : NdOk n x y
  · have F : Hid (ndF n x y = 0) := if_pos hok
    rw [F.out] at NF
    by_cases g0 : disk < 0
    · have E : Hid (scoreV key n x y disk = -1) := if_neg (by omega)
      have q0 : decide (disk < 0) = true := by simp; omega
      go_enter Try.func25, Try.ntmps25
      go_wp2_with fail
      refine NF.out.mono ?_
      rintro e w1 ⟨rfl, rfl⟩
      go_wp2
      go_ret
      exact ⟨by rw [E.out]; rfl, Below.refl _ _⟩
    have q0 : decide (disk < 0) = false := by simp; omega
    by_cases g1 : (n : Int) ≤ disk
    · have E : Hid (scoreV key n x y disk = -1) := if_neg (by omega)
      have q1 : decide ((n : Int) ≤ disk) = true := by simp; omega
      go_enter Try.func25, Try.ntmps25
      go_wp2_with fail
      refine NF.out.mono ?_
      rintro e w1 ⟨rfl, rfl⟩
      go_wp2
      go_ret
      exact ⟨by rw [E.out]; rfl, Below.refl _ _⟩
    have q1 : decide ((n : Int) ≤ disk) = false := by simp; omega
    by_cases g2 : 1000 < key.size
    · have E : Hid (scoreV key n x y disk = -1) := if_neg (by omega)
      have q2 : decide ((1000 : Int) < ((key.size : Nat) : Int)) = true := by simp; omega
      go_enter Try.func25, Try.ntmps25
      go_wp2_with fail
      refine NF.out.mono ?_
      rintro e w1 ⟨rfl, rfl⟩
      go_wp2
      go_ret
      exact ⟨by rw [E.out]; rfl, Below.refl _ _⟩
    have q2 : decide ((1000 : Int) < ((key.size : Nat) : Int)) = false := by simp; omega
    obtain ⟨dk, rfl⟩ := Int.eq_ofNat_of_zero_le (show 0 ≤ disk by omega)
    have E : Hid (scoreV key n x y dk = best key dk (y dk).toNat) := by
      show _ = _
      unfold scoreV
      rw [if_pos ⟨hok, by omega, by omega, by omega⟩, Int.toNat_natCast]
    obtain ⟨_, o2, o3⟩ := hok
    have SC := hid (sScore a n cap x y (by omega) key hk dk (by omega) (by have := o3 dk (by omega); omega) w HH.out)
    clear o2 o3
    go_enter Try.func25, Try.ntmps25
    go_wp2_with fail
    refine NF.out.mono ?_
    rintro e w1 ⟨rfl, rfl⟩
    go_wp2_with fail
    refine SC.out.mono ?_
    rintro e w2 ⟨rfl, hb2⟩
    go_wp2
    go_ret
    exact ⟨by rw [E.out]; rfl, hb2⟩
  · have F : Hid (ndF n x y = 1) := if_neg hok
    have E : Hid (scoreV key n x y disk = -1) := if_neg (fun q => hok q.1)
    rw [F.out] at NF
    go_enter Try.func25, Try.ntmps25
    go_wp2_with fail
    refine NF.out.mono ?_
    rintro e w1 ⟨rfl, rfl⟩
    go_wp2
    go_ret
    exact ⟨by rw [E.out]; rfl, Below.refl _ _⟩
end Go.Proofs.Ytjeahllaajpddaa
