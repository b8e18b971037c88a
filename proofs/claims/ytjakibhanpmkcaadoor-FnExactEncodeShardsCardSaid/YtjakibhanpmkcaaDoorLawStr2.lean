import Derived.Test.YtjakibhanpmkcaaDoorLawStr
namespace Go.Proofs.YtjakibhanpmkcaaDoor
open Go.RowKit
/-- how many bytes there are together -/
def sumS (ts : Nat → ByteArray) : Nat → Nat
  | 0 => 0
  | n + 1 => sumS ts n + (ts n).size
theorem sumS_mono (ts : Nat → ByteArray) : ∀ {a b : Nat}, a ≤ b → sumS ts a ≤ sumS ts b
  | a, 0, h => by rw [Nat.le_zero.1 h]; exact Nat.le_refl _
  | a, b + 1, h => by
    rcases Nat.lt_or_ge a (b + 1) with h1 | h1
    · exact Nat.le_trans (sumS_mono ts (show a ≤ b by omega)) (Nat.le_add_right _ _)
    · rw [show a = b + 1 by omega]; exact Nat.le_refl _
theorem sumS_at (ts : Nat → ByteArray) {i n : Nat} (h : i < n) : (ts i).size ≤ sumS ts n := Nat.le_trans (Nat.le_add_left _ (sumS ts i)) (sumS_mono ts (show i + 1 ≤ n by omega))
def szV (len s : Nat) : Int := if len + s ≤ 1048576 then 1048576 - ((len + s : Nat) : Int) else -1
set_option maxRecDepth 20000 in
set_option maxHeartbeats 2000000 in
theorem szStr (a : Option Addr) (len cap : Nat) (ts : Nat → ByteArray) (hl : len ≤ 9223372036854775807) (hz : ∀ i, i < len → (ts i).size ≤ 9223372036854775807) (w : World) (h : Strs w a len cap ts) :
    Calls Tryd.prog 4 #[.slice a len cap, .int .i64 1048576] w fun e w' => e = .returned (.int .i64 (szV len (sumS ts len))) ∧ w' = w := by
  have HH := hid h
  have HZ := hid hz
  clear h hz
  by_cases hb : 1048576 < len
  · have E : Hid (szV len (sumS ts len) = -1) := if_neg (by omega)
    have d0 : (1048576 : Int) - (len : Int) < 0 := by omega
    go_enter Tryd.func4, Tryd.ntmps4
    go_wp2
    go_ret
    exact ⟨by rw [E.out]; rfl, rfl⟩
  have d0 : ¬ (1048576 : Int) - (len : Int) < 0 := by omega
  go_enter Tryd.func4, Tryd.ntmps4
  go_wp2_with fail
  go_loop [5, 1] (fun x y => ∃ (k : Nat), k ≤ len ∧ x = .int .i64 k ∧ y = .int .i64 (1048576 - ((len + sumS ts k : Nat) : Int)) ∧ len + sumS ts k ≤ 1048576) (fun x _ => len - (intOf x).toNat)
  case atStart => exact ⟨0, Nat.zero_le _, rfl, rfl, by show len + 0 ≤ _; omega⟩
  case round =>
    obtain ⟨k, hk, rfl, rfl, hs⟩ := hrel
    obtain ⟨S, hS⟩ : ∃ S, S = len + sumS ts k := ⟨_, rfl⟩
    rw [← hS] at hs ⊢
    by_cases hlt : k < len
    · have hlt' : (k : Int) < (len : Int) := by omega
      have k0 : (0 : Int) ≤ (k : Int) := by omega
      rcases HH.out.2 with h00 | ⟨b, off, rfl, hbl, hc⟩
      · omega
      have c1 := hc k hlt
      have hzk := HZ.out k hlt
      obtain ⟨t, ht⟩ : ∃ t, t = ts k := ⟨_, rfl⟩
      obtain ⟨z, hz⟩ : ∃ z, z = t.size := ⟨_, rfl⟩
      have NS : Hid (len + sumS ts (k + 1) = S + z) := by
        show len + (sumS ts k + (ts k).size) = _
        rw [hS, hz, ht]; omega
      have hzl : z ≤ 9223372036854775807 := by rw [hz, ht]; exact hzk
      rw [← ht] at c1
      have qk : t.size = z := hz.symm
      clear ht hz hc hzk
      by_cases hbz : S + z ≤ 1048576
      · have d1 : ¬ (1048576 : Int) - (S : Int) - (z : Int) < 0 := by omega
        have HS := hid hS
        clear hS
        go_wp2
        go_round
        case rel => exact ⟨k + 1, by omega, by go_num, by rw [NS.out]; congr 1; omega, by rw [NS.out]; exact hbz⟩
        case measure => simp [intOf]; omega
      · have d1 : (1048576 : Int) - (S : Int) - (z : Int) < 0 := by omega
        have hmo := sumS_mono ts (show k + 1 ≤ len by omega)
        have E : Hid (szV len (sumS ts len) = -1) := if_neg (by have := NS.out; omega)
        clear hS hmo
        go_wp2
        go_ret
        exact ⟨by rw [E.out]; rfl, rfl⟩
    · have hke : k = len := by omega
      have hlt' : ¬ (k : Int) < (len : Int) := by omega
      have E : Hid (szV len (sumS ts len) = 1048576 - (S : Int)) := by
        show _ = _
        rw [hke] at hS
        unfold szV; rw [← hS, if_pos hs]
      clear hke hS
      go_wp2
      go_ret
      exact ⟨by rw [E.out]; rfl, rfl⟩
theorem below_drewN9 {n : Nat} {w w' : World} (h : Below n w w') (m : Nat) : Below n w (w'.drewN m) := ⟨h.os, h.tape, h.output, h.size, h.block⟩
abbrev srv (k : Int) (a : Option Addr) (len cap : Nat) : Value := .agg #[.int .i64 k, .slice a len cap]
set_option maxRecDepth 20000 in
set_option maxHeartbeats 2000000 in
theorem eqSR (k : Int) (a : Option Addr) (len cap : Nat) (a' : Option Addr) (cap' : Nat) (ts ts' : Nat → ByteArray) (hl : len ≤ 1048576) (he : ∀ i, i < len → ts i = ts' i) (w : World) (h : Strs w a len cap ts) (h' : Strs w a' len cap' ts') :
    Calls Tryd.prog 9 #[srv k a len cap, srv k a' len cap'] w fun e w' => e = .returned (.bool true) ∧ Below w.heap.size w w' := by
  have B2 : Hid (Below w.heap.size w ((w.alloc (.cells #[.int .i64 k, .slice a len cap] 27)).alloc (.cells #[.int .i64 k, .slice a' len cap'] 27))) := bal9 (bal9 (Below.refl _ _) _) _
  have dk : (k != k) = false := by simp
  go_enter Tryd.func9, Tryd.ntmps9
  go_wp2_with fail
  refine (eqStr a len cap a' cap' ts ts' hl he _ (h.below B2.out) (h'.below B2.out)).mono ?_
  rintro e w1 ⟨rfl, q, rfl⟩
  have B3 : Hid (Below w.heap.size w (((w.alloc (.cells #[.int .i64 k, .slice a len cap] 27)).alloc (.cells #[.int .i64 k, .slice a' len cap'] 27)).drewN q)) := below_drewN9 B2.out q
  clear h h' he
  go_wp2
  go_ret
  exact ⟨rfl, B3.out⟩
set_option maxRecDepth 20000 in
set_option maxHeartbeats 2000000 in
theorem heldSR (k : Int) (a : Option Addr) (len cap : Nat) (M : Nat) (hM : M = 1 + len) (hl : len ≤ 1048576) (w : World) (h : Strs w a len cap (fun i => markB (1 + i))) :
    Calls Tryd.prog 13 #[srv k a len cap, .int .i64 1] w fun e w' => e = .returned (.int .i64 (M : Nat)) ∧ Below w.heap.size w w' := by
  have B1 : Hid (Below w.heap.size w (w.alloc (.cells #[.int .i64 k, .slice a len cap] 27))) := bal9 (Below.refl _ _) _
  go_enter Tryd.func13, Tryd.ntmps13
  go_wp2_with fail
  refine (heldStr a len cap 1 (by decide) hl (by decide) _ (h.below B1.out)).mono ?_
  rintro e w1 ⟨rfl, hb⟩
  have B2 : Hid (Below w.heap.size w w1) := B1.out.trans (hb.mono B1.out.size)
  rw [← hM]
  have dM : decide ((M : Int) < 0) = false := by simp
  clear hb h hM
  go_wp2
  go_ret
  exact ⟨rfl, B2.out⟩
set_option maxRecDepth 20000 in
set_option maxHeartbeats 2000000 in
theorem markSR (k : Int) (b len : Nat) (t : TypeId) (f : Nat → Value) (M : Nat) (hM : M = 1 + len) (hl : len ≤ 1048576) (w : World) (h : FRow w b t len f) :
    Calls Tryd.prog 12 #[srv k (some ⟨b, 0, none⟩) len len, .int .i64 1] w fun e w' => e = .returned (.int .i64 (M : Nat)) ∧ FRow w' b t len (fun i => .string (markB (1 + i))) ∧ w.grownBy w' (some b) := by
  go_enter Tryd.func12, Tryd.ntmps12
  go_wp2_with fail
  refine (markStr b len 1 t f (by decide) hl (by decide) _ (h.alloc _)).mono ?_
  rintro e w1 ⟨rfl, hF, hg⟩
  have F2 := hid hF
  have G2 := hid (grown_trans (World.grownBy_alloc w (.cells #[.int .i64 k, .slice (some ⟨b, 0, none⟩) len len] 27) (some b)) hg)
  rw [← hM]
  clear hF hg h hM
  go_wp2
  go_ret
  exact ⟨rfl, F2.out, G2.out⟩
set_option maxRecDepth 20000 in
set_option maxHeartbeats 2000000 in
theorem markSR0 (k : Int) (a : Option Addr) (cap : Nat) (w : World) :
    Calls Tryd.prog 12 #[srv k a 0 cap, .int .i64 1] w fun e w' => e = .returned (.int .i64 1) ∧ Below w.heap.size w w' := by
  go_enter Tryd.func12, Tryd.ntmps12
  go_wp2_with fail
  refine (markStr0 a cap 1 _).mono ?_
  rintro e w1 ⟨rfl, rfl⟩
  go_wp2
  go_ret
  exact ⟨rfl, bal9 (Below.refl _ _) _⟩
end Go.Proofs.YtjakibhanpmkcaaDoor
