import Derived.Test.YtjacjcbcccbjoaaDoorEncS
import Derived.Test.YtjacjcbcccbjoaaDoorLawStr
namespace Go.Proofs.YtjacjcbcccbjoaaDoor
open Go.RowKit
/-- the one length, or -1 -/
def lenV (ts : Nat → ByteArray) (n : Nat) : Int := if Fits ts n then ((ts 0).size : Int) else -1
set_option maxRecDepth 20000 in
set_option maxHeartbeats 4000000 in
theorem slen (sg so n cp cb : Nat) (ts : Nat → ByteArray) (hn1 : 1 ≤ n) (hn : n ≤ 1048576) (hz : ∀ i, i < n → (ts i).size ≤ 1048576) (w : World) (hS : ∀ i, i < n → w.cell? ⟨sg, so + i, none⟩ = some (.string (ts i))) (hC : ∀ i, i < n → w.cell? ⟨cb, i, none⟩ = some (.bool true)) :
    Calls Tryd.prog 19 #[.slice (some ⟨sg, so, none⟩) n cp, .slice (some ⟨cb, 0, none⟩) n n] w fun e w' => e = .returned (.int .i64 (lenV ts n)) ∧ w' = w := by
  have HS := hid hS
  have HC := hid hC
  have HZ := hid hz
  clear hS hC hz
  go_enter Tryd.func19, Tryd.ntmps19
  go_wp2
  go_loop [6, 5] (fun x y => ∃ k : Nat, k ≤ n ∧ x = .int .i64 k ∧ y = .int .i64 (if k = 0 then -1 else ((ts 0).size : Int)) ∧ ∀ i, i < k → 1 ≤ (ts i).size ∧ (ts i).size ≤ 4096 ∧ (ts i).size = (ts 0).size) (fun x _ => n - (intOf x).toNat)
  case atStart => exact ⟨0, Nat.zero_le _, rfl, rfl, fun i hi => absurd hi (Nat.not_lt_zero _)⟩
  case round =>
    obtain ⟨k, hk, rfl, rfl, hall⟩ := hrel
    have HA := hid hall
    clear hall
    obtain ⟨N, hN⟩ : ∃ N : Int, N = (if k = 0 then -1 else ((ts 0).size : Int)) := ⟨_, rfl⟩
    rw [← hN]
    by_cases hlt : k < n
    · have hlt' : (k : Int) < (n : Int) := by omega
      have k0 : (0 : Int) ≤ (k : Int) := by omega
      have sk := HS.out k hlt
      have ck := HC.out k hlt
      obtain ⟨t, ht⟩ : ∃ t, t = ts k := ⟨_, rfl⟩
      obtain ⟨z, hz⟩ : ∃ z, z = t.size := ⟨_, rfl⟩
      have hzl : z ≤ 1048576 := by rw [hz, ht]; exact HZ.out k hlt
      have HTK : Hid ((ts k).size = z) := by show _ = _; rw [hz, ht]
      rw [← ht] at sk
      have qk : t.size = z := hz.symm
      clear ht hz
      obtain ⟨z0, hz0⟩ : ∃ z0, z0 = (ts 0).size := ⟨_, rfl⟩
      have hz0l : z0 ≤ 1048576 := by rw [hz0]; exact HZ.out 0 (by omega)
      rw [← hz0] at hN
      have bad : ¬ (1 ≤ z ∧ z ≤ 4096 ∧ z = z0) → Hid (lenV ts n = -1) := fun h => by
        refine if_neg fun hf => h ?_
        have h9 := hf k hlt
        rw [HTK.out, ← hz0] at h9
        exact h9
      have NX : k = 0 → z = z0 := fun e => by rw [hz0, ← HTK.out, e]
      have HZ0 := hid hz0
      clear hz0
      by_cases c3 : z = z0
      · have c3' : ((z : Int) != N) = true ∧ ¬ (0 : Int) ≤ N ∨ ((z : Int) != N) = false := by
          rcases Nat.eq_zero_or_pos k with e | e
          · left; rw [hN, if_pos e]
            refine ⟨bne_iff_ne.2 (by omega), by omega⟩
          · right; rw [hN, if_neg (by omega), c3]; exact bne_self_eq_false _
        by_cases c1 : z < 1
        · have E := bad (by omega)
          have c1' : (z : Int) < 1 := by omega
          clear bad hN NX c3
          rcases c3' with ⟨u1, u2⟩ | u1
          · go_wp2
            go_ret
            exact ⟨by rw [E.out]; rfl, rfl⟩
          · by_cases u2 : (0 : Int) ≤ N
            · go_wp2
              go_ret
              exact ⟨by rw [E.out]; rfl, rfl⟩
            · go_wp2
              go_ret
              exact ⟨by rw [E.out]; rfl, rfl⟩
        have c1' : ¬ (z : Int) < 1 := by omega
        by_cases c2 : 4096 < z
        · have E := bad (by omega)
          have c2' : (4096 : Int) < (z : Int) := by omega
          clear bad hN NX c3
          rcases c3' with ⟨u1, u2⟩ | u1
          · go_wp2
            go_ret
            exact ⟨by rw [E.out]; rfl, rfl⟩
          · by_cases u2 : (0 : Int) ≤ N
            · go_wp2
              go_ret
              exact ⟨by rw [E.out]; rfl, rfl⟩
            · go_wp2
              go_ret
              exact ⟨by rw [E.out]; rfl, rfl⟩
        have c2' : ¬ (4096 : Int) < (z : Int) := by omega
        have HA' : Hid (∀ i, i < k + 1 → 1 ≤ (ts i).size ∧ (ts i).size ≤ 4096 ∧ (ts i).size = (ts 0).size) := fun i hi => by
          by_cases e : i = k
          · rw [e, HTK.out, ← HZ0.out]; omega
          · exact HA.out i (by omega)
        have NV : Hid (Value.int .i64 (z : Int) = Value.int .i64 (if k + 1 = 0 then -1 else ((ts 0).size : Int))) := by show _ = _; rw [if_neg (by omega), ← HZ0.out, c3]
        clear bad hN NX c3
        rcases c3' with ⟨u1, u2⟩ | u1
        · go_wp2
          go_round
          case rel => exact ⟨k + 1, by omega, by go_num, NV.out, HA'.out⟩
          case measure => simp [intOf]; omega
        · by_cases u2 : (0 : Int) ≤ N
          · go_wp2
            go_round
            case rel => exact ⟨k + 1, by omega, by go_num, NV.out, HA'.out⟩
            case measure => simp [intOf]; omega
          · go_wp2
            go_round
            case rel => exact ⟨k + 1, by omega, by go_num, NV.out, HA'.out⟩
            case measure => simp [intOf]; omega
      · have hkp : 0 < k := Nat.pos_of_ne_zero fun e => c3 (NX e)
        have E := bad (by omega)
        have u1 : ((z : Int) != N) = true := by rw [hN, if_neg (by omega)]; simp; omega
        have u2 : (0 : Int) ≤ N := by rw [hN, if_neg (by omega)]; omega
        clear bad hN NX c3
        go_wp2
        go_ret
        exact ⟨by rw [E.out]; rfl, rfl⟩
    · have hke : k = n := by omega
      have E : Hid (lenV ts n = N) := by
        show _ = _
        unfold lenV
        rw [if_pos (show Fits ts n from fun i hi => HA.out i (by omega)), hN, if_neg (by omega)]
      have hlt' : ¬ (k : Int) < (n : Int) := by omega
      clear hN hke
      go_wp2
      go_ret
      exact ⟨by rw [E.out]; rfl, rfl⟩
end Go.Proofs.YtjacjcbcccbjoaaDoor
