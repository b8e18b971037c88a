import Derived.Test.YthdmaamocejodaaDoorProg
import Derived.Test.YthdmaamocejodaaDoorRows1
import Derived.Test.YthdmaamocejodaaDoorBase
import Derived.WalkLawsBesides
import Derived.WalkSpells
import Derived.OpenShut
import Derived.BigQuiet
import Derived.Deep.QuietTactic
import Derived.Deep.RegionHeld3
import Derived.Deep.RegionWith
namespace Go.Proofs.YthdmaamocejodaaDoor
open Go.RowKit
/-! Codes: what CodeFault and CodeSize answer. -/
abbrev cda (k m g : Int) : Array Value := #[.int .i64 k, .int .i64 m, .int .i64 g]
abbrev cdv (k m g : Int) : Value := .agg (cda k m g)
theorem bal {n : Nat} {w w' : World} (h : Below n w w') (o : Obj) (hn : n ≤ w.heap.size) : Below n w (w'.alloc o) := h.alloc (Nat.le_trans hn h.size) o
def cfault (k m g : Int) : Int := if 1 ≤ k ∧ k ≤ 32 ∧ 0 ≤ m ∧ m ≤ 16 ∧ 0 ≤ g ∧ g ≤ k ∧ k + m + g ≤ 64 then 0 else 1
def csize (k m g : Int) : Int := if cfault k m g = 0 then k + m + g else 0
theorem cfault_01 (k m g : Int) : cfault k m g = 0 ∨ cfault k m g = 1 := by unfold cfault; split <;> simp
theorem cfault_ok {k m g : Int} (h : cfault k m g = 0) : ∃ K M G : Nat, k = K ∧ m = M ∧ g = G ∧ 1 ≤ K ∧ K ≤ 32 ∧ M ≤ 16 ∧ G ≤ K ∧ K + M + G ≤ 64 := by
  unfold cfault at h
  by_cases q : 1 ≤ k ∧ k ≤ 32 ∧ 0 ≤ m ∧ m ≤ 16 ∧ 0 ≤ g ∧ g ≤ k ∧ k + m + g ≤ 64
  · exact ⟨k.toNat, m.toNat, g.toNat, by omega, by omega, by omega, by omega, by omega, by omega, by omega, by omega⟩
  · rw [if_neg q] at h; omega
theorem cfault_of {K M G : Nat} (h1 : 1 ≤ K) (h2 : K ≤ 32) (h3 : M ≤ 16) (h4 : G ≤ K) (h5 : K + M + G ≤ 64) : cfault K M G = 0 := if_pos ⟨by omega, by omega, by omega, by omega, by omega, by omega, by omega⟩
set_option maxRecDepth 20000 in
set_option maxHeartbeats 2000000 in
theorem sCfault (k m g : Int) (w : World) :
    Calls Tryd.prog 17 #[cdv k m g] w fun e w' => e = .returned (.int .i64 (cfault k m g)) ∧ w' = w.alloc (.cells (cda k m g) 24) := by
  by_cases h0 : k < 1
  · have E : cfault k m g = 1 := if_neg (by omega)
    rw [E]
    have d0 : decide (k < 1) = true := by simp; omega
    go_enter Tryd.func17, Tryd.ntmps17
    go_wp2
    go_ret
    exact ⟨rfl, rfl⟩
  have d0 : decide (k < 1) = false := by simp; omega
  by_cases h1 : 32 < k
  · have E : cfault k m g = 1 := if_neg (by omega)
    rw [E]
    have d1 : decide (32 < k) = true := by simp; omega
    go_enter Tryd.func17, Tryd.ntmps17
    go_wp2
    go_ret
    exact ⟨rfl, rfl⟩
  have d1 : decide (32 < k) = false := by simp; omega
  by_cases h2 : m < 0
  · have E : cfault k m g = 1 := if_neg (by omega)
    rw [E]
    have d2 : decide (m < 0) = true := by simp; omega
    go_enter Tryd.func17, Tryd.ntmps17
    go_wp2
    go_ret
    exact ⟨rfl, rfl⟩
  have d2 : decide (m < 0) = false := by simp; omega
  by_cases h3 : 16 < m
  · have E : cfault k m g = 1 := if_neg (by omega)
    rw [E]
    have d3 : decide (16 < m) = true := by simp; omega
    go_enter Tryd.func17, Tryd.ntmps17
    go_wp2
    go_ret
    exact ⟨rfl, rfl⟩
  have d3 : decide (16 < m) = false := by simp; omega
  by_cases h4 : g < 0
  · have E : cfault k m g = 1 := if_neg (by omega)
    rw [E]
    have d4 : decide (g < 0) = true := by simp; omega
    go_enter Tryd.func17, Tryd.ntmps17
    go_wp2
    go_ret
    exact ⟨rfl, rfl⟩
  have d4 : decide (g < 0) = false := by simp; omega
  by_cases h5 : k < g
  · have E : cfault k m g = 1 := if_neg (by omega)
    rw [E]
    have d5 : decide (k < g) = true := by simp; omega
    go_enter Tryd.func17, Tryd.ntmps17
    go_wp2
    go_ret
    exact ⟨rfl, rfl⟩
  have d5 : decide (k < g) = false := by simp; omega
  obtain ⟨K, rfl⟩ := Int.eq_ofNat_of_zero_le (show 0 ≤ k by omega)
  obtain ⟨M, rfl⟩ := Int.eq_ofNat_of_zero_le (show 0 ≤ m by omega)
  obtain ⟨G, rfl⟩ := Int.eq_ofNat_of_zero_le (show 0 ≤ g by omega)
  by_cases h6 : 64 < (K : Int) + M + G
  · have E : cfault K M G = 1 := if_neg (by omega)
    rw [E]
    have d6 : decide (64 < (K : Int) + M + G) = true := by simp; omega
    go_enter Tryd.func17, Tryd.ntmps17
    go_wp2
    go_ret
    exact ⟨rfl, rfl⟩
  · have E : cfault K M G = 0 := if_pos (by omega)
    rw [E]
    have d6 : decide (64 < (K : Int) + M + G) = false := by simp; omega
    go_enter Tryd.func17, Tryd.ntmps17
    go_wp2
    go_ret
    exact ⟨rfl, rfl⟩
set_option maxRecDepth 20000 in
set_option maxHeartbeats 2000000 in
theorem iCfault (k m g : Int) (w : World) :
    Calls Tryd.prog 21 #[cdv k m g] w fun e w' => e = .returned (.int .i64 (cfault k m g)) ∧ w' = w.alloc (.cells (cda k m g) 24) := by
  by_cases h0 : k < 1
  · have E : cfault k m g = 1 := if_neg (by omega)
    rw [E]
    have d0 : decide (k < 1) = true := by simp; omega
    go_enter Tryd.func21, Tryd.ntmps21
    go_wp2
    go_ret
    exact ⟨rfl, rfl⟩
  have d0 : decide (k < 1) = false := by simp; omega
  by_cases h1 : 32 < k
  · have E : cfault k m g = 1 := if_neg (by omega)
    rw [E]
    have d1 : decide (32 < k) = true := by simp; omega
    go_enter Tryd.func21, Tryd.ntmps21
    go_wp2
    go_ret
    exact ⟨rfl, rfl⟩
  have d1 : decide (32 < k) = false := by simp; omega
  by_cases h2 : m < 0
  · have E : cfault k m g = 1 := if_neg (by omega)
    rw [E]
    have d2 : decide (m < 0) = true := by simp; omega
    go_enter Tryd.func21, Tryd.ntmps21
    go_wp2
    go_ret
    exact ⟨rfl, rfl⟩
  have d2 : decide (m < 0) = false := by simp; omega
  by_cases h3 : 16 < m
  · have E : cfault k m g = 1 := if_neg (by omega)
    rw [E]
    have d3 : decide (16 < m) = true := by simp; omega
    go_enter Tryd.func21, Tryd.ntmps21
    go_wp2
    go_ret
    exact ⟨rfl, rfl⟩
  have d3 : decide (16 < m) = false := by simp; omega
  by_cases h4 : g < 0
  · have E : cfault k m g = 1 := if_neg (by omega)
    rw [E]
    have d4 : decide (g < 0) = true := by simp; omega
    go_enter Tryd.func21, Tryd.ntmps21
    go_wp2
    go_ret
    exact ⟨rfl, rfl⟩
  have d4 : decide (g < 0) = false := by simp; omega
  by_cases h5 : k < g
  · have E : cfault k m g = 1 := if_neg (by omega)
    rw [E]
    have d5 : decide (k < g) = true := by simp; omega
    go_enter Tryd.func21, Tryd.ntmps21
    go_wp2
    go_ret
    exact ⟨rfl, rfl⟩
  have d5 : decide (k < g) = false := by simp; omega
  obtain ⟨K, rfl⟩ := Int.eq_ofNat_of_zero_le (show 0 ≤ k by omega)
  obtain ⟨M, rfl⟩ := Int.eq_ofNat_of_zero_le (show 0 ≤ m by omega)
  obtain ⟨G, rfl⟩ := Int.eq_ofNat_of_zero_le (show 0 ≤ g by omega)
  by_cases h6 : 64 < (K : Int) + M + G
  · have E : cfault K M G = 1 := if_neg (by omega)
    rw [E]
    have d6 : decide (64 < (K : Int) + M + G) = true := by simp; omega
    go_enter Tryd.func21, Tryd.ntmps21
    go_wp2
    go_ret
    exact ⟨rfl, rfl⟩
  · have E : cfault K M G = 0 := if_pos (by omega)
    rw [E]
    have d6 : decide (64 < (K : Int) + M + G) = false := by simp; omega
    go_enter Tryd.func21, Tryd.ntmps21
    go_wp2
    go_ret
    exact ⟨rfl, rfl⟩
set_option maxRecDepth 20000 in
set_option maxHeartbeats 2000000 in
theorem iCsize (k m g : Int) (w : World) :
    Calls Tryd.prog 27 #[cdv k m g] w fun e w' => e = .returned (.int .i64 (csize k m g)) ∧ w' = (w.alloc (.cells (cda k m g) 24)).alloc (.cells (cda k m g) 24) := by
  unfold csize
  rcases cfault_01 k m g with hf | hf
  · obtain ⟨K, M, G, rfl, rfl, rfl, h1, h2, h3, h4, h5⟩ := cfault_ok hf
    rw [if_pos hf]
    go_enter Tryd.func27, Tryd.ntmps27
    go_wp2_with fail
    refine (iCfault _ _ _ _).mono ?_
    rintro e w1 ⟨rfl, rfl⟩
    rw [hf]
    clear hf
    go_wp2
    go_ret
    exact ⟨rfl, rfl⟩
  · rw [if_neg (by omega)]
    go_enter Tryd.func27, Tryd.ntmps27
    go_wp2_with fail
    refine (iCfault _ _ _ _).mono ?_
    rintro e w1 ⟨rfl, rfl⟩
    rw [hf]
    clear hf
    go_wp2
    go_ret
    exact ⟨rfl, rfl⟩
end Go.Proofs.YthdmaamocejodaaDoor
