import Derived.Test.YtokjfffcciddhaaGreatDoorProg
import Derived.Test.YtokjfffcciddhaaGreatDoorQA
import Derived.Test.YtokjfffcciddhaaGreatDoorBase
import Derived.WalkLawsBesides
import Derived.WalkSpells
import Derived.OpenShut
import Derived.BigQuiet
import Derived.Deep.QuietTactic
import Derived.Deep.RegionHeld3
import Derived.Deep.RegionWith
namespace Go.Proofs.YtokjfffcciddhaaGreatDoor
open Go.RowKit
/-! Codes: what CodeFault and CodeSize answer. -/
abbrev cda (k m g : Int) : Array Value := #[.int .i64 k, .int .i64 m, .int .i64 g]
abbrev cdv (k m g : Int) : Value := .agg (cda k m g)
theorem bal {n : Nat} {w w' : World} (h : Below n w w') (o : Obj) (hn : n ≤ w.heap.size) : Below n w (w'.alloc o) := h.alloc (Nat.le_trans hn h.size) o
def cfault (k m g : Int) : Int := if 1 ≤ k ∧ k ≤ 32 ∧ 0 ≤ m ∧ m ≤ 16 ∧ 0 ≤ g ∧ g ≤ k ∧ k + m + g ≤ 64 then 0 else 1
def csize (k m g : Int) : Int := if cfault k m g = 0 then k + m + g else 0
theorem cfault_01 (k m g : Int) : cfault k m g = 0 ∨ cfault k m g = 1 := by unfold cfault; split <;> simp
theorem cfault_ok {k m g : Int} (h : cfault k m g = 0) : ∃ K M G : Nat, k = K ∧ m = M ∧ g = G ∧ 1 ≤ K ∧ K ≤ 32 ∧ M ≤ 16 ∧ G ≤ K ∧ K + M + G ≤ 64 := by
  unfold cfault at h
  by_cases q : 1 ≤ k ∧ k ≤ 32 ∧ 0 ≤ m ∧ m ≤ 16 ∧ 0 ≤ g ∧ g ≤ k ∧ k + m + g ≤ 64
  · exact ⟨k.toNat, m.toNat, g.toNat, by omega, by omega, by omega, by omega, by omega, by omega, by omega, by omega⟩
  · rw [if_neg q] at h; omega
theorem cfault_of {K M G : Nat} (h1 : 1 ≤ K) (h2 : K ≤ 32) (h3 : M ≤ 16) (h4 : G ≤ K) (h5 : K + M + G ≤ 64) : cfault K M G = 0 := if_pos ⟨by omega, by omega, by omega, by omega, by omega, by omega, by omega⟩
set_option maxRecDepth 20000 in
set_option maxHeartbeats 2000000 in
theorem sCfault (k m g : Int) (w : World) :
    Calls Tryz.prog 32 #[cdv k m g] w fun e w' => e = .returned (.int .i64 (cfault k m g)) ∧ w' = w.alloc (.cells (cda k m g) 37) := by
  by_cases h0 : k < 1
  · have E : cfault k m g = 1 := if_neg (by omega)
    rw [E]
    have d0 : decide (k < 1) = true := by simp; omega
    go_enter Tryz.func32, Tryz.ntmps32
    go_wp2
    go_ret
    exact ⟨rfl, rfl⟩
  have d0 : decide (k < 1) = false := by simp; omega
  by_cases h1 : 32 < k
  · have E : cfault k m g = 1 := if_neg (by omega)
    rw [E]
    have d1 : decide (32 < k) = true := by simp; omega
    go_enter Tryz.func32, Tryz.ntmps32
    go_wp2
    go_ret
    exact ⟨rfl, rfl⟩
  have d1 : decide (32 < k) = false := by simp; omega
  by_cases h2 : m < 0
  · have E : cfault k m g = 1 := if_neg (by omega)
    rw [E]
    have d2 : decide (m < 0) = true := by simp; omega
    go_enter Tryz.func32, Tryz.ntmps32
    go_wp2
    go_ret
    exact ⟨rfl, rfl⟩
  have d2 : decide (m < 0) = false := by simp; omega
  by_cases h3 : 16 < m
  · have E : cfault k m g = 1 := if_neg (by omega)
    rw [E]
    have d3 : decide (16 < m) = true := by simp; omega
    go_enter Tryz.func32, Tryz.ntmps32
    go_wp2
    go_ret
    exact ⟨rfl, rfl⟩
  have d3 : decide (16 < m) = false := by simp; omega
  by_cases h4 : g < 0
  · have E : cfault k m g = 1 := if_neg (by omega)
    rw [E]
    have d4 : decide (g < 0) = true := by simp; omega
    go_enter Tryz.func32, Tryz.ntmps32
    go_wp2
    go_ret
    exact ⟨rfl, rfl⟩
  have d4 : decide (g < 0) = false := by simp; omega
  by_cases h5 : k < g
  · have E : cfault k m g = 1 := if_neg (by omega)
    rw [E]
    have d5 : decide (k < g) = true := by simp; omega
    go_enter Tryz.func32, Tryz.ntmps32
    go_wp2
    go_ret
    exact ⟨rfl, rfl⟩
  have d5 : decide (k < g) = false := by simp; omega
  obtain ⟨K, rfl⟩ := Int.eq_ofNat_of_zero_le (show 0 ≤ k by omega)
  obtain ⟨M, rfl⟩ := Int.eq_ofNat_of_zero_le (show 0 ≤ m by omega)
  obtain ⟨G, rfl⟩ := Int.eq_ofNat_of_zero_le (show 0 ≤ g by omega)
  by_cases h6 : 64 < (K : Int) + M + G
  · have E : cfault K M G = 1 := if_neg (by omega)
    rw [E]
    have d6 : decide (64 < (K : Int) + M + G) = true := by simp; omega
    go_enter Tryz.func32, Tryz.ntmps32
    go_wp2
    go_ret
    exact ⟨rfl, rfl⟩
  · have E : cfault K M G = 0 := if_pos (by omega)
    rw [E]
    have d6 : decide (64 < (K : Int) + M + G) = false := by simp; omega
    go_enter Tryz.func32, Tryz.ntmps32
    go_wp2
    go_ret
    exact ⟨rfl, rfl⟩
set_option maxRecDepth 20000 in
set_option maxHeartbeats 2000000 in
theorem iCfault (k m g : Int) (w : World) :
    Calls Tryz.prog 45 #[cdv k m g] w fun e w' => e = .returned (.int .i64 (cfault k m g)) ∧ w' = w.alloc (.cells (cda k m g) 37) := by
  by_cases h0 : k < 1
  · have E : cfault k m g = 1 := if_neg (by omega)
    rw [E]
    have d0 : decide (k < 1) = true := by simp; omega
    go_enter Tryz.func45, Tryz.ntmps45
    go_wp2
    go_ret
    exact ⟨rfl, rfl⟩
  have d0 : decide (k < 1) = false := by simp; omega
  by_cases h1 : 32 < k
  · have E : cfault k m g = 1 := if_neg (by omega)
    rw [E]
    have d1 : decide (32 < k) = true := by simp; omega
    go_enter Tryz.func45, Tryz.ntmps45
    go_wp2
    go_ret
    exact ⟨rfl, rfl⟩
  have d1 : decide (32 < k) = false := by simp; omega
  by_cases h2 : m < 0
  · have E : cfault k m g = 1 := if_neg (by omega)
    rw [E]
    have d2 : decide (m < 0) = true := by simp; omega
    go_enter Tryz.func45, Tryz.ntmps45
    go_wp2
    go_ret
    exact ⟨rfl, rfl⟩
  have d2 : decide (m < 0) = false := by simp; omega
  by_cases h3 : 16 < m
  · have E : cfault k m g = 1 := if_neg (by omega)
    rw [E]
    have d3 : decide (16 < m) = true := by simp; omega
    go_enter Tryz.func45, Tryz.ntmps45
    go_wp2
    go_ret
    exact ⟨rfl, rfl⟩
  have d3 : decide (16 < m) = false := by simp; omega
  by_cases h4 : g < 0
  · have E : cfault k m g = 1 := if_neg (by omega)
    rw [E]
    have d4 : decide (g < 0) = true := by simp; omega
    go_enter Tryz.func45, Tryz.ntmps45
    go_wp2
    go_ret
    exact ⟨rfl, rfl⟩
  have d4 : decide (g < 0) = false := by simp; omega
  by_cases h5 : k < g
  · have E : cfault k m g = 1 := if_neg (by omega)
    rw [E]
    have d5 : decide (k < g) = true := by simp; omega
    go_enter Tryz.func45, Tryz.ntmps45
    go_wp2
    go_ret
    exact ⟨rfl, rfl⟩
  have d5 : decide (k < g) = false := by simp; omega
  obtain ⟨K, rfl⟩ := Int.eq_ofNat_of_zero_le (show 0 ≤ k by omega)
  obtain ⟨M, rfl⟩ := Int.eq_ofNat_of_zero_le (show 0 ≤ m by omega)
  obtain ⟨G, rfl⟩ := Int.eq_ofNat_of_zero_le (show 0 ≤ g by omega)
  by_cases h6 : 64 < (K : Int) + M + G
  · have E : cfault K M G = 1 := if_neg (by omega)
    rw [E]
    have d6 : decide (64 < (K : Int) + M + G) = true := by simp; omega
    go_enter Tryz.func45, Tryz.ntmps45
    go_wp2
    go_ret
    exact ⟨rfl, rfl⟩
  · have E : cfault K M G = 0 := if_pos (by omega)
    rw [E]
    have d6 : decide (64 < (K : Int) + M + G) = false := by simp; omega
    go_enter Tryz.func45, Tryz.ntmps45
    go_wp2
    go_ret
    exact ⟨rfl, rfl⟩
set_option maxRecDepth 20000 in
set_option maxHeartbeats 2000000 in
theorem toCd (k m g : Int) (w : World) :
    Calls Tryz.prog 40 #[.agg #[.int .i64 k, .int .i64 m, .int .i64 g]] w fun e w' => e = .returned (cdv k m g) ∧ Below w.heap.size w w' := by
  go_enter Tryz.func40, Tryz.ntmps40
  go_wp2
  obtain ⟨w', hw'⟩ : ∃ w', w' = ((w.alloc (.cells (cda k m g) 24)).alloc (.cells (cda k m g) 37)).alloc (.cells (cda k m g) 37) := ⟨_, rfl⟩
  have r : RowAt w' (w.heap.size + 1) 37 (cda k m g) := by rw [hw']; exact (RowAt.next _ _ _ (by rw [size_al])).alloc _
  have hb : Below w.heap.size w w' := by rw [hw']; exact bal (bal (bal (Below.refl _ _) _ (Nat.le_refl _)) _ (Nat.le_refl _)) _ (Nat.le_refl _)
  rw [← hw']
  refine bodyPost_ret (v := cdv k m g) ?_ rfl ⟨rfl, hb⟩
  exact results_cell_row Tryz.results40 _ _ (w.heap.size + 1) _ _ _ _ rfl r Tryz.underlying37 rfl (by kernel_rfl)
end Go.Proofs.YtokjfffcciddhaaGreatDoor
