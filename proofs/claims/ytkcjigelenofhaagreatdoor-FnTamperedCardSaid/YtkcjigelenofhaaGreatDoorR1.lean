import Derived.Test.YtkcjigelenofhaaGreatDoorG2
import Derived.Test.YtkcjigelenofhaaGreatDoorG2
namespace Go.Proofs.YtkcjigelenofhaaGreatDoor
open Go.RowKit
def mtC (c : Nat) : Prop := 65 ≤ c ∧ c ≤ 90
def nmC (c : Nat) : Prop := (97 ≤ c ∧ c ≤ 122) ∨ (48 ≤ c ∧ c ≤ 57) ∨ c = 45
def vlC (c : Nat) : Prop := 32 ≤ c ∧ c ≤ 126
def idC (c : Nat) : Prop := (97 ≤ c ∧ c ≤ 122) ∨ (48 ≤ c ∧ c ≤ 57)
def lenB : ByteArray := ⟨#[108, 101, 110, 103, 116, 104]⟩
def mtP (s : ByteArray) : Prop := 1 ≤ s.size ∧ s.size ≤ 10 ∧ ∀ i (h : i < s.size), mtC (s[i]'h).toNat
def hnP (s : ByteArray) : Prop := 1 ≤ s.size ∧ s.size ≤ 60 ∧ s ≠ lenB ∧ ∀ i (h : i < s.size), nmC (s[i]'h).toNat
def hvP (s : ByteArray) : Prop := s.size ≤ 1000 ∧ (∀ h : 0 < s.size, s[0]'h ≠ 32 ∧ s[s.size - 1]'(by omega) ≠ 32) ∧ ∀ i (h : i < s.size), vlC (s[i]'h).toNat
def idP (s : ByteArray) : Prop := 1 ≤ s.size ∧ s.size ≤ 40 ∧ ∀ i (h : i < s.size), idC (s[i]'h).toNat
def dfP (n : Nat) (o : Nat → Hp) : Prop := n ≤ 30 ∧ ∀ i, i < n → ∀ k, k < i → (o i).nm ≠ (o k).nm
def qyP (p : Hp) : Prop := 1 ≤ p.nm.size ∧ p.nm.size ≤ 100 ∧ p.vl.size ≤ 1000
def hdP (p : Hp) : Prop := hnP p.nm ∧ hvP p.vl
def ptP (s : ByteArray) : Prop := ∃ h : 1 ≤ s.size, s.size ≤ 1000 ∧ s[0]'h = 47
def rqP (r : Rq) : Prop := mtP r.mt ∧ ptP r.pt ∧ dfP r.qs.n r.qs.o ∧ dfP r.hs.n r.hs.o ∧ r.bd.size ≤ 100000 ∧ (∀ i, i < r.qs.n → qyP (r.qs.o i)) ∧ ∀ i, i < r.hs.n → hdP (r.hs.o i)
noncomputable def rqV (r : Rq) : Int := if pb (rqP r) then 0 else 1
theorem rqV_t {r : Rq} (h : rqP r) : rqV r = 0 := by unfold rqV; rw [pb_t h]; rfl
theorem rqV_f {r : Rq} (h : ¬ rqP r) : rqV r = 1 := by unfold rqV; rw [pb_f h]; rfl
theorem ba_beqE (a b : ByteArray) : (a.toList == b.toList) = decide (a = b) := by
 have e : ∀ x : ByteArray, x.toList = x.data.toList := fun x => by rw [ByteArray.toList_eq]
 rw [e, e]
 by_cases h : a = b
 · subst h; simp
 · rw [decide_eq_false h]
   simp only [beq_eq_false_iff_ne]
   intro hh
   apply h
   cases a
   cases b
   congr 1
   exact Array.toList_inj.1 hh
theorem lenB_list : lenB.toList = [108, 101, 110, 103, 116, 104] := by rw [ByteArray.toList_eq]; rfl
theorem ba_empty (s : ByteArray) : s.toList.isEmpty = decide (s.size = 0) := by
 rw [ByteArray.toList_eq]
 by_cases h : s.size = 0
 · rw [decide_eq_true h]
   have : s.data.toList.length = 0 := by simpa using h
   rw [List.eq_nil_of_length_eq_zero this]
   rfl
 · rw [decide_eq_false h]
   cases hl : s.data.toList with
   | nil => exact absurd (by have := congrArg List.length hl; simpa using this) h
   | cons a b => rfl
set_option maxRecDepth 20000 in
set_option maxHeartbeats 4000000 in
theorem sMeth (s : ByteArray) (hs : s.size ≤ 1048576) (w : World) :
 Calls Tryz.prog 86 #[.string s] w fun e w' => e = .returned (.bool (pb (mtP s))) ∧ w' = w := by
 go_enter Tryz.func86, Tryz.ntmps86
 go_wp2
 go_loop [3] (fun v => ∃ k : Nat, k ≤ s.size ∧ v = .int .i64 (k : Int) ∧ ∀ i (h : i < s.size), i < k → mtC (s[i]'h).toNat) (fun v => s.size - (intOf v).toNat)
 case atStart => exact ⟨0, Nat.zero_le _, rfl, fun i _ hi => absurd hi (Nat.not_lt_zero _)⟩
 case round =>
  obtain ⟨k, hk, rfl, hr⟩ := hrel
  have HR := hid hr
  clear hr
  by_cases hlt : k < s.size
  · have d3 : (k : Int) < (s.size : Int) := by omega
    have cb := (s[k]'hlt).toNat_lt
    rcases (by omega : (0 ≤ (s[k]'hlt).toNat ∧ (s[k]'hlt).toNat ≤ 64) ∨ (65 ≤ (s[k]'hlt).toNat ∧ (s[k]'hlt).toNat ≤ 90) ∨ (91 ≤ (s[k]'hlt).toNat ∧ (s[k]'hlt).toNat ≤ 255)) with h | h | h
    · have k0 : ((s[k]'hlt).toNat : Int) < 65 := by omega
      have k1 : ¬ (90 : Int) < ((s[k]'hlt).toNat : Int) := by omega
      have E : Hid (pb (mtP s) = false) := pb_f fun hh => by have := hh.2.2 k hlt; unfold mtC at this; omega
      clear h cb
      go_wp2
      go_ret
      exact ⟨by rw [E.out]; rfl, rfl⟩
    · have k0 : ¬ ((s[k]'hlt).toNat : Int) < 65 := by omega
      have k1 : ¬ (90 : Int) < ((s[k]'hlt).toNat : Int) := by omega
      have N : Hid (∀ i (h : i < s.size), i < k + 1 → mtC (s[i]'h).toNat) := fun i h hi => by
       by_cases e : i = k
       · subst e; unfold mtC; omega
       · exact HR.out i h (by omega)
      clear h cb
      go_wp2
      exact ⟨⟨k + 1, by omega, by go_num, N.out⟩, by simp [intOf]; omega⟩
    · have k0 : ¬ ((s[k]'hlt).toNat : Int) < 65 := by omega
      have k1 : (90 : Int) < ((s[k]'hlt).toNat : Int) := by omega
      have E : Hid (pb (mtP s) = false) := pb_f fun hh => by have := hh.2.2 k hlt; unfold mtC at this; omega
      clear h cb
      go_wp2
      go_ret
      exact ⟨by rw [E.out]; rfl, rfl⟩
  · have d3 : ¬ (k : Int) < (s.size : Int) := by omega
    have AL : Hid (∀ i (h : i < s.size), mtC (s[i]'h).toNat) := fun i h => HR.out i h (by omega)
    by_cases h1 : 1 ≤ s.size
    · have e1 : (1 : Int) ≤ (s.size : Int) := by omega
      by_cases h2 : s.size ≤ 10
      · have e2 : (s.size : Int) ≤ 10 := by omega
        have E : Hid (pb (mtP s) = true) := pb_t ⟨h1, h2, AL.out⟩
        go_wp2
        go_ret
        exact ⟨by rw [E.out]; rfl, rfl⟩
      · have e2 : ¬ (s.size : Int) ≤ 10 := by omega
        have E : Hid (pb (mtP s) = false) := pb_f fun hh => h2 hh.2.1
        go_wp2
        go_ret
        exact ⟨by rw [E.out]; rfl, rfl⟩
    · have e1 : ¬ (1 : Int) ≤ (s.size : Int) := by omega
      have E : Hid (pb (mtP s) = false) := pb_f fun hh => h1 hh.1
      go_wp2
      go_ret
      exact ⟨by rw [E.out]; rfl, rfl⟩
set_option maxRecDepth 20000 in
set_option maxHeartbeats 4000000 in
theorem sHName (s : ByteArray) (hs : s.size ≤ 1048576) (w : World) :
 Calls Tryz.prog 88 #[.string s] w fun e w' => e = .returned (.bool (pb (hnP s))) ∧ w' = w := by
 go_enter Tryz.func88, Tryz.ntmps88
 go_wp2
 go_loop [3] (fun v => ∃ k : Nat, k ≤ s.size ∧ v = .int .i64 (k : Int) ∧ ∀ i (h : i < s.size), i < k → nmC (s[i]'h).toNat) (fun v => s.size - (intOf v).toNat)
 case atStart => exact ⟨0, Nat.zero_le _, rfl, fun i _ hi => absurd hi (Nat.not_lt_zero _)⟩
 case round =>
  obtain ⟨k, hk, rfl, hr⟩ := hrel
  have HR := hid hr
  clear hr
  by_cases hlt : k < s.size
  · have d3 : (k : Int) < (s.size : Int) := by omega
    have cb := (s[k]'hlt).toNat_lt
    rcases (by omega : (0 ≤ (s[k]'hlt).toNat ∧ (s[k]'hlt).toNat ≤ 44) ∨ (s[k]'hlt).toNat = 45 ∨ (46 ≤ (s[k]'hlt).toNat ∧ (s[k]'hlt).toNat ≤ 47) ∨ (48 ≤ (s[k]'hlt).toNat ∧ (s[k]'hlt).toNat ≤ 57) ∨ (58 ≤ (s[k]'hlt).toNat ∧ (s[k]'hlt).toNat ≤ 96) ∨ (97 ≤ (s[k]'hlt).toNat ∧ (s[k]'hlt).toNat ≤ 122) ∨ (123 ≤ (s[k]'hlt).toNat ∧ (s[k]'hlt).toNat ≤ 255)) with h | h | h | h | h | h | h
    · have k0 : ¬ (97 : Int) ≤ ((s[k]'hlt).toNat : Int) := by omega
      have k1 : ((s[k]'hlt).toNat : Int) ≤ 122 := by omega
      have k2 : ¬ (48 : Int) ≤ ((s[k]'hlt).toNat : Int) := by omega
      have k3 : ((s[k]'hlt).toNat : Int) ≤ 57 := by omega
      have k4 : (((s[k]'hlt).toNat : Int) == 45) = false := by rw [beq_eq_false_iff_ne]; omega
      have E : Hid (pb (hnP s) = false) := pb_f fun hh => by have := hh.2.2.2 k hlt; unfold nmC at this; omega
      clear h cb
      go_wp2
      go_ret
      exact ⟨by rw [E.out]; rfl, rfl⟩
    · have k0 : ¬ (97 : Int) ≤ ((s[k]'hlt).toNat : Int) := by omega
      have k1 : ((s[k]'hlt).toNat : Int) ≤ 122 := by omega
      have k2 : ¬ (48 : Int) ≤ ((s[k]'hlt).toNat : Int) := by omega
      have k3 : ((s[k]'hlt).toNat : Int) ≤ 57 := by omega
      have k4 : (((s[k]'hlt).toNat : Int) == 45) = true := by rw [beq_iff_eq]; omega
      have N : Hid (∀ i (h : i < s.size), i < k + 1 → nmC (s[i]'h).toNat) := fun i h hi => by
       by_cases e : i = k
       · subst e; unfold nmC; omega
       · exact HR.out i h (by omega)
      clear h cb
      go_wp2
      exact ⟨⟨k + 1, by omega, by go_num, N.out⟩, by simp [intOf]; omega⟩
    · have k0 : ¬ (97 : Int) ≤ ((s[k]'hlt).toNat : Int) := by omega
      have k1 : ((s[k]'hlt).toNat : Int) ≤ 122 := by omega
      have k2 : ¬ (48 : Int) ≤ ((s[k]'hlt).toNat : Int) := by omega
      have k3 : ((s[k]'hlt).toNat : Int) ≤ 57 := by omega
      have k4 : (((s[k]'hlt).toNat : Int) == 45) = false := by rw [beq_eq_false_iff_ne]; omega
      have E : Hid (pb (hnP s) = false) := pb_f fun hh => by have := hh.2.2.2 k hlt; unfold nmC at this; omega
      clear h cb
      go_wp2
      go_ret
      exact ⟨by rw [E.out]; rfl, rfl⟩
    · have k0 : ¬ (97 : Int) ≤ ((s[k]'hlt).toNat : Int) := by omega
      have k1 : ((s[k]'hlt).toNat : Int) ≤ 122 := by omega
      have k2 : (48 : Int) ≤ ((s[k]'hlt).toNat : Int) := by omega
      have k3 : ((s[k]'hlt).toNat : Int) ≤ 57 := by omega
      have k4 : (((s[k]'hlt).toNat : Int) == 45) = false := by rw [beq_eq_false_iff_ne]; omega
      have N : Hid (∀ i (h : i < s.size), i < k + 1 → nmC (s[i]'h).toNat) := fun i h hi => by
       by_cases e : i = k
       · subst e; unfold nmC; omega
       · exact HR.out i h (by omega)
      clear h cb
      go_wp2
      exact ⟨⟨k + 1, by omega, by go_num, N.out⟩, by simp [intOf]; omega⟩
    · have k0 : ¬ (97 : Int) ≤ ((s[k]'hlt).toNat : Int) := by omega
      have k1 : ((s[k]'hlt).toNat : Int) ≤ 122 := by omega
      have k2 : (48 : Int) ≤ ((s[k]'hlt).toNat : Int) := by omega
      have k3 : ¬ ((s[k]'hlt).toNat : Int) ≤ 57 := by omega
      have k4 : (((s[k]'hlt).toNat : Int) == 45) = false := by rw [beq_eq_false_iff_ne]; omega
      have E : Hid (pb (hnP s) = false) := pb_f fun hh => by have := hh.2.2.2 k hlt; unfold nmC at this; omega
      clear h cb
      go_wp2
      go_ret
      exact ⟨by rw [E.out]; rfl, rfl⟩
    · have k0 : (97 : Int) ≤ ((s[k]'hlt).toNat : Int) := by omega
      have k1 : ((s[k]'hlt).toNat : Int) ≤ 122 := by omega
      have k2 : (48 : Int) ≤ ((s[k]'hlt).toNat : Int) := by omega
      have k3 : ¬ ((s[k]'hlt).toNat : Int) ≤ 57 := by omega
      have k4 : (((s[k]'hlt).toNat : Int) == 45) = false := by rw [beq_eq_false_iff_ne]; omega
      have N : Hid (∀ i (h : i < s.size), i < k + 1 → nmC (s[i]'h).toNat) := fun i h hi => by
       by_cases e : i = k
       · subst e; unfold nmC; omega
       · exact HR.out i h (by omega)
      clear h cb
      go_wp2
      exact ⟨⟨k + 1, by omega, by go_num, N.out⟩, by simp [intOf]; omega⟩
    · have k0 : (97 : Int) ≤ ((s[k]'hlt).toNat : Int) := by omega
      have k1 : ¬ ((s[k]'hlt).toNat : Int) ≤ 122 := by omega
      have k2 : (48 : Int) ≤ ((s[k]'hlt).toNat : Int) := by omega
      have k3 : ¬ ((s[k]'hlt).toNat : Int) ≤ 57 := by omega
      have k4 : (((s[k]'hlt).toNat : Int) == 45) = false := by rw [beq_eq_false_iff_ne]; omega
      have E : Hid (pb (hnP s) = false) := pb_f fun hh => by have := hh.2.2.2 k hlt; unfold nmC at this; omega
      clear h cb
      go_wp2
      go_ret
      exact ⟨by rw [E.out]; rfl, rfl⟩
  · have d3 : ¬ (k : Int) < (s.size : Int) := by omega
    have AL : Hid (∀ i (h : i < s.size), nmC (s[i]'h).toNat) := fun i h => HR.out i h (by omega)
    by_cases h1 : 1 ≤ s.size
    · have e1 : (1 : Int) ≤ (s.size : Int) := by omega
      by_cases h2 : s.size ≤ 60
      · have e2 : (s.size : Int) ≤ 60 := by omega
        by_cases h3 : s ≠ lenB
        · have e3 : (s.toList == [108, 101, 110, 103, 116, 104]) = false := by rw [← lenB_list]; exact (ba_beqE s lenB).trans (decide_eq_false h3)
          have E : Hid (pb (hnP s) = true) := pb_t ⟨h1, h2, h3, AL.out⟩
          go_wp2
          go_ret
          exact ⟨by rw [E.out]; rfl, rfl⟩
        · have e3 : (s.toList == [108, 101, 110, 103, 116, 104]) = true := by rw [← lenB_list]; exact (ba_beqE s lenB).trans (decide_eq_true (Classical.not_not.1 h3))
          have E : Hid (pb (hnP s) = false) := pb_f fun hh => h3 hh.2.2.1
          go_wp2
          go_ret
          exact ⟨by rw [E.out]; rfl, rfl⟩
      · have e2 : ¬ (s.size : Int) ≤ 60 := by omega
        have E : Hid (pb (hnP s) = false) := pb_f fun hh => h2 hh.2.1
        go_wp2
        go_ret
        exact ⟨by rw [E.out]; rfl, rfl⟩
    · have e1 : ¬ (1 : Int) ≤ (s.size : Int) := by omega
      have E : Hid (pb (hnP s) = false) := pb_f fun hh => h1 hh.1
      go_wp2
      go_ret
      exact ⟨by rw [E.out]; rfl, rfl⟩
set_option maxRecDepth 20000 in
set_option maxHeartbeats 4000000 in
theorem sId (s : ByteArray) (hs : s.size ≤ 1048576) (w : World) :
 Calls Tryz.prog 47 #[.string s] w fun e w' => e = .returned (.bool (pb (idP s))) ∧ w' = w := by
 go_enter Tryz.func47, Tryz.ntmps47
 go_wp2
 go_loop [3] (fun v => ∃ k : Nat, k ≤ s.size ∧ v = .int .i64 (k : Int) ∧ ∀ i (h : i < s.size), i < k → idC (s[i]'h).toNat) (fun v => s.size - (intOf v).toNat)
 case atStart => exact ⟨0, Nat.zero_le _, rfl, fun i _ hi => absurd hi (Nat.not_lt_zero _)⟩
 case round =>
  obtain ⟨k, hk, rfl, hr⟩ := hrel
  have HR := hid hr
  clear hr
  by_cases hlt : k < s.size
  · have d3 : (k : Int) < (s.size : Int) := by omega
    have cb := (s[k]'hlt).toNat_lt
    rcases (by omega : (0 ≤ (s[k]'hlt).toNat ∧ (s[k]'hlt).toNat ≤ 47) ∨ (48 ≤ (s[k]'hlt).toNat ∧ (s[k]'hlt).toNat ≤ 57) ∨ (58 ≤ (s[k]'hlt).toNat ∧ (s[k]'hlt).toNat ≤ 96) ∨ (97 ≤ (s[k]'hlt).toNat ∧ (s[k]'hlt).toNat ≤ 122) ∨ (123 ≤ (s[k]'hlt).toNat ∧ (s[k]'hlt).toNat ≤ 255)) with h | h | h | h | h
    · have k0 : ¬ (97 : Int) ≤ ((s[k]'hlt).toNat : Int) := by omega
      have k1 : ((s[k]'hlt).toNat : Int) ≤ 122 := by omega
      have k2 : ¬ (48 : Int) ≤ ((s[k]'hlt).toNat : Int) := by omega
      have k3 : ((s[k]'hlt).toNat : Int) ≤ 57 := by omega
      have E : Hid (pb (idP s) = false) := pb_f fun hh => by have := hh.2.2 k hlt; unfold idC at this; omega
      clear h cb
      go_wp2
      go_ret
      exact ⟨by rw [E.out]; rfl, rfl⟩
    · have k0 : ¬ (97 : Int) ≤ ((s[k]'hlt).toNat : Int) := by omega
      have k1 : ((s[k]'hlt).toNat : Int) ≤ 122 := by omega
      have k2 : (48 : Int) ≤ ((s[k]'hlt).toNat : Int) := by omega
      have k3 : ((s[k]'hlt).toNat : Int) ≤ 57 := by omega
      have N : Hid (∀ i (h : i < s.size), i < k + 1 → idC (s[i]'h).toNat) := fun i h hi => by
       by_cases e : i = k
       · subst e; unfold idC; omega
       · exact HR.out i h (by omega)
      clear h cb
      go_wp2
      exact ⟨⟨k + 1, by omega, by go_num, N.out⟩, by simp [intOf]; omega⟩
    · have k0 : ¬ (97 : Int) ≤ ((s[k]'hlt).toNat : Int) := by omega
      have k1 : ((s[k]'hlt).toNat : Int) ≤ 122 := by omega
      have k2 : (48 : Int) ≤ ((s[k]'hlt).toNat : Int) := by omega
      have k3 : ¬ ((s[k]'hlt).toNat : Int) ≤ 57 := by omega
      have E : Hid (pb (idP s) = false) := pb_f fun hh => by have := hh.2.2 k hlt; unfold idC at this; omega
      clear h cb
      go_wp2
      go_ret
      exact ⟨by rw [E.out]; rfl, rfl⟩
    · have k0 : (97 : Int) ≤ ((s[k]'hlt).toNat : Int) := by omega
      have k1 : ((s[k]'hlt).toNat : Int) ≤ 122 := by omega
      have k2 : (48 : Int) ≤ ((s[k]'hlt).toNat : Int) := by omega
      have k3 : ¬ ((s[k]'hlt).toNat : Int) ≤ 57 := by omega
      have N : Hid (∀ i (h : i < s.size), i < k + 1 → idC (s[i]'h).toNat) := fun i h hi => by
       by_cases e : i = k
       · subst e; unfold idC; omega
       · exact HR.out i h (by omega)
      clear h cb
      go_wp2
      exact ⟨⟨k + 1, by omega, by go_num, N.out⟩, by simp [intOf]; omega⟩
    · have k0 : (97 : Int) ≤ ((s[k]'hlt).toNat : Int) := by omega
      have k1 : ¬ ((s[k]'hlt).toNat : Int) ≤ 122 := by omega
      have k2 : (48 : Int) ≤ ((s[k]'hlt).toNat : Int) := by omega
      have k3 : ¬ ((s[k]'hlt).toNat : Int) ≤ 57 := by omega
      have E : Hid (pb (idP s) = false) := pb_f fun hh => by have := hh.2.2 k hlt; unfold idC at this; omega
      clear h cb
      go_wp2
      go_ret
      exact ⟨by rw [E.out]; rfl, rfl⟩
  · have d3 : ¬ (k : Int) < (s.size : Int) := by omega
    have AL : Hid (∀ i (h : i < s.size), idC (s[i]'h).toNat) := fun i h => HR.out i h (by omega)
    by_cases h1 : 1 ≤ s.size
    · have e1 : (1 : Int) ≤ (s.size : Int) := by omega
      by_cases h2 : s.size ≤ 40
      · have e2 : (s.size : Int) ≤ 40 := by omega
        have E : Hid (pb (idP s) = true) := pb_t ⟨h1, h2, AL.out⟩
        go_wp2
        go_ret
        exact ⟨by rw [E.out]; rfl, rfl⟩
      · have e2 : ¬ (s.size : Int) ≤ 40 := by omega
        have E : Hid (pb (idP s) = false) := pb_f fun hh => h2 hh.2.1
        go_wp2
        go_ret
        exact ⟨by rw [E.out]; rfl, rfl⟩
    · have e1 : ¬ (1 : Int) ≤ (s.size : Int) := by omega
      have E : Hid (pb (idP s) = false) := pb_f fun hh => h1 hh.1
      go_wp2
      go_ret
      exact ⟨by rw [E.out]; rfl, rfl⟩
set_option maxRecDepth 20000 in
set_option maxHeartbeats 4000000 in
theorem sHVal (s : ByteArray) (hs : s.size ≤ 1048576) (w : World) :
 Calls Tryz.prog 89 #[.string s] w fun e w' => e = .returned (.bool (pb (hvP s))) ∧ w' = w := by
 go_enter Tryz.func89, Tryz.ntmps89
 go_wp2
 go_loop [3] (fun v => ∃ k : Nat, k ≤ s.size ∧ v = .int .i64 (k : Int) ∧ ∀ i (h : i < s.size), i < k → vlC (s[i]'h).toNat) (fun v => s.size - (intOf v).toNat)
 case atStart => exact ⟨0, Nat.zero_le _, rfl, fun i _ hi => absurd hi (Nat.not_lt_zero _)⟩
 case round =>
  obtain ⟨k, hk, rfl, hr⟩ := hrel
  have HR := hid hr
  clear hr
  by_cases hlt : k < s.size
  · have d3 : (k : Int) < (s.size : Int) := by omega
    have cb := (s[k]'hlt).toNat_lt
    rcases (by omega : (0 ≤ (s[k]'hlt).toNat ∧ (s[k]'hlt).toNat ≤ 31) ∨ (32 ≤ (s[k]'hlt).toNat ∧ (s[k]'hlt).toNat ≤ 126) ∨ (127 ≤ (s[k]'hlt).toNat ∧ (s[k]'hlt).toNat ≤ 255)) with h | h | h
    · have k0 : ((s[k]'hlt).toNat : Int) < 32 := by omega
      have k1 : ¬ (126 : Int) < ((s[k]'hlt).toNat : Int) := by omega
      have E : Hid (pb (hvP s) = false) := pb_f fun hh => by have := hh.2.2 k hlt; unfold vlC at this; omega
      clear h cb
      go_wp2
      go_ret
      exact ⟨by rw [E.out]; rfl, rfl⟩
    · have k0 : ¬ ((s[k]'hlt).toNat : Int) < 32 := by omega
      have k1 : ¬ (126 : Int) < ((s[k]'hlt).toNat : Int) := by omega
      have N : Hid (∀ i (h : i < s.size), i < k + 1 → vlC (s[i]'h).toNat) := fun i h hi => by
       by_cases e : i = k
       · subst e; unfold vlC; omega
       · exact HR.out i h (by omega)
      clear h cb
      go_wp2
      exact ⟨⟨k + 1, by omega, by go_num, N.out⟩, by simp [intOf]; omega⟩
    · have k0 : ¬ ((s[k]'hlt).toNat : Int) < 32 := by omega
      have k1 : (126 : Int) < ((s[k]'hlt).toNat : Int) := by omega
      have E : Hid (pb (hvP s) = false) := pb_f fun hh => by have := hh.2.2 k hlt; unfold vlC at this; omega
      clear h cb
      go_wp2
      go_ret
      exact ⟨by rw [E.out]; rfl, rfl⟩
  · have d3 : ¬ (k : Int) < (s.size : Int) := by omega
    have AL : Hid (∀ i (h : i < s.size), vlC (s[i]'h).toNat) := fun i h => HR.out i h (by omega)
    by_cases h1 : s.size ≤ 1000
    · have e1 : (s.size : Int) ≤ 1000 := by omega
      by_cases h0 : 0 < s.size
      · have e0 : s.toList.isEmpty = false := by rw [ba_empty]; exact decide_eq_false (by omega)
        have g1 : (1 : Int) ≤ (s.size : Int) := by omega
        have g2 : (0 : Int) < (s.size : Int) := by omega
        have g3 : (s.size : Int) - 1 < (s.size : Int) := by omega
        by_cases a0 : (s[0]'h0).toNat = 32
        · have E : Hid (pb (hvP s) = false) := pb_f fun hh => (hh.2.1 h0).1 (UInt8.toNat_inj.1 a0)
          have b0 : (((s[0]'h0).toNat : Int) != 32) = false := by rw [bne_eq_false_iff_eq]; omega
          clear a0
          go_wp2
          go_ret
          exact ⟨by rw [E.out]; rfl, rfl⟩
        · have b0 : (((s[0]'h0).toNat : Int) != 32) = true := by rw [bne_iff_ne]; omega
          by_cases a1 : (s[s.size - 1]'(by omega)).toNat = 32
          · have E : Hid (pb (hvP s) = false) := pb_f fun hh => (hh.2.1 h0).2 (UInt8.toNat_inj.1 a1)
            have b1 : (((s[s.size - 1]'(by omega)).toNat : Int) != 32) = false := by rw [bne_eq_false_iff_eq]; omega
            clear a0 a1
            go_wp2
            go_ret
            exact ⟨by rw [E.out]; rfl, rfl⟩
          · have E : Hid (pb (hvP s) = true) := pb_t ⟨h1, fun h => ⟨fun hh => a0 (by rw [hh]; rfl), fun hh => a1 (by rw [hh]; rfl)⟩, AL.out⟩
            have b1 : (((s[s.size - 1]'(by omega)).toNat : Int) != 32) = true := by rw [bne_iff_ne]; omega
            clear a0 a1
            go_wp2
            go_ret
            exact ⟨by rw [E.out]; rfl, rfl⟩
      · have e0 : s.toList.isEmpty = true := by rw [ba_empty]; exact decide_eq_true (by omega)
        have E : Hid (pb (hvP s) = true) := pb_t ⟨h1, fun h => absurd h h0, AL.out⟩
        go_wp2
        go_ret
        exact ⟨by rw [E.out]; rfl, rfl⟩
    · have e1 : ¬ (s.size : Int) ≤ 1000 := by omega
      have E : Hid (pb (hvP s) = false) := pb_f fun hh => h1 hh.1
      go_wp2
      go_ret
      exact ⟨by rw [E.out]; rfl, rfl⟩
end Go.Proofs.YtkcjigelenofhaaGreatDoor
namespace Go.Proofs.YtkcjigelenofhaaGreatDoor
open Go.RowKit
set_option maxRecDepth 20000 in
set_option maxHeartbeats 4000000 in
theorem sDiff (a : Option Addr) (n cap : Nat) (o : Nat → Hp) (hl : n ≤ 1048576) (w : World) (h : Hps w a n cap o) :
 Calls Tryz.prog 87 #[.slice a n cap] w fun e w' => e = .returned (.bool (pb (dfP n o))) ∧ ∃ m, w' = w.drewN m := by
 have HH := hid h.2
 clear h
 go_enter Tryz.func87, Tryz.ntmps87
 go_wp2_with fail
 go_loopw [3] (fun v wr => ∃ k : Nat, k ≤ n ∧ v = .int .i64 (k : Int) ∧ (∀ i, i < k → ∀ j, j < i → (o i).nm ≠ (o j).nm) ∧ ∃ m, wr = w.drewN m) (fun v _ => n - (intOf v).toNat)
 case atStart => exact ⟨0, Nat.zero_le _, rfl, fun i hi => absurd hi (Nat.not_lt_zero _), 0, rfl⟩
 case round =>
  obtain ⟨k, hk, rfl, hr, m, rfl⟩ := hrel
  have HR := hid hr
  clear hr
  by_cases hlt : k < n
  · have d3 : (k : Int) < (n : Int) := by omega
    have k0 : (0 : Int) ≤ (k : Int) := by omega
    go_wp2_with fail
    go_loopw [4] (fun v wr => ∃ j : Nat, j ≤ k ∧ v = .int .i64 (j : Int) ∧ (∀ i, i < j → (o k).nm ≠ (o i).nm) ∧ ∃ m, wr = w.drewN m) (fun v _ => k - (intOf v).toNat)
    case atStart => exact ⟨0, Nat.zero_le _, rfl, fun i hi => absurd hi (Nat.not_lt_zero _), m, rfl⟩
    case round =>
     obtain ⟨j, hj, rfl, hq, m2, rfl⟩ := hrel
     have HQ := hid hq
     clear hq
     by_cases hjk : j < k
     · have d4 : (j : Int) < (k : Int) := by omega
       have d5 : (j : Int) < (n : Int) := by omega
       have j0 : (0 : Int) ≤ (j : Int) := by omega
       rcases HH.out with q0 | ⟨b, off, rfl, hbl, hc⟩
       · omega
       have c0 := (hc k hlt).1
       have c1 := (hc j (by omega)).1
       clear hc
       obtain ⟨x, hx⟩ : ∃ x, (o k).nm = x := ⟨_, rfl⟩
       obtain ⟨y, hy⟩ : ∃ y, (o j).nm = y := ⟨_, rfl⟩
       rw [hx] at c0
       rw [hy] at c1
       have HX := hid hx
       have HY := hid hy
       clear hx hy
       by_cases e : x = y
       · have b1 : (x.toList == y.toList) = true := (ba_beqE x y).trans (decide_eq_true e)
         have E : Hid (pb (dfP n o) = false) := pb_f fun hh => hh.2 k hlt j hjk (by rw [HX.out, HY.out]; exact e)
         clear e
         go_wp2_with fail
         go_quiet (fail)
         go_wp2
         go_ret
         exact ⟨by rw [E.out]; rfl, _, World.drewN_drewN _ _ _⟩
       · have b1 : (x.toList == y.toList) = false := (ba_beqE x y).trans (decide_eq_false e)
         have N : Hid (∀ i, i < j + 1 → (o k).nm ≠ (o i).nm) := fun i hi => by
          by_cases q : i = j
          · rw [q, HX.out, HY.out]; exact e
          · exact HQ.out i (by omega)
         clear e
         go_wp2_with fail
         go_quiet (fail)
         go_wp2
         go_roundw
         case rel => exact ⟨j + 1, by omega, by go_num, N.out, _, rfl⟩
         case measure => simp [intOf]; omega
     · have d4 : ¬ (j : Int) < (k : Int) := by omega
       have N : Hid (∀ i, i < k + 1 → ∀ j, j < i → (o i).nm ≠ (o j).nm) := fun i hi q hq => by
        by_cases e : i = k
        · subst e; exact HQ.out q (by omega)
        · exact HR.out i (by omega) q hq
       go_wp2
       go_roundw
       case rel => exact ⟨k + 1, by omega, by go_num, N.out, _, rfl⟩
       case measure => simp [intOf]; omega
  · have d3 : ¬ (k : Int) < (n : Int) := by omega
    have N : Hid (∀ i, i < n → ∀ j, j < i → (o i).nm ≠ (o j).nm) := fun i hi q hq => HR.out i (by omega) q hq
    by_cases h30 : n ≤ 30
    · have d4 : (n : Int) ≤ 30 := by omega
      have E : Hid (pb (dfP n o) = true) := pb_t ⟨h30, N.out⟩
      go_wp2
      go_ret
      exact ⟨by rw [E.out]; rfl, _, rfl⟩
    · have d4 : ¬ (n : Int) ≤ 30 := by omega
      have E : Hid (pb (dfP n o) = false) := pb_f fun hh => h30 hh.1
      go_wp2
      go_ret
      exact ⟨by rw [E.out]; rfl, _, rfl⟩
theorem Hps.drewN {w : World} {a : Option Addr} {n cap : Nat} {o : Nat → Hp} (h : Hps w a n cap o) (m : Nat) : Hps (w.drewN m) a n cap o := h
set_option maxRecDepth 20000 in
set_option maxHeartbeats 4000000 in
theorem sRqF (r : Rq) (hb : RqB r 1048576) (w : World) (h : RqIn w r) :
 Calls Tryz.prog 46 #[.agg #[.string r.mt, .string r.pt, .slice r.qs.ad r.qs.n r.qs.cap, .slice r.hs.ad r.hs.n r.hs.cap, .string r.bd]] w fun e w' => e = .returned (.int .i64 (rqV r)) ∧ Below w.heap.size w w' := by
 obtain ⟨mt, pt, ⟨a1, n1, c1, o1⟩, ⟨a2, n2, c2, o2⟩, bd⟩ := r
 dsimp only
 obtain ⟨W0, hW0⟩ : ∃ W, W = w.alloc (.cells #[.string mt, .string pt, .slice a1 n1 c1, .slice a2 n2 c2, .string bd] 25) := ⟨_, rfl⟩
 have A0 : Hid (RowAt W0 w.heap.size 25 #[.string mt, .string pt, .slice a1 n1 c1, .slice a2 n2 c2, .string bd]) := by rw [hW0]; exact RowAt.new _ _ _
 have B0 : Hid (Below w.heap.size w W0) := by rw [hW0]; exact balHp (Below.refl _ _) _
 have HQ := hid (h.qs.below B0.out)
 have HN := hid (h.hs.below B0.out)
 have M1 := hid (sMeth mt hb.mt W0)
 have D1 := hid (sDiff a1 n1 c1 o1 hb.qs.1 W0 HQ.out)
 have D2 := fun m => hid (sDiff a2 n2 c2 o2 hb.hs.1 (W0.drewN m) (HN.out.drewN m))
 have hp := hb.pt
 have hbd := hb.bd
 have hn1 := hb.qs.1
 have hn2 := hb.hs.1
 have SQ := hid hb.qs.2
 have SH := hid hb.hs.2
 dsimp only at hp hbd hn1 hn2 SQ SH HQ HN
 clear h hb
 have BAD : Hid (¬ rqP ⟨mt, pt, ⟨a1, n1, c1, o1⟩, ⟨a2, n2, c2, o2⟩, bd⟩ → rqV ⟨mt, pt, ⟨a1, n1, c1, o1⟩, ⟨a2, n2, c2, o2⟩, bd⟩ = 1) := rqV_f
 have GOOD : Hid (rqP ⟨mt, pt, ⟨a1, n1, c1, o1⟩, ⟨a2, n2, c2, o2⟩, bd⟩ → rqV ⟨mt, pt, ⟨a1, n1, c1, o1⟩, ⟨a2, n2, c2, o2⟩, bd⟩ = 0) := rqV_t
 obtain ⟨V, hV⟩ : ∃ V, V = rqV ⟨mt, pt, ⟨a1, n1, c1, o1⟩, ⟨a2, n2, c2, o2⟩, bd⟩ := ⟨_, rfl⟩
 rw [← hV] at BAD GOOD
 rw [← hV]
 clear hV
 have x0 := A0.out.cell 0
 have x1 := A0.out.cell 1
 have x2 := A0.out.cell 2
 have x3 := A0.out.cell 3
 have x4 := A0.out.cell 4
 go_enter Tryz.func46, Tryz.ntmps46
 go_wp2_with fail
 rw [← hW0]
 clear hW0
 refine M1.out.mono ?_
 rintro e w1 ⟨rfl, hw1⟩
 obtain rfl := hw1.symm
 by_cases p1 : mtP mt
 case neg =>
  have E : Hid (V = 1) := BAD.out fun hh => p1 hh.1
  rw [pb_f p1]
  go_wp2
  go_ret
  exact ⟨by rw [E.out]; rfl, B0.out⟩
 rw [pb_t p1]
 by_cases p2 : 1 ≤ pt.size
 case neg =>
  have E : Hid (V = 1) := BAD.out fun hh => p2 hh.2.1.1
  have d1 : (pt.size : Int) < 1 := by omega
  go_wp2
  go_ret
  exact ⟨by rw [E.out]; rfl, B0.out⟩
 have d1 : ¬ (pt.size : Int) < 1 := by omega
 by_cases p3 : pt.size ≤ 1000
 case neg =>
  have E : Hid (V = 1) := BAD.out fun hh => p3 hh.2.1.2.1
  have d2 : (1000 : Int) < (pt.size : Int) := by omega
  go_wp2
  go_ret
  exact ⟨by rw [E.out]; rfl, B0.out⟩
 have d2 : ¬ (1000 : Int) < (pt.size : Int) := by omega
 have i0 : (0 : Int) < (pt.size : Int) := by omega
 by_cases p4 : (pt[0]'(by omega)).toNat = 47
 case neg =>
  have E : Hid (V = 1) := BAD.out fun hh => p4 (by rw [hh.2.1.2.2]; rfl)
  have d3 : (((pt[0]'(by omega)).toNat : Int) != 47) = true := by rw [bne_iff_ne]; omega
  go_wp2
  go_ret
  exact ⟨by rw [E.out]; rfl, B0.out⟩
 have d3 : (((pt[0]'(by omega)).toNat : Int) != 47) = false := by rw [bne_eq_false_iff_eq]; omega
 by_cases p5 : n1 ≤ 30
 case neg =>
  have E : Hid (V = 1) := BAD.out fun hh => p5 hh.2.2.1.1
  have d4 : (30 : Int) < (n1 : Int) := by omega
  go_wp2
  go_ret
  exact ⟨by rw [E.out]; rfl, B0.out⟩
 have d4 : ¬ (30 : Int) < (n1 : Int) := by omega
 by_cases p6 : n2 ≤ 30
 case neg =>
  have E : Hid (V = 1) := BAD.out fun hh => p6 hh.2.2.2.1.1
  have d5 : (30 : Int) < (n2 : Int) := by omega
  go_wp2
  go_ret
  exact ⟨by rw [E.out]; rfl, B0.out⟩
 have d5 : ¬ (30 : Int) < (n2 : Int) := by omega
 go_wp2_with fail
 refine D1.out.mono ?_
 rintro e w1 ⟨rfl, m1, rfl⟩
 by_cases p7 : dfP n1 o1
 case neg =>
  have E : Hid (V = 1) := BAD.out fun hh => p7 hh.2.2.1
  rw [pb_f p7]
  go_wp2
  go_ret
  exact ⟨by rw [E.out]; rfl, below_drewN B0.out _⟩
 rw [pb_t p7]
 go_wp2_with fail
 refine (D2 _).out.mono ?_
 rintro e w1 ⟨rfl, m2, rfl⟩
 by_cases p8 : dfP n2 o2
 case neg =>
  have E : Hid (V = 1) := BAD.out fun hh => p8 hh.2.2.2.1
  rw [pb_f p8]
  go_wp2
  go_ret
  exact ⟨by rw [E.out]; rfl, below_drewN B0.out _⟩
 rw [pb_t p8]
 obtain ⟨W1, hW1⟩ : ∃ W, W = W0.drewN (m1 + m2) := ⟨_, rfl⟩
 have A1 : Hid (RowAt W1 w.heap.size 25 #[.string mt, .string pt, .slice a1 n1 c1, .slice a2 n2 c2, .string bd]) := by rw [hW1]; exact A0.out
 have B1 : Hid (Below w.heap.size w W1) := by rw [hW1]; exact below_drewN B0.out _
 have HQ1 : Hid (Hps W1 a1 n1 c1 o1) := by rw [hW1]; exact HQ.out
 have HN1 : Hid (Hps W1 a2 n2 c2 o2) := by rw [hW1]; exact HN.out
 rw [World.drewN_drewN, ← hW1]
 clear hW1 x0 x1 x2 x3 x4 A0 B0 HQ HN D1 D2 M1
 have x2 := A1.out.cell 2
 have x3 := A1.out.cell 3
 have x4 := A1.out.cell 4
 have P0 : Hid (mtP mt ∧ ptP pt ∧ dfP n1 o1 ∧ dfP n2 o2) := ⟨p1, ⟨p2, p3, UInt8.toNat_inj.1 p4⟩, p7, p8⟩
 clear p1 p7 p8 p4
 by_cases p9 : bd.size ≤ 100000
 case neg =>
  have E : Hid (V = 1) := BAD.out fun hh => p9 hh.2.2.2.2.1
  have d6 : (100000 : Int) < (bd.size : Int) := by omega
  go_wp2
  go_ret
  exact ⟨by rw [E.out]; rfl, B1.out⟩
 have d6 : ¬ (100000 : Int) < (bd.size : Int) := by omega
 go_wp2_with fail
 clear d1 d2 d3 d4 d5 d6
 go_loopw [3] (fun v wr => ∃ k : Nat, k ≤ n1 ∧ v = .int .i64 (k : Int) ∧ (∀ i, i < k → qyP (o1 i)) ∧ wr = W1) (fun v _ => n1 - (intOf v).toNat)
 case atStart => exact ⟨0, Nat.zero_le _, rfl, fun i hi => absurd hi (Nat.not_lt_zero _), rfl⟩
 case round =>
  obtain ⟨k, hk, rfl, hr, hwr⟩ := hrel
  obtain rfl := hwr.symm
  have HR := hid hr
  clear hr
  by_cases hlt : k < n1
  · have e3 : (k : Int) < (n1 : Int) := by omega
    have k0 : (0 : Int) ≤ (k : Int) := by omega
    rcases HQ1.out.2 with q0 | ⟨b, off, rfl, hbl, hc⟩
    · omega
    have c0 := (hc k hlt).1
    have c1' := (hc k hlt).2
    clear hc
    have s0 := (SQ.out k hlt).1
    have s1 := (SQ.out k hlt).2
    obtain ⟨Y, hY⟩ : ∃ Y, o1 k = Y := ⟨_, rfl⟩
    rw [hY] at c0 c1' s0 s1
    have HY := hid hY
    clear hY
    obtain ⟨x, y⟩ := Y
    dsimp only at c0 c1' s0 s1
    by_cases g1 : 1 ≤ x.size
    case neg =>
     have E : Hid (V = 1) := BAD.out fun hh => g1 (by have := (hh.2.2.2.2.2.1 k hlt).1; dsimp only at this; rw [HY.out] at this; exact this)
     have f1 : (x.size : Int) < 1 := by omega
     go_wp2
     go_ret
     exact ⟨by rw [E.out]; rfl, B1.out⟩
    have f1 : ¬ (x.size : Int) < 1 := by omega
    by_cases g2 : x.size ≤ 100
    case neg =>
     have E : Hid (V = 1) := BAD.out fun hh => g2 (by have := (hh.2.2.2.2.2.1 k hlt).2.1; dsimp only at this; rw [HY.out] at this; exact this)
     have f2 : (100 : Int) < (x.size : Int) := by omega
     go_wp2
     go_ret
     exact ⟨by rw [E.out]; rfl, B1.out⟩
    have f2 : ¬ (100 : Int) < (x.size : Int) := by omega
    by_cases g3 : y.size ≤ 1000
    case neg =>
     have E : Hid (V = 1) := BAD.out fun hh => g3 (by have := (hh.2.2.2.2.2.1 k hlt).2.2; dsimp only at this; rw [HY.out] at this; exact this)
     have f3 : (1000 : Int) < (y.size : Int) := by omega
     go_wp2
     go_ret
     exact ⟨by rw [E.out]; rfl, B1.out⟩
    have f3 : ¬ (1000 : Int) < (y.size : Int) := by omega
    have N : Hid (∀ i, i < k + 1 → qyP (o1 i)) := fun i hi => by
     by_cases q : i = k
     · rw [q, HY.out]; exact ⟨g1, g2, g3⟩
     · exact HR.out i (by omega)
    go_wp2
    go_roundw
    case rel => exact ⟨k + 1, by omega, by go_num, N.out, trivial⟩
    case measure => simp [intOf]; omega
  have e3 : ¬ (k : Int) < (n1 : Int) := by omega
  have QQ : Hid (∀ i, i < n1 → qyP (o1 i)) := fun i hi => HR.out i (by omega)
  clear HR
  go_wp2_with fail
  go_loopw [4] (fun v wr => ∃ k : Nat, k ≤ n2 ∧ v = .int .i64 (k : Int) ∧ (∀ i, i < k → hdP (o2 i)) ∧ wr = W1) (fun v _ => n2 - (intOf v).toNat)
  case atStart => exact ⟨0, Nat.zero_le _, rfl, fun i hi => absurd hi (Nat.not_lt_zero _), rfl⟩
  case round =>
   obtain ⟨j, hj, rfl, hr, hwr⟩ := hrel
   obtain rfl := hwr.symm
   have HR := hid hr
   clear hr
   by_cases hlt : j < n2
   · have e4 : (j : Int) < (n2 : Int) := by omega
     have j0 : (0 : Int) ≤ (j : Int) := by omega
     rcases HN1.out.2 with q0 | ⟨b, off, rfl, hbl, hc⟩
     · omega
     have c0 := (hc j hlt).1
     have c1' := (hc j hlt).2
     clear hc
     have s0 := (SH.out j hlt).1
     have s1 := (SH.out j hlt).2
     obtain ⟨Y, hY⟩ : ∃ Y, o2 j = Y := ⟨_, rfl⟩
     rw [hY] at c0 c1' s0 s1
     have HY := hid hY
     clear hY
     obtain ⟨x, y⟩ := Y
     dsimp only at c0 c1' s0 s1
     go_wp2_with fail
     refine (sHName x s0 _).mono ?_
     rintro e w2 ⟨rfl, hw2⟩
     obtain rfl := hw2.symm
     by_cases g1 : hnP x
     case neg =>
      have E : Hid (V = 1) := BAD.out fun hh => g1 (by have := (hh.2.2.2.2.2.2 j hlt).1; dsimp only at this; rw [HY.out] at this; exact this)
      rw [pb_f g1]
      go_wp2
      go_ret
      exact ⟨by rw [E.out]; rfl, B1.out⟩
     rw [pb_t g1]
     go_wp2_with fail
     refine (sHVal y s1 _).mono ?_
     rintro e w2 ⟨rfl, hw2⟩
     obtain rfl := hw2.symm
     by_cases g2 : hvP y
     case neg =>
      have E : Hid (V = 1) := BAD.out fun hh => g2 (by have := (hh.2.2.2.2.2.2 j hlt).2; dsimp only at this; rw [HY.out] at this; exact this)
      rw [pb_f g2]
      go_wp2
      go_ret
      exact ⟨by rw [E.out]; rfl, B1.out⟩
     rw [pb_t g2]
     have N : Hid (∀ i, i < j + 1 → hdP (o2 i)) := fun i hi => by
      by_cases q : i = j
      · rw [q, HY.out]; exact ⟨g1, g2⟩
      · exact HR.out i (by omega)
     clear g1 g2
     go_wp2
     go_roundw
     case rel => exact ⟨j + 1, by omega, by go_num, N.out, trivial⟩
     case measure => simp [intOf]; omega
   have e4 : ¬ (j : Int) < (n2 : Int) := by omega
   have E : Hid (V = 0) := GOOD.out ⟨P0.out.1, P0.out.2.1, P0.out.2.2.1, P0.out.2.2.2, p9, QQ.out, fun i hi => HR.out i (by dsimp only at hi; omega)⟩
   go_wp2
   go_ret
   exact ⟨by rw [E.out]; rfl, B1.out⟩
end Go.Proofs.YtkcjigelenofhaaGreatDoor
