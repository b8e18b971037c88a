import Derived.Test.YtkppgjndmbbobaaGreatDoorG2
namespace Go.Proofs.YtkppgjndmbbobaaGreatDoor
open Go.RowKit
/-! When requests are right. -/
def mtC (c : Nat) : Prop := 65 ≤ c ∧ c ≤ 90
def nmC (c : Nat) : Prop := (97 ≤ c ∧ c ≤ 122) ∨ (48 ≤ c ∧ c ≤ 57) ∨ c = 45
def vlC (c : Nat) : Prop := 32 ≤ c ∧ c ≤ 126
def idC (c : Nat) : Prop := (97 ≤ c ∧ c ≤ 122) ∨ (48 ≤ c ∧ c ≤ 57)
def lenB : ByteArray := ⟨#[108, 101, 110, 103, 116, 104]⟩
def mtP (s : ByteArray) : Prop := 1 ≤ s.size ∧ s.size ≤ 10 ∧ ∀ i (h : i < s.size), mtC (s[i]'h).toNat
def hnP (s : ByteArray) : Prop := 1 ≤ s.size ∧ s.size ≤ 60 ∧ s ≠ lenB ∧ ∀ i (h : i < s.size), nmC (s[i]'h).toNat
def hvP (s : ByteArray) : Prop := s.size ≤ 1000 ∧ (∀ h : 0 < s.size, s[0]'h ≠ 32 ∧ s[s.size - 1]'(by omega) ≠ 32) ∧ ∀ i (h : i < s.size), vlC (s[i]'h).toNat
def idP (s : ByteArray) : Prop := 1 ≤ s.size ∧ s.size ≤ 40 ∧ ∀ i (h : i < s.size), idC (s[i]'h).toNat
def dfP (n : Nat) (o : Nat → Hp) : Prop := n ≤ 30 ∧ ∀ i, i < n → ∀ k, k < i → (o i).nm ≠ (o k).nm
def qyP (p : Hp) : Prop := 1 ≤ p.nm.size ∧ p.nm.size ≤ 100 ∧ p.vl.size ≤ 1000
def hdP (p : Hp) : Prop := hnP p.nm ∧ hvP p.vl
def ptP (s : ByteArray) : Prop := ∃ h : 1 ≤ s.size, s.size ≤ 1000 ∧ s[0]'h = 47
def rqP (r : Rq) : Prop := mtP r.mt ∧ ptP r.pt ∧ dfP r.qs.n r.qs.o ∧ dfP r.hs.n r.hs.o ∧ r.bd.size ≤ 100000 ∧ (∀ i, i < r.qs.n → qyP (r.qs.o i)) ∧ ∀ i, i < r.hs.n → hdP (r.hs.o i)
noncomputable def rqV (r : Rq) : Int := if pb (rqP r) then 0 else 1
theorem rqV_t {r : Rq} (h : rqP r) : rqV r = 0 := by unfold rqV; rw [pb_t h]; rfl
theorem rqV_f {r : Rq} (h : ¬ rqP r) : rqV r = 1 := by unfold rqV; rw [pb_f h]; rfl
theorem ba_beqE (a b : ByteArray) : (a.toList == b.toList) = decide (a = b) := by
  have e : ∀ x : ByteArray, x.toList = x.data.toList := fun x => by rw [ByteArray.toList_eq]
  rw [e, e]
  by_cases h : a = b
  · subst h; simp
  · rw [decide_eq_false h]
    simp only [beq_eq_false_iff_ne]
    intro hh
    apply h
    cases a
    cases b
    congr 1
    exact Array.toList_inj.1 hh
theorem lenB_list : lenB.toList = [108, 101, 110, 103, 116, 104] := by rw [ByteArray.toList_eq]; rfl
theorem ba_empty (s : ByteArray) : s.toList.isEmpty = decide (s.size = 0) := by
  rw [ByteArray.toList_eq]
  by_cases h : s.size = 0
  · rw [decide_eq_true h]
    have : s.data.toList.length = 0 := by simpa using h
    rw [List.eq_nil_of_length_eq_zero this]
    rfl
  · rw [decide_eq_false h]
    cases hl : s.data.toList with
    | nil => exact absurd (by have := congrArg List.length hl; simpa using this) h
    | cons a b => rfl
set_option maxRecDepth 20000 in
set_option maxHeartbeats 4000000 in
theorem sMeth (s : ByteArray) (hs : s.size ≤ 1048576) (w : World) :
    Calls Tryz.prog 86 #[.string s] w fun e w' => e = .returned (.bool (pb (mtP s))) ∧ w' = w := by
  go_enter Tryz.func86, Tryz.ntmps86
  go_wp2
  go_loop [3] (fun v => ∃ k : Nat, k ≤ s.size ∧ v = .int .i64 (k : Int) ∧ ∀ i (h : i < s.size), i < k → mtC (s[i]'h).toNat) (fun v => s.size - (intOf v).toNat)
  case atStart => exact ⟨0, Nat.zero_le _, rfl, fun i _ hi => absurd hi (Nat.not_lt_zero _)⟩
  case round =>
    obtain ⟨k, hk, rfl, hr⟩ := hrel
    have HR := hid hr
    clear hr
    by_cases hlt : k < s.size
    · have d3 : (k : Int) < (s.size : Int) := by omega
      have cb := (s[k]'hlt).toNat_lt
      rcases (by omega : (0 ≤ (s[k]'hlt).toNat ∧ (s[k]'hlt).toNat ≤ 64) ∨ (65 ≤ (s[k]'hlt).toNat ∧ (s[k]'hlt).toNat ≤ 90) ∨ (91 ≤ (s[k]'hlt).toNat ∧ (s[k]'hlt).toNat ≤ 255)) with h | h | h
      · have k0 : ((s[k]'hlt).toNat : Int) < 65 := by omega
        have k1 : ¬ (90 : Int) < ((s[k]'hlt).toNat : Int) := by omega
        have E : Hid (pb (mtP s) = false) := pb_f fun hh => by have := hh.2.2 k hlt; unfold mtC at this; omega
        clear h cb
        go_wp2
        go_ret
        exact ⟨by rw [E.out]; rfl, rfl⟩
      · have k0 : ¬ ((s[k]'hlt).toNat : Int) < 65 := by omega
        have k1 : ¬ (90 : Int) < ((s[k]'hlt).toNat : Int) := by omega
        have N : Hid (∀ i (h : i < s.size), i < k + 1 → mtC (s[i]'h).toNat) := fun i h hi => by
          by_cases e : i = k
          · subst e; unfold mtC; omega
          · exact HR.out i h (by omega)
        clear h cb
        go_wp2
        exact ⟨⟨k + 1, by omega, by go_num, N.out⟩, by simp [intOf]; omega⟩
      · have k0 : ¬ ((s[k]'hlt).toNat : Int) < 65 := by omega
        have k1 : (90 : Int) < ((s[k]'hlt).toNat : Int) := by omega
        have E : Hid (pb (mtP s) = false) := pb_f fun hh => by have := hh.2.2 k hlt; unfold mtC at this; omega
        clear h cb
        go_wp2
        go_ret
        exact ⟨by rw [E.out]; rfl, rfl⟩
    · have d3 : ¬ (k : Int) < (s.size : Int) := by omega
      have AL : Hid (∀ i (h : i < s.size), mtC (s[i]'h).toNat) := fun i h => HR.out i h (by omega)
      by_cases h1 : 1 ≤ s.size
      · have e1 : (1 : Int) ≤ (s.size : Int) := by omega
        by_cases h2 : s.size ≤ 10
        · have e2 : (s.size : Int) ≤ 10 := by omega
          have E : Hid (pb (mtP s) = true) := pb_t ⟨h1, h2, AL.out⟩
          go_wp2
          go_ret
          exact ⟨by rw [E.out]; rfl, rfl⟩
        · have e2 : ¬ (s.size : Int) ≤ 10 := by omega
          have E : Hid (pb (mtP s) = false) := pb_f fun hh => h2 hh.2.1
          go_wp2
          go_ret
          exact ⟨by rw [E.out]; rfl, rfl⟩
      · have e1 : ¬ (1 : Int) ≤ (s.size : Int) := by omega
        have E : Hid (pb (mtP s) = false) := pb_f fun hh => h1 hh.1
        go_wp2
        go_ret
        exact ⟨by rw [E.out]; rfl, rfl⟩
set_option maxRecDepth 20000 in
set_option maxHeartbeats 4000000 in
theorem sHName (s : ByteArray) (hs : s.size ≤ 1048576) (w : World) :
    Calls Tryz.prog 88 #[.string s] w fun e w' => e = .returned (.bool (pb (hnP s))) ∧ w' = w := by
  go_enter Tryz.func88, Tryz.ntmps88
  go_wp2
  go_loop [3] (fun v => ∃ k : Nat, k ≤ s.size ∧ v = .int .i64 (k : Int) ∧ ∀ i (h : i < s.size), i < k → nmC (s[i]'h).toNat) (fun v => s.size - (intOf v).toNat)
  case atStart => exact ⟨0, Nat.zero_le _, rfl, fun i _ hi => absurd hi (Nat.not_lt_zero _)⟩
  case round =>
    obtain ⟨k, hk, rfl, hr⟩ := hrel
    have HR := hid hr
    clear hr
    by_cases hlt : k < s.size
    · have d3 : (k : Int) < (s.size : Int) := by omega
      have cb := (s[k]'hlt).toNat_lt
      rcases (by omega : (0 ≤ (s[k]'hlt).toNat ∧ (s[k]'hlt).toNat ≤ 44) ∨ (s[k]'hlt).toNat = 45 ∨ (46 ≤ (s[k]'hlt).toNat ∧ (s[k]'hlt).toNat ≤ 47) ∨ (48 ≤ (s[k]'hlt).toNat ∧ (s[k]'hlt).toNat ≤ 57) ∨ (58 ≤ (s[k]'hlt).toNat ∧ (s[k]'hlt).toNat ≤ 96) ∨ (97 ≤ (s[k]'hlt).toNat ∧ (s[k]'hlt).toNat ≤ 122) ∨ (123 ≤ (s[k]'hlt).toNat ∧ (s[k]'hlt).toNat ≤ 255)) with h | h | h | h | h | h | h
      · have k0 : ¬ (97 : Int) ≤ ((s[k]'hlt).toNat : Int) := by omega
        have k1 : ((s[k]'hlt).toNat : Int) ≤ 122 := by omega
        have k2 : ¬ (48 : Int) ≤ ((s[k]'hlt).toNat : Int) := by omega
        have k3 : ((s[k]'hlt).toNat : Int) ≤ 57 := by omega
        have k4 : (((s[k]'hlt).toNat : Int) == 45) = false := by rw [beq_eq_false_iff_ne]; omega
        have E : Hid (pb (hnP s) = false) := pb_f fun hh => by have := hh.2.2.2 k hlt; unfold nmC at this; omega
        clear h cb
        go_wp2
        go_ret
        exact ⟨by rw [E.out]; rfl, rfl⟩
      · have k0 : ¬ (97 : Int) ≤ ((s[k]'hlt).toNat : Int) := by omega
        have k1 : ((s[k]'hlt).toNat : Int) ≤ 122 := by omega
        have k2 : ¬ (48 : Int) ≤ ((s[k]'hlt).toNat : Int) := by omega
        have k3 : ((s[k]'hlt).toNat : Int) ≤ 57 := by omega
        have k4 : (((s[k]'hlt).toNat : Int) == 45) = true := by rw [beq_iff_eq]; omega
        have N : Hid (∀ i (h : i < s.size), i < k + 1 → nmC (s[i]'h).toNat) := fun i h hi => by
          by_cases e : i = k
          · subst e; unfold nmC; omega
          · exact HR.out i h (by omega)
        clear h cb
        go_wp2
        exact ⟨⟨k + 1, by omega, by go_num, N.out⟩, by simp [intOf]; omega⟩
      · have k0 : ¬ (97 : Int) ≤ ((s[k]'hlt).toNat : Int) := by omega
        have k1 : ((s[k]'hlt).toNat : Int) ≤ 122 := by omega
        have k2 : ¬ (48 : Int) ≤ ((s[k]'hlt).toNat : Int) := by omega
        have k3 : ((s[k]'hlt).toNat : Int) ≤ 57 := by omega
        have k4 : (((s[k]'hlt).toNat : Int) == 45) = false := by rw [beq_eq_false_iff_ne]; omega
        have E : Hid (pb (hnP s) = false) := pb_f fun hh => by have := hh.2.2.2 k hlt; unfold nmC at this; omega
        clear h cb
        go_wp2
        go_ret
        exact ⟨by rw [E.out]; rfl, rfl⟩
      · have k0 : ¬ (97 : Int) ≤ ((s[k]'hlt).toNat : Int) := by omega
        have k1 : ((s[k]'hlt).toNat : Int) ≤ 122 := by omega
        have k2 : (48 : Int) ≤ ((s[k]'hlt).toNat : Int) := by omega
        have k3 : ((s[k]'hlt).toNat : Int) ≤ 57 := by omega
        have k4 : (((s[k]'hlt).toNat : Int) == 45) = false := by rw [beq_eq_false_iff_ne]; omega
        have N : Hid (∀ i (h : i < s.size), i < k + 1 → nmC (s[i]'h).toNat) := fun i h hi => by
          by_cases e : i = k
          · subst e; unfold nmC; omega
          · exact HR.out i h (by omega)
        clear h cb
        go_wp2
        exact ⟨⟨k + 1, by omega, by go_num, N.out⟩, by simp [intOf]; omega⟩
      · have k0 : ¬ (97 : Int) ≤ ((s[k]'hlt).toNat : Int) := by omega
        have k1 : ((s[k]'hlt).toNat : Int) ≤ 122 := by omega
        have k2 : (48 : Int) ≤ ((s[k]'hlt).toNat : Int) := by omega
        have k3 : ¬ ((s[k]'hlt).toNat : Int) ≤ 57 := by omega
        have k4 : (((s[k]'hlt).toNat : Int) == 45) = false := by rw [beq_eq_false_iff_ne]; omega
        have E : Hid (pb (hnP s) = false) := pb_f fun hh => by have := hh.2.2.2 k hlt; unfold nmC at this; omega
        clear h cb
        go_wp2
        go_ret
        exact ⟨by rw [E.out]; rfl, rfl⟩
      · have k0 : (97 : Int) ≤ ((s[k]'hlt).toNat : Int) := by omega
        have k1 : ((s[k]'hlt).toNat : Int) ≤ 122 := by omega
        have k2 : (48 : Int) ≤ ((s[k]'hlt).toNat : Int) := by omega
        have k3 : ¬ ((s[k]'hlt).toNat : Int) ≤ 57 := by omega
        have k4 : (((s[k]'hlt).toNat : Int) == 45) = false := by rw [beq_eq_false_iff_ne]; omega
        have N : Hid (∀ i (h : i < s.size), i < k + 1 → nmC (s[i]'h).toNat) := fun i h hi => by
          by_cases e : i = k
          · subst e; unfold nmC; omega
          · exact HR.out i h (by omega)
        clear h cb
        go_wp2
        exact ⟨⟨k + 1, by omega, by go_num, N.out⟩, by simp [intOf]; omega⟩
      · have k0 : (97 : Int) ≤ ((s[k]'hlt).toNat : Int) := by omega
        have k1 : ¬ ((s[k]'hlt).toNat : Int) ≤ 122 := by omega
        have k2 : (48 : Int) ≤ ((s[k]'hlt).toNat : Int) := by omega
        have k3 : ¬ ((s[k]'hlt).toNat : Int) ≤ 57 := by omega
        have k4 : (((s[k]'hlt).toNat : Int) == 45) = false := by rw [beq_eq_false_iff_ne]; omega
        have E : Hid (pb (hnP s) = false) := pb_f fun hh => by have := hh.2.2.2 k hlt; unfold nmC at this; omega
        clear h cb
        go_wp2
        go_ret
        exact ⟨by rw [E.out]; rfl, rfl⟩
    · have d3 : ¬ (k : Int) < (s.size : Int) := by omega
      have AL : Hid (∀ i (h : i < s.size), nmC (s[i]'h).toNat) := fun i h => HR.out i h (by omega)
      by_cases h1 : 1 ≤ s.size
      · have e1 : (1 : Int) ≤ (s.size : Int) := by omega
        by_cases h2 : s.size ≤ 60
        · have e2 : (s.size : Int) ≤ 60 := by omega
          by_cases h3 : s ≠ lenB
          · have e3 : (s.toList == [108, 101, 110, 103, 116, 104]) = false := by rw [← lenB_list]; exact (ba_beqE s lenB).trans (decide_eq_false h3)
            have E : Hid (pb (hnP s) = true) := pb_t ⟨h1, h2, h3, AL.out⟩
            go_wp2
            go_ret
            exact ⟨by rw [E.out]; rfl, rfl⟩
          · have e3 : (s.toList == [108, 101, 110, 103, 116, 104]) = true := by rw [← lenB_list]; exact (ba_beqE s lenB).trans (decide_eq_true (Classical.not_not.1 h3))
            have E : Hid (pb (hnP s) = false) := pb_f fun hh => h3 hh.2.2.1
            go_wp2
            go_ret
            exact ⟨by rw [E.out]; rfl, rfl⟩
        · have e2 : ¬ (s.size : Int) ≤ 60 := by omega
          have E : Hid (pb (hnP s) = false) := pb_f fun hh => h2 hh.2.1
          go_wp2
          go_ret
          exact ⟨by rw [E.out]; rfl, rfl⟩
      · have e1 : ¬ (1 : Int) ≤ (s.size : Int) := by omega
        have E : Hid (pb (hnP s) = false) := pb_f fun hh => h1 hh.1
        go_wp2
        go_ret
        exact ⟨by rw [E.out]; rfl, rfl⟩
set_option maxRecDepth 20000 in
set_option maxHeartbeats 4000000 in
theorem sId (s : ByteArray) (hs : s.size ≤ 1048576) (w : World) :
    Calls Tryz.prog 47 #[.string s] w fun e w' => e = .returned (.bool (pb (idP s))) ∧ w' = w := by
  go_enter Tryz.func47, Tryz.ntmps47
  go_wp2
  go_loop [3] (fun v => ∃ k : Nat, k ≤ s.size ∧ v = .int .i64 (k : Int) ∧ ∀ i (h : i < s.size), i < k → idC (s[i]'h).toNat) (fun v => s.size - (intOf v).toNat)
  case atStart => exact ⟨0, Nat.zero_le _, rfl, fun i _ hi => absurd hi (Nat.not_lt_zero _)⟩
  case round =>
    obtain ⟨k, hk, rfl, hr⟩ := hrel
    have HR := hid hr
    clear hr
    by_cases hlt : k < s.size
    · have d3 : (k : Int) < (s.size : Int) := by omega
      have cb := (s[k]'hlt).toNat_lt
      rcases (by omega : (0 ≤ (s[k]'hlt).toNat ∧ (s[k]'hlt).toNat ≤ 47) ∨ (48 ≤ (s[k]'hlt).toNat ∧ (s[k]'hlt).toNat ≤ 57) ∨ (58 ≤ (s[k]'hlt).toNat ∧ (s[k]'hlt).toNat ≤ 96) ∨ (97 ≤ (s[k]'hlt).toNat ∧ (s[k]'hlt).toNat ≤ 122) ∨ (123 ≤ (s[k]'hlt).toNat ∧ (s[k]'hlt).toNat ≤ 255)) with h | h | h | h | h
      · have k0 : ¬ (97 : Int) ≤ ((s[k]'hlt).toNat : Int) := by omega
        have k1 : ((s[k]'hlt).toNat : Int) ≤ 122 := by omega
        have k2 : ¬ (48 : Int) ≤ ((s[k]'hlt).toNat : Int) := by omega
        have k3 : ((s[k]'hlt).toNat : Int) ≤ 57 := by omega
        have E : Hid (pb (idP s) = false) := pb_f fun hh => by have := hh.2.2 k hlt; unfold idC at this; omega
        clear h cb
        go_wp2
        go_ret
        exact ⟨by rw [E.out]; rfl, rfl⟩
      · have k0 : ¬ (97 : Int) ≤ ((s[k]'hlt).toNat : Int) := by omega
        have k1 : ((s[k]'hlt).toNat : Int) ≤ 122 := by omega
        have k2 : (48 : Int) ≤ ((s[k]'hlt).toNat : Int) := by omega
        have k3 : ((s[k]'hlt).toNat : Int) ≤ 57 := by omega
        have N : Hid (∀ i (h : i < s.size), i < k + 1 → idC (s[i]'h).toNat) := fun i h hi => by
          by_cases e : i = k
          · subst e; unfold idC; omega
          · exact HR.out i h (by omega)
        clear h cb
        go_wp2
        exact ⟨⟨k + 1, by omega, by go_num, N.out⟩, by simp [intOf]; omega⟩
      · have k0 : ¬ (97 : Int) ≤ ((s[k]'hlt).toNat : Int) := by omega
        have k1 : ((s[k]'hlt).toNat : Int) ≤ 122 := by omega
        have k2 : (48 : Int) ≤ ((s[k]'hlt).toNat : Int) := by omega
        have k3 : ¬ ((s[k]'hlt).toNat : Int) ≤ 57 := by omega
        have E : Hid (pb (idP s) = false) := pb_f fun hh => by have := hh.2.2 k hlt; unfold idC at this; omega
        clear h cb
        go_wp2
        go_ret
        exact ⟨by rw [E.out]; rfl, rfl⟩
      · have k0 : (97 : Int) ≤ ((s[k]'hlt).toNat : Int) := by omega
        have k1 : ((s[k]'hlt).toNat : Int) ≤ 122 := by omega
        have k2 : (48 : Int) ≤ ((s[k]'hlt).toNat : Int) := by omega
        have k3 : ¬ ((s[k]'hlt).toNat : Int) ≤ 57 := by omega
        have N : Hid (∀ i (h : i < s.size), i < k + 1 → idC (s[i]'h).toNat) := fun i h hi => by
          by_cases e : i = k
          · subst e; unfold idC; omega
          · exact HR.out i h (by omega)
        clear h cb
        go_wp2
        exact ⟨⟨k + 1, by omega, by go_num, N.out⟩, by simp [intOf]; omega⟩
      · have k0 : (97 : Int) ≤ ((s[k]'hlt).toNat : Int) := by omega
        have k1 : ¬ ((s[k]'hlt).toNat : Int) ≤ 122 := by omega
        have k2 : (48 : Int) ≤ ((s[k]'hlt).toNat : Int) := by omega
        have k3 : ¬ ((s[k]'hlt).toNat : Int) ≤ 57 := by omega
        have E : Hid (pb (idP s) = false) := pb_f fun hh => by have := hh.2.2 k hlt; unfold idC at this; omega
        clear h cb
        go_wp2
        go_ret
        exact ⟨by rw [E.out]; rfl, rfl⟩
    · have d3 : ¬ (k : Int) < (s.size : Int) := by omega
      have AL : Hid (∀ i (h : i < s.size), idC (s[i]'h).toNat) := fun i h => HR.out i h (by omega)
      by_cases h1 : 1 ≤ s.size
      · have e1 : (1 : Int) ≤ (s.size : Int) := by omega
        by_cases h2 : s.size ≤ 40
        · have e2 : (s.size : Int) ≤ 40 := by omega
          have E : Hid (pb (idP s) = true) := pb_t ⟨h1, h2, AL.out⟩
          go_wp2
          go_ret
          exact ⟨by rw [E.out]; rfl, rfl⟩
        · have e2 : ¬ (s.size : Int) ≤ 40 := by omega
          have E : Hid (pb (idP s) = false) := pb_f fun hh => h2 hh.2.1
          go_wp2
          go_ret
          exact ⟨by rw [E.out]; rfl, rfl⟩
      · have e1 : ¬ (1 : Int) ≤ (s.size : Int) := by omega
        have E : Hid (pb (idP s) = false) := pb_f fun hh => h1 hh.1
        go_wp2
        go_ret
        exact ⟨by rw [E.out]; rfl, rfl⟩
set_option maxRecDepth 20000 in
set_option maxHeartbeats 4000000 in
theorem sHVal (s : ByteArray) (hs : s.size ≤ 1048576) (w : World) :
    Calls Tryz.prog 89 #[.string s] w fun e w' => e = .returned (.bool (pb (hvP s))) ∧ w' = w := by
  go_enter Tryz.func89, Tryz.ntmps89
  go_wp2
  go_loop [3] (fun v => ∃ k : Nat, k ≤ s.size ∧ v = .int .i64 (k : Int) ∧ ∀ i (h : i < s.size), i < k → vlC (s[i]'h).toNat) (fun v => s.size - (intOf v).toNat)
  case atStart => exact ⟨0, Nat.zero_le _, rfl, fun i _ hi => absurd hi (Nat.not_lt_zero _)⟩
  case round =>
    obtain ⟨k, hk, rfl, hr⟩ := hrel
    have HR := hid hr
    clear hr
    by_cases hlt : k < s.size
    · have d3 : (k : Int) < (s.size : Int) := by omega
      have cb := (s[k]'hlt).toNat_lt
      rcases (by omega : (0 ≤ (s[k]'hlt).toNat ∧ (s[k]'hlt).toNat ≤ 31) ∨ (32 ≤ (s[k]'hlt).toNat ∧ (s[k]'hlt).toNat ≤ 126) ∨ (127 ≤ (s[k]'hlt).toNat ∧ (s[k]'hlt).toNat ≤ 255)) with h | h | h
      · have k0 : ((s[k]'hlt).toNat : Int) < 32 := by omega
        have k1 : ¬ (126 : Int) < ((s[k]'hlt).toNat : Int) := by omega
        have E : Hid (pb (hvP s) = false) := pb_f fun hh => by have := hh.2.2 k hlt; unfold vlC at this; omega
        clear h cb
        go_wp2
        go_ret
        exact ⟨by rw [E.out]; rfl, rfl⟩
      · have k0 : ¬ ((s[k]'hlt).toNat : Int) < 32 := by omega
        have k1 : ¬ (126 : Int) < ((s[k]'hlt).toNat : Int) := by omega
        have N : Hid (∀ i (h : i < s.size), i < k + 1 → vlC (s[i]'h).toNat) := fun i h hi => by
          by_cases e : i = k
          · subst e; unfold vlC; omega
          · exact HR.out i h (by omega)
        clear h cb
        go_wp2
        exact ⟨⟨k + 1, by omega, by go_num, N.out⟩, by simp [intOf]; omega⟩
      · have k0 : ¬ ((s[k]'hlt).toNat : Int) < 32 := by omega
        have k1 : (126 : Int) < ((s[k]'hlt).toNat : Int) := by omega
        have E : Hid (pb (hvP s) = false) := pb_f fun hh => by have := hh.2.2 k hlt; unfold vlC at this; omega
        clear h cb
        go_wp2
        go_ret
        exact ⟨by rw [E.out]; rfl, rfl⟩
    · have d3 : ¬ (k : Int) < (s.size : Int) := by omega
      have AL : Hid (∀ i (h : i < s.size), vlC (s[i]'h).toNat) := fun i h => HR.out i h (by omega)
      by_cases h1 : s.size ≤ 1000
      · have e1 : (s.size : Int) ≤ 1000 := by omega
        by_cases h0 : 0 < s.size
        · have e0 : s.toList.isEmpty = false := by rw [ba_empty]; exact decide_eq_false (by omega)
          have g1 : (1 : Int) ≤ (s.size : Int) := by omega
          have g2 : (0 : Int) < (s.size : Int) := by omega
          have g3 : (s.size : Int) - 1 < (s.size : Int) := by omega
          by_cases a0 : (s[0]'h0).toNat = 32
          · have E : Hid (pb (hvP s) = false) := pb_f fun hh => (hh.2.1 h0).1 (UInt8.toNat_inj.1 a0)
            have b0 : (((s[0]'h0).toNat : Int) != 32) = false := by rw [bne_eq_false_iff_eq]; omega
            clear a0
            go_wp2
            go_ret
            exact ⟨by rw [E.out]; rfl, rfl⟩
          · have b0 : (((s[0]'h0).toNat : Int) != 32) = true := by rw [bne_iff_ne]; omega
            by_cases a1 : (s[s.size - 1]'(by omega)).toNat = 32
            · have E : Hid (pb (hvP s) = false) := pb_f fun hh => (hh.2.1 h0).2 (UInt8.toNat_inj.1 a1)
              have b1 : (((s[s.size - 1]'(by omega)).toNat : Int) != 32) = false := by rw [bne_eq_false_iff_eq]; omega
              clear a0 a1
              go_wp2
              go_ret
              exact ⟨by rw [E.out]; rfl, rfl⟩
            · have E : Hid (pb (hvP s) = true) := pb_t ⟨h1, fun h => ⟨fun hh => a0 (by rw [hh]; rfl), fun hh => a1 (by rw [hh]; rfl)⟩, AL.out⟩
              have b1 : (((s[s.size - 1]'(by omega)).toNat : Int) != 32) = true := by rw [bne_iff_ne]; omega
              clear a0 a1
              go_wp2
              go_ret
              exact ⟨by rw [E.out]; rfl, rfl⟩
        · have e0 : s.toList.isEmpty = true := by rw [ba_empty]; exact decide_eq_true (by omega)
          have E : Hid (pb (hvP s) = true) := pb_t ⟨h1, fun h => absurd h h0, AL.out⟩
          go_wp2
          go_ret
          exact ⟨by rw [E.out]; rfl, rfl⟩
      · have e1 : ¬ (s.size : Int) ≤ 1000 := by omega
        have E : Hid (pb (hvP s) = false) := pb_f fun hh => h1 hh.1
        go_wp2
        go_ret
        exact ⟨by rw [E.out]; rfl, rfl⟩
end Go.Proofs.YtkppgjndmbbobaaGreatDoor
