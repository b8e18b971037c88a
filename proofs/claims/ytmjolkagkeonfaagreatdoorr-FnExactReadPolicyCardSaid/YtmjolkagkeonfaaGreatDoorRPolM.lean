import Derived.Test.YtmjolkagkeonfaaGreatDoorRLawSt3
import Derived.Test.YtmjolkagkeonfaaGreatDoorRPb
namespace Go.Proofs.YtmjolkagkeonfaaGreatDoorR
open Go.RowKit
/-! When words, lists, conditions and statements are right. -/
def wdP (s : ByteArray) : Prop := 1 ≤ s.size ∧ s.size ≤ 200 ∧ ∀ i (h : i < s.size), 33 ≤ (s[i]'h).toNat ∧ (s[i]'h).toNat ≤ 126
def cmP (s : ByteArray) : Prop := ∃ i, ∃ h : i < s.size, s[i]'h = 44
def lsP (n : Nat) (ts : Nat → ByteArray) : Prop := 1 ≤ n ∧ n ≤ 20 ∧ ∀ i, i < n → wdP (ts i) ∧ ¬ cmP (ts i)
def cnP (c : Cn) : Prop := ((c.kd = 1 ∨ c.kd = 4) ∧ wdP c.tx ∧ c.tm = 0) ∨ ((c.kd = 2 ∨ c.kd = 3) ∧ c.tx = ⟨#[]⟩ ∧ 0 ≤ c.tm ∧ c.tm ≤ 4102444800)
def isP (n : Nat) (o : Nat → Cn) : Prop := ∀ i, i < n → cnP (o i)
def stP (s : St) : Prop := (s.ef = 1 ∨ s.ef = 2) ∧ lsP s.wo.n s.wo.ts ∧ lsP s.wa.n s.wa.ts ∧ lsP s.wi.n s.wi.ts ∧ isP s.cs.n s.cs.o
def plP (m : Nat) (R : Nat → St) : Prop := m ≤ 50 ∧ ∀ k, k < m → stP (R k) ∧ (R k).cs.n ≤ 10
noncomputable def plV (m : Nat) (R : Nat → St) : Int := if pb (plP m R) then 0 else 1
theorem stP_eq {s s' : St} (h : StEq s s') : stP s ↔ stP s' := by
  unfold stP
  rw [h.ef, h.n1, h.t1, h.n2, h.t2, h.n3, h.t3, h.n4, h.o4]
theorem plV_eq {m : Nat} {R R' : Nat → St} (h : ∀ k, k < m → StEq (R k) (R' k)) : plV m R = plV m R' := by
  have : plP m R ↔ plP m R' := by
    unfold plP
    refine and_congr_right fun _ => forall_congr' fun k => ?_
    refine ⟨fun f hk => ?_, fun f hk => ?_⟩
    · have := f hk
      rw [stP_eq (h k hk), (h k hk).n4] at this; exact this
    · have := f hk
      rw [← stP_eq (h k hk), ← (h k hk).n4] at this; exact this
  unfold plV
  rw [pb_congr this]
/-! The specification's. -/
set_option maxRecDepth 20000 in
set_option maxHeartbeats 1000000 in
theorem sWord (s : ByteArray) (hs : s.size ≤ 1048576) (w : World) :
    Calls Tryz.prog 65 #[.string s] w fun e w' => e = .returned (.bool (pb (wdP s))) ∧ w' = w := by
  by_cases h1 : 1 ≤ s.size
  · by_cases h2 : s.size ≤ 200
    · have d1 : ¬ (s.size : Int) < 1 := by omega
      have d2 : ¬ (200 : Int) < (s.size : Int) := by omega
      go_enter Tryz.func65, Tryz.ntmps65
      go_wp2
      clear d1 d2
      go_loop [3] (fun v => ∃ k : Nat, k ≤ s.size ∧ v = .int .i64 (k : Int) ∧ ∀ i (h : i < s.size), i < k → 33 ≤ (s[i]'h).toNat ∧ (s[i]'h).toNat ≤ 126) (fun v => s.size - (intOf v).toNat)
      case atStart => exact ⟨0, Nat.zero_le _, rfl, fun i _ hi => absurd hi (Nat.not_lt_zero _)⟩
      case round =>
        obtain ⟨k, hk, rfl, hr⟩ := hrel
        have HR := hid hr
        clear hr
        by_cases hlt : k < s.size
        · have d3 : (k : Int) < (s.size : Int) := by omega
          by_cases q1 : (s[k]'hlt).toNat < 33
          · have q2 : ((s[k]'hlt).toNat : Int) < 33 := by omega
            have E : Hid (pb (wdP s) = false) := pb_f fun h => by have := (h.2.2 k hlt).1; omega
            go_wp2
            go_ret
            exact ⟨by rw [E.out]; rfl, rfl⟩
          · have q2 : ¬ ((s[k]'hlt).toNat : Int) < 33 := by omega
            by_cases q3 : 126 < (s[k]'hlt).toNat
            · have q4 : (126 : Int) < ((s[k]'hlt).toNat : Int) := by omega
              have E : Hid (pb (wdP s) = false) := pb_f fun h => by have := (h.2.2 k hlt).2; omega
              go_wp2
              go_ret
              exact ⟨by rw [E.out]; rfl, rfl⟩
            · have q4 : ¬ (126 : Int) < ((s[k]'hlt).toNat : Int) := by omega
              have N : Hid (∀ i (h : i < s.size), i < k + 1 → 33 ≤ (s[i]'h).toNat ∧ (s[i]'h).toNat ≤ 126) := fun i h hi => by
                by_cases e : i = k
                · subst e; omega
                · exact HR.out i h (by omega)
              go_wp2
              exact ⟨⟨k + 1, by omega, by go_num, N.out⟩, by simp [intOf]; omega⟩
        · have d3 : ¬ (k : Int) < (s.size : Int) := by omega
          have E : Hid (pb (wdP s) = true) := pb_t ⟨h1, h2, fun i h => HR.out i h (by omega)⟩
          go_wp2
          go_ret
          exact ⟨by rw [E.out]; rfl, rfl⟩
    · have d1 : ¬ (s.size : Int) < 1 := by omega
      have d2 : (200 : Int) < (s.size : Int) := by omega
      have E : Hid (pb (wdP s) = false) := pb_f fun h => h2 h.2.1
      go_enter Tryz.func65, Tryz.ntmps65
      go_wp2
      go_ret
      exact ⟨by rw [E.out]; rfl, rfl⟩
  · have d1 : (s.size : Int) < 1 := by omega
    have E : Hid (pb (wdP s) = false) := pb_f fun h => h1 h.1
    go_enter Tryz.func65, Tryz.ntmps65
    go_wp2
    go_ret
    exact ⟨by rw [E.out]; rfl, rfl⟩
theorem ext1 (s : ByteArray) (k : Nat) (h : k < s.size) : (s.extract k (k + 1)).toList = [s[k]'h] := by
  rw [ByteArray.toList_eq, ByteArray.data_extract]
  have h2 : k < s.data.toList.length := by simpa using h
  simp
  rw [List.drop_eq_getElem_cons h2]
  simp
  rfl
set_option maxRecDepth 20000 in
set_option maxHeartbeats 1000000 in
theorem sIndex (s : ByteArray) (hs : s.size ≤ 1048576) (w : World) :
    Calls Tryz.prog 66 #[.string s, .string ⟨#[44]⟩, .int .i64 0] w fun e w' => (∃ z : Int, e = .returned (.int .i64 z) ∧ (0 ≤ z ↔ cmP s)) ∧ w' = w := by
  go_enter Tryz.func66, Tryz.ntmps66
  go_wp2
  go_loop [7] (fun v => ∃ k : Nat, k ≤ s.size ∧ v = .int .i64 (k : Int) ∧ ∀ i (h : i < s.size), i < k → s[i]'h ≠ 44) (fun v => s.size - (intOf v).toNat)
  case atStart => exact ⟨0, Nat.zero_le _, rfl, fun i _ hi => absurd hi (Nat.not_lt_zero _)⟩
  case round =>
    obtain ⟨k, hk, rfl, hr⟩ := hrel
    have HR := hid hr
    clear hr
    by_cases hlt : k < s.size
    · have d3 : (k : Int) + 1 ≤ (s.size : Int) := by omega
      by_cases q : s[k]'hlt = 44
      · have b1 : ((s.extract k (k + 1)).toList == [44]) = true := by rw [ext1 s k hlt, q]; rfl
        have Q : Hid (cmP s) := ⟨k, hlt, q⟩
        clear q
        go_wp2
        go_ret
        exact ⟨⟨k, rfl, fun _ => Q.out, fun _ => by omega⟩, rfl⟩
      · have b1 : ((s.extract k (k + 1)).toList == [44]) = false := by rw [ext1 s k hlt]; simpa using q
        have N : Hid (∀ i (h : i < s.size), i < k + 1 → s[i]'h ≠ 44) := fun i h hi => by
          by_cases e : i = k
          · subst e; exact q
          · exact HR.out i h (by omega)
        clear q
        go_wp2
        exact ⟨⟨k + 1, by omega, by go_num, N.out⟩, by simp [intOf]; omega⟩
    · have d3 : ¬ (k : Int) + 1 ≤ (s.size : Int) := by omega
      go_wp2
      go_ret
      exact ⟨⟨-1, rfl, ⟨fun h => absurd h (by decide), fun ⟨i, h, hi⟩ => absurd hi (HR.out i h (by omega))⟩⟩, rfl⟩
end Go.Proofs.YtmjolkagkeonfaaGreatDoorR
