import Derived.Test.YtokjfffcciddhaaGreatDoorQG
import Derived.Laws.Externs
import Derived.Lib.Bytealg
import Derived.Deep.RegionWith
namespace Go.Proofs.YtokjfffcciddhaaGreatDoor
open Go.RowKit
/-! The program's words, lists. -/
set_option maxRecDepth 20000 in
set_option maxHeartbeats 1000000 in
theorem iWord (s : ByteArray) (hs : s.size ≤ 1048576) (w : World) :
    Calls Tryz.prog 110 #[.string s] w fun e w' => e = .returned (.bool (pb (wdP s))) ∧ w' = w := by
  by_cases h1 : 1 ≤ s.size
  · by_cases h2 : s.size ≤ 200
    · have d1 : ¬ (s.size : Int) < 1 := by omega
      have d2 : ¬ (200 : Int) < (s.size : Int) := by omega
      go_enter Tryz.func110, Tryz.ntmps110
      go_wp2
      clear d1 d2
      go_loop [14] (fun v => ∃ k : Nat, k ≤ s.size ∧ v = .int .i64 (k : Int) ∧ ∀ i (h : i < s.size), i < k → 33 ≤ (s[i]'h).toNat ∧ (s[i]'h).toNat ≤ 126) (fun v => s.size - (intOf v).toNat)
      case atStart => exact ⟨0, Nat.zero_le _, rfl, fun i _ hi => absurd hi (Nat.not_lt_zero _)⟩
      case round =>
        obtain ⟨k, hk, rfl, hr⟩ := hrel
        have HR := hid hr
        clear hr
        by_cases hlt : k < s.size
        · have d3 : (k : Int) < (s.size : Int) := by omega
          by_cases q1 : (s[k]'hlt).toNat < 33
          · have q2 : ((s[k]'hlt).toNat : Int) < 33 := by omega
            have E : Hid (pb (wdP s) = false) := pb_f fun h => by have := (h.2.2 k hlt).1; omega
            go_wp2
            go_ret
            exact ⟨by rw [E.out]; rfl, rfl⟩
          · have q2 : ¬ ((s[k]'hlt).toNat : Int) < 33 := by omega
            by_cases q3 : 126 < (s[k]'hlt).toNat
            · have q4 : (126 : Int) < ((s[k]'hlt).toNat : Int) := by omega
              have E : Hid (pb (wdP s) = false) := pb_f fun h => by have := (h.2.2 k hlt).2; omega
              go_wp2
              go_ret
              exact ⟨by rw [E.out]; rfl, rfl⟩
            · have q4 : ¬ (126 : Int) < ((s[k]'hlt).toNat : Int) := by omega
              have N : Hid (∀ i (h : i < s.size), i < k + 1 → 33 ≤ (s[i]'h).toNat ∧ (s[i]'h).toNat ≤ 126) := fun i h hi => by
                by_cases e : i = k
                · subst e; omega
                · exact HR.out i h (by omega)
              go_wp2
              exact ⟨⟨k + 1, by omega, by go_num, N.out⟩, by simp [intOf]; omega⟩
        · have d3 : ¬ (k : Int) < (s.size : Int) := by omega
          have E : Hid (pb (wdP s) = true) := pb_t ⟨h1, h2, fun i h => HR.out i h (by omega)⟩
          go_wp2
          go_ret
          exact ⟨by rw [E.out]; rfl, rfl⟩
    · have d1 : ¬ (s.size : Int) < 1 := by omega
      have d2 : (200 : Int) < (s.size : Int) := by omega
      have E : Hid (pb (wdP s) = false) := pb_f fun h => h2 h.2.1
      go_enter Tryz.func110, Tryz.ntmps110
      go_wp2
      go_ret
      exact ⟨by rw [E.out]; rfl, rfl⟩
  · have d1 : (s.size : Int) < 1 := by omega
    have E : Hid (pb (wdP s) = false) := pb_f fun h => h1 h.1
    go_enter Tryz.func110, Tryz.ntmps110
    go_wp2
    go_ret
    exact ⟨by rw [E.out]; rfl, rfl⟩
theorem fI_none (t : ByteArray) (c : UInt8) (h : firstIdx t c = -1) : ∀ i (hi : i < t.size), t[i] ≠ c := by
  intro i hi q
  unfold firstIdx at h
  split at h
  · omega
  · rename_i hn
    have := List.find?_eq_none.1 hn i (List.mem_range.2 hi)
    simp [hi, q] at this
theorem fI_iff (t : ByteArray) : 0 ≤ firstIdx t 44 ↔ cmP t := by
  constructor
  · intro h
    unfold firstIdx at h
    split at h
    · rename_i i hs
      obtain ⟨h1, h2, _⟩ := List.find?_range_eq_some.1 hs
      have hi : i < t.size := List.mem_range.1 h2
      exact ⟨i, hi, by simpa [hi] using h1⟩
    · omega
  · rintro ⟨i, hi, hq⟩
    by_cases h : firstIdx t 44 = -1
    · exact absurd hq (fI_none t 44 h i hi)
    · unfold firstIdx at h ⊢
      split
      · omega
      · rename_i hn; rw [hn] at h; exact absurd rfl h
set_option maxRecDepth 20000 in
set_option maxHeartbeats 1000000 in
theorem iIdxB (t : ByteArray) (z : Int) (hz : z = 44) (w : World) :
    Calls Tryz.prog 114 #[.string t, .int .u8 z] w fun e w' => e = .returned (.int .i64 (firstIdx t 44)) ∧ w' = w := by
  subst hz
  have h64 := @run_callFunc_extern Tryz.prog 120 _ Extern.BytealgIndexByte.indexByte Tryz.func120 (by kernel_rfl) (by kernel_rfl) (by kernel_rfl) (by kernel_rfl)
  have hr := fun w => run_indexByte_string (P := Tryz.prog) t 44 w
  go_enter Tryz.func114, Tryz.ntmps114
  go_wp2
  go_ret
  exact ⟨rfl, rfl⟩
set_option maxRecDepth 20000 in
set_option maxHeartbeats 2000000 in
theorem iIndex (t : ByteArray) (ht : t.size ≤ 1048576) (w : World) :
    Calls Tryz.prog 107 #[.string t, .string ⟨#[44]⟩] w fun e w' => (∃ z : Int, e = .returned (.int .i64 z) ∧ (0 ≤ z ↔ cmP t)) ∧ w' = w := by
  by_cases he : t = ⟨#[44]⟩
  · subst he
    go_enter Tryz.func107, Tryz.ntmps107
    go_wp2
    go_ret
    exact ⟨⟨0, rfl, fun _ => ⟨0, by decide, rfl⟩, fun _ => by decide⟩, rfl⟩
  · have hb : ([44] == t.toList) = false := beq_eq_false_iff_ne.2 fun e => he (by
      have e2 : t.data.toList = [44] := by rw [← ByteArray.toList_eq]; exact e.symm
      cases t with
      | mk d => congr 1; apply Array.toList_inj.1; simpa using e2)
    go_enter Tryz.func107, Tryz.ntmps107
    go_wp2_with fail
    refine (iIdxB t _ (by decide) _).mono ?_
    rintro e w2 ⟨rfl, rfl⟩
    go_wp2
    go_ret
    exact ⟨⟨_, rfl, fI_iff t⟩, rfl⟩
set_option maxRecDepth 20000 in
set_option maxHeartbeats 1000000 in
theorem iIndexS (t : ByteArray) (ht : t.size ≤ 1048576) (w : World) :
    Calls Tryz.prog 97 #[.string t, .string ⟨#[44]⟩] w fun e w' => (∃ z : Int, e = .returned (.int .i64 z) ∧ (0 ≤ z ↔ cmP t)) ∧ w' = w := by
  go_enter Tryz.func97, Tryz.ntmps97
  go_wp2_with fail
  refine (iIndex t ht _).mono ?_
  rintro e w2 ⟨⟨z, rfl, hz⟩, rfl⟩
  go_wp2
  go_ret
  exact ⟨⟨z, rfl, hz⟩, rfl⟩
set_option maxRecDepth 20000 in
set_option maxHeartbeats 1000000 in
theorem iCont (t : ByteArray) (ht : t.size ≤ 1048576) (w : World) :
    Calls Tryz.prog 111 #[.string t, .string ⟨#[44]⟩] w fun e w' => e = .returned (.bool (pb (cmP t))) ∧ w' = w := by
  go_enter Tryz.func111, Tryz.ntmps111
  go_wp2_with fail
  refine (iIndexS t ht _).mono ?_
  rintro e w2 ⟨⟨z, rfl, hz⟩, rfl⟩
  by_cases h : cmP t
  · have d : (0 : Int) ≤ z := hz.2 h
    have N := hid (pb_t h)
    clear hz
    go_wp2
    go_ret
    exact ⟨by rw [N.out]; rfl, rfl⟩
  · have d : decide ((0 : Int) ≤ z) = false := decide_eq_false fun hh => h (hz.1 hh)
    have N := hid (pb_f h)
    clear hz
    go_wp2
    go_ret
    exact ⟨by rw [N.out]; rfl, rfl⟩
set_option maxRecDepth 20000 in
set_option maxHeartbeats 2000000 in
theorem iList (a : Option Addr) (n cap : Nat) (ts : Nat → ByteArray) (hn : n ≤ 1048576) (ht : ∀ i, i < n → (ts i).size ≤ 1048576) (w : World) (h : Strs w a n cap ts) :
    Calls Tryz.prog 102 #[.slice a n cap] w fun e w' => e = .returned (.bool (pb (lsP n ts))) ∧ w' = w := by
  have HT := hid ht
  clear ht
  by_cases h1 : 1 ≤ n
  · by_cases h2 : n ≤ 20
    · have d1 : ¬ (n : Int) < 1 := by omega
      have d2 : ¬ (20 : Int) < (n : Int) := by omega
      go_enter Tryz.func102, Tryz.ntmps102
      go_wp2
      clear d1 d2
      go_loopw [15] (fun v wr => ∃ k : Nat, k ≤ n ∧ v = .int .i64 (k : Int) ∧ (∀ i, i < k → wdP (ts i) ∧ ¬ cmP (ts i)) ∧ wr = w) (fun v _ => n - (intOf v).toNat)
      case atStart => exact ⟨0, Nat.zero_le _, rfl, fun i hi => absurd hi (Nat.not_lt_zero _), rfl⟩
      case round =>
        obtain ⟨k, hk, rfl, hr, rfl⟩ := hrel
        have HR := hid hr
        clear hr
        by_cases hlt : k < n
        · have d3 : (k : Int) < (n : Int) := by omega
          have k0 : (0 : Int) ≤ (k : Int) := by omega
          rcases h.2 with h00 | ⟨b, off, rfl, hbl, hc⟩
          · omega
          have c0 := hc k hlt
          have st := HT.out k hlt
          obtain ⟨t, htt⟩ : ∃ t, ts k = t := ⟨_, rfl⟩
          rw [htt] at c0 st
          have HTT := hid htt
          clear htt hc
          have SW := hid (iWord t st)
          by_cases q1 : wdP t
          · rw [pb_t q1] at SW
            go_wp2_with fail
            refine (SW.out _).mono ?_
            rintro e w2 ⟨rfl, rfl⟩
            by_cases q2 : cmP t
            · have K := hid (iCont t st)
              rw [pb_t q2] at K
              have E : Hid (pb (lsP n ts) = false) := pb_f fun hh => (hh.2.2 k hlt).2 (by rw [HTT.out]; exact q2)
              go_wp2_with fail
              refine (K.out _).mono ?_
              rintro e w2 ⟨rfl, rfl⟩
              go_wp2
              go_ret
              exact ⟨by rw [E.out]; rfl, rfl⟩
            · have K := hid (iCont t st)
              rw [pb_f q2] at K
              have N : Hid (∀ i, i < k + 1 → wdP (ts i) ∧ ¬ cmP (ts i)) := fun i hi => by
                by_cases e : i = k
                · subst e; rw [HTT.out]; exact ⟨q1, q2⟩
                · exact HR.out i (by omega)
              go_wp2_with fail
              refine (K.out _).mono ?_
              rintro e w2 ⟨rfl, rfl⟩
              go_wp2
              go_roundw
              case rel => exact ⟨k + 1, by omega, by go_num, N.out, trivial⟩
              case measure => simp [intOf]; omega
          · rw [pb_f q1] at SW
            have E : Hid (pb (lsP n ts) = false) := pb_f fun hh => q1 (by rw [← HTT.out]; exact (hh.2.2 k hlt).1)
            go_wp2_with fail
            refine (SW.out _).mono ?_
            rintro e w2 ⟨rfl, rfl⟩
            go_wp2
            go_ret
            exact ⟨by rw [E.out]; rfl, rfl⟩
        · have d3 : ¬ (k : Int) < (n : Int) := by omega
          have E : Hid (pb (lsP n ts) = true) := pb_t ⟨h1, h2, fun i hi => HR.out i (by omega)⟩
          go_wp2
          go_ret
          exact ⟨by rw [E.out]; rfl, rfl⟩
    · have d1 : ¬ (n : Int) < 1 := by omega
      have d2 : (20 : Int) < (n : Int) := by omega
      have E : Hid (pb (lsP n ts) = false) := pb_f fun h => h2 h.2.1
      go_enter Tryz.func102, Tryz.ntmps102
      go_wp2
      go_ret
      exact ⟨by rw [E.out]; rfl, rfl⟩
  · have d1 : (n : Int) < 1 := by omega
    have E : Hid (pb (lsP n ts) = false) := pb_f fun h => h1 h.1
    go_enter Tryz.func102, Tryz.ntmps102
    go_wp2
    go_ret
    exact ⟨by rw [E.out]; rfl, rfl⟩
end Go.Proofs.YtokjfffcciddhaaGreatDoor
