import Derived.Test.YtmjolkagkeonfaaGreatDoorG6
import Derived.Laws.Externs
import Derived.Lib.Bytealg
import Derived.Deep.RegionWith
import Derived.Stop.Asserts
namespace Go.Proofs.YtmjolkagkeonfaaGreatDoor
open Go.RowKit
/-! The program's words, lists. -/
set_option maxRecDepth 20000 in
set_option maxHeartbeats 1000000 in
theorem iWord (s : ByteArray) (hs : s.size ≤ 1048576) (w : World) :
    Calls Tryz.prog 156 #[.string s] w fun e w' => e = .returned (.bool (pb (wdP s))) ∧ w' = w := by
  by_cases h1 : 1 ≤ s.size
  · by_cases h2 : s.size ≤ 200
    · have d1 : ¬ (s.size : Int) < 1 := by omega
      have d2 : ¬ (200 : Int) < (s.size : Int) := by omega
      go_enter Tryz.func156, Tryz.ntmps156
      go_wp2
      clear d1 d2
      go_loop [14] (fun v => ∃ k : Nat, k ≤ s.size ∧ v = .int .i64 (k : Int) ∧ ∀ i (h : i < s.size), i < k → 33 ≤ (s[i]'h).toNat ∧ (s[i]'h).toNat ≤ 126) (fun v => s.size - (intOf v).toNat)
      case atStart => exact ⟨0, Nat.zero_le _, rfl, fun i _ hi => absurd hi (Nat.not_lt_zero _)⟩
      case round =>
        obtain ⟨k, hk, rfl, hr⟩ := hrel
        have HR := hid hr
        clear hr
        by_cases hlt : k < s.size
        · have d3 : (k : Int) < (s.size : Int) := by omega
          by_cases q1 : (s[k]'hlt).toNat < 33
          · have q2 : ((s[k]'hlt).toNat : Int) < 33 := by omega
            have E : Hid (pb (wdP s) = false) := pb_f fun h => by have := (h.2.2 k hlt).1; omega
            go_wp2
            go_ret
            exact ⟨by rw [E.out]; rfl, rfl⟩
          · have q2 : ¬ ((s[k]'hlt).toNat : Int) < 33 := by omega
            by_cases q3 : 126 < (s[k]'hlt).toNat
            · have q4 : (126 : Int) < ((s[k]'hlt).toNat : Int) := by omega
              have E : Hid (pb (wdP s) = false) := pb_f fun h => by have := (h.2.2 k hlt).2; omega
              go_wp2
              go_ret
              exact ⟨by rw [E.out]; rfl, rfl⟩
            · have q4 : ¬ (126 : Int) < ((s[k]'hlt).toNat : Int) := by omega
              have N : Hid (∀ i (h : i < s.size), i < k + 1 → 33 ≤ (s[i]'h).toNat ∧ (s[i]'h).toNat ≤ 126) := fun i h hi => by
                by_cases e : i = k
                · subst e; omega
                · exact HR.out i h (by omega)
              go_wp2
              exact ⟨⟨k + 1, by omega, by go_num, N.out⟩, by simp [intOf]; omega⟩
        · have d3 : ¬ (k : Int) < (s.size : Int) := by omega
          have E : Hid (pb (wdP s) = true) := pb_t ⟨h1, h2, fun i h => HR.out i h (by omega)⟩
          go_wp2
          go_ret
          exact ⟨by rw [E.out]; rfl, rfl⟩
    · have d1 : ¬ (s.size : Int) < 1 := by omega
      have d2 : (200 : Int) < (s.size : Int) := by omega
      have E : Hid (pb (wdP s) = false) := pb_f fun h => h2 h.2.1
      go_enter Tryz.func156, Tryz.ntmps156
      go_wp2
      go_ret
      exact ⟨by rw [E.out]; rfl, rfl⟩
  · have d1 : (s.size : Int) < 1 := by omega
    have E : Hid (pb (wdP s) = false) := pb_f fun h => h1 h.1
    go_enter Tryz.func156, Tryz.ntmps156
    go_wp2
    go_ret
    exact ⟨by rw [E.out]; rfl, rfl⟩
theorem fI_none (t : ByteArray) (c : UInt8) (h : firstIdx t c = -1) : ∀ i (hi : i < t.size), t[i] ≠ c := by
  intro i hi q
  unfold firstIdx at h
  split at h
  · omega
  · rename_i hn
    have := List.find?_eq_none.1 hn i (List.mem_range.2 hi)
    simp [hi, q] at this
theorem fI_iff (t : ByteArray) : 0 ≤ firstIdx t 44 ↔ cmP t := by
  constructor
  · intro h
    unfold firstIdx at h
    split at h
    · rename_i i hs
      obtain ⟨h1, h2, _⟩ := List.find?_range_eq_some.1 hs
      have hi : i < t.size := List.mem_range.1 h2
      exact ⟨i, hi, by simpa [hi] using h1⟩
    · omega
  · rintro ⟨i, hi, hq⟩
    by_cases h : firstIdx t 44 = -1
    · exact absurd hq (fI_none t 44 h i hi)
    · unfold firstIdx at h ⊢
      split
      · omega
      · rename_i hn; rw [hn] at h; exact absurd rfl h
set_option maxRecDepth 20000 in
set_option maxHeartbeats 1000000 in
theorem iIdxB (t : ByteArray) (z : Int) (hz : z = 44) (w : World) :
    Calls Tryz.prog 173 #[.string t, .int .u8 z] w fun e w' => e = .returned (.int .i64 (firstIdx t 44)) ∧ w' = w := by
  subst hz
  have h64 := @run_callFunc_extern Tryz.prog 180 _ Extern.BytealgIndexByte.indexByte Tryz.func180 (by kernel_rfl) (by kernel_rfl) (by kernel_rfl) (by kernel_rfl)
  have hr := fun w => run_indexByte_string (P := Tryz.prog) t 44 w
  go_enter Tryz.func173, Tryz.ntmps173
  go_wp2
  go_ret
  exact ⟨rfl, rfl⟩
set_option maxRecDepth 20000 in
set_option maxHeartbeats 2000000 in
theorem iIndex (t : ByteArray) (ht : t.size ≤ 1048576) (w : World) :
    Calls Tryz.prog 161 #[.string t, .string ⟨#[44]⟩] w fun e w' => (∃ z : Int, e = .returned (.int .i64 z) ∧ (0 ≤ z ↔ cmP t)) ∧ w' = w := by
  by_cases he : t = ⟨#[44]⟩
  · subst he
    go_enter Tryz.func161, Tryz.ntmps161
    go_wp2
    go_ret
    exact ⟨⟨0, rfl, fun _ => ⟨0, by decide, rfl⟩, fun _ => by decide⟩, rfl⟩
  · have hb : ([44] == t.toList) = false := beq_eq_false_iff_ne.2 fun e => he (by
      have e2 : t.data.toList = [44] := by rw [← ByteArray.toList_eq]; exact e.symm
      cases t with
      | mk d => congr 1; apply Array.toList_inj.1; simpa using e2)
    go_enter Tryz.func161, Tryz.ntmps161
    go_wp2_with fail
    refine (iIdxB t _ (by decide) _).mono ?_
    rintro e w2 ⟨rfl, rfl⟩
    go_wp2
    go_ret
    exact ⟨⟨_, rfl, fI_iff t⟩, rfl⟩
set_option maxRecDepth 20000 in
set_option maxHeartbeats 1000000 in
theorem iIndexS (t : ByteArray) (ht : t.size ≤ 1048576) (w : World) :
    Calls Tryz.prog 142 #[.string t, .string ⟨#[44]⟩] w fun e w' => (∃ z : Int, e = .returned (.int .i64 z) ∧ (0 ≤ z ↔ cmP t)) ∧ w' = w := by
  go_enter Tryz.func142, Tryz.ntmps142
  go_wp2_with fail
  refine (iIndex t ht _).mono ?_
  rintro e w2 ⟨⟨z, rfl, hz⟩, rfl⟩
  go_wp2
  go_ret
  exact ⟨⟨z, rfl, hz⟩, rfl⟩
set_option maxRecDepth 20000 in
set_option maxHeartbeats 1000000 in
theorem iCont (t : ByteArray) (ht : t.size ≤ 1048576) (w : World) :
    Calls Tryz.prog 157 #[.string t, .string ⟨#[44]⟩] w fun e w' => e = .returned (.bool (pb (cmP t))) ∧ w' = w := by
  go_enter Tryz.func157, Tryz.ntmps157
  go_wp2_with fail
  refine (iIndexS t ht _).mono ?_
  rintro e w2 ⟨⟨z, rfl, hz⟩, rfl⟩
  by_cases h : cmP t
  · have d : (0 : Int) ≤ z := hz.2 h
    have N := hid (pb_t h)
    clear hz
    go_wp2
    go_ret
    exact ⟨by rw [N.out]; rfl, rfl⟩
  · have d : decide ((0 : Int) ≤ z) = false := decide_eq_false fun hh => h (hz.1 hh)
    have N := hid (pb_f h)
    clear hz
    go_wp2
    go_ret
    exact ⟨by rw [N.out]; rfl, rfl⟩
set_option maxRecDepth 20000 in
set_option maxHeartbeats 2000000 in
theorem iList (a : Option Addr) (n cap : Nat) (ts : Nat → ByteArray) (hn : n ≤ 1048576) (ht : ∀ i, i < n → (ts i).size ≤ 1048576) (w : World) (h : Strs w a n cap ts) :
    Calls Tryz.prog 138 #[.slice a n cap] w fun e w' => e = .returned (.bool (pb (lsP n ts))) ∧ w' = w := by
  have HT := hid ht
  clear ht
  by_cases h1 : 1 ≤ n
  · by_cases h2 : n ≤ 20
    · have d1 : ¬ (n : Int) < 1 := by omega
      have d2 : ¬ (20 : Int) < (n : Int) := by omega
      go_enter Tryz.func138, Tryz.ntmps138
      go_wp2
      clear d1 d2
      go_loopw [15] (fun v wr => ∃ k : Nat, k ≤ n ∧ v = .int .i64 (k : Int) ∧ (∀ i, i < k → wdP (ts i) ∧ ¬ cmP (ts i)) ∧ wr = w) (fun v _ => n - (intOf v).toNat)
      case atStart => exact ⟨0, Nat.zero_le _, rfl, fun i hi => absurd hi (Nat.not_lt_zero _), rfl⟩
      case round =>
        obtain ⟨k, hk, rfl, hr, rfl⟩ := hrel
        have HR := hid hr
        clear hr
        by_cases hlt : k < n
        · have d3 : (k : Int) < (n : Int) := by omega
          have k0 : (0 : Int) ≤ (k : Int) := by omega
          rcases h.2 with h00 | ⟨b, off, rfl, hbl, hc⟩
          · omega
          have c0 := hc k hlt
          have st := HT.out k hlt
          obtain ⟨t, htt⟩ : ∃ t, ts k = t := ⟨_, rfl⟩
          rw [htt] at c0 st
          have HTT := hid htt
          clear htt hc
          have SW := hid (iWord t st)
          by_cases q1 : wdP t
          · rw [pb_t q1] at SW
            go_wp2_with fail
            refine (SW.out _).mono ?_
            rintro e w2 ⟨rfl, rfl⟩
            by_cases q2 : cmP t
            · have K := hid (iCont t st)
              rw [pb_t q2] at K
              have E : Hid (pb (lsP n ts) = false) := pb_f fun hh => (hh.2.2 k hlt).2 (by rw [HTT.out]; exact q2)
              go_wp2_with fail
              refine (K.out _).mono ?_
              rintro e w2 ⟨rfl, rfl⟩
              go_wp2
              go_ret
              exact ⟨by rw [E.out]; rfl, rfl⟩
            · have K := hid (iCont t st)
              rw [pb_f q2] at K
              have N : Hid (∀ i, i < k + 1 → wdP (ts i) ∧ ¬ cmP (ts i)) := fun i hi => by
                by_cases e : i = k
                · subst e; rw [HTT.out]; exact ⟨q1, q2⟩
                · exact HR.out i (by omega)
              go_wp2_with fail
              refine (K.out _).mono ?_
              rintro e w2 ⟨rfl, rfl⟩
              go_wp2
              go_roundw
              case rel => exact ⟨k + 1, by omega, by go_num, N.out, trivial⟩
              case measure => simp [intOf]; omega
          · rw [pb_f q1] at SW
            have E : Hid (pb (lsP n ts) = false) := pb_f fun hh => q1 (by rw [← HTT.out]; exact (hh.2.2 k hlt).1)
            go_wp2_with fail
            refine (SW.out _).mono ?_
            rintro e w2 ⟨rfl, rfl⟩
            go_wp2
            go_ret
            exact ⟨by rw [E.out]; rfl, rfl⟩
        · have d3 : ¬ (k : Int) < (n : Int) := by omega
          have E : Hid (pb (lsP n ts) = true) := pb_t ⟨h1, h2, fun i hi => HR.out i (by omega)⟩
          go_wp2
          go_ret
          exact ⟨by rw [E.out]; rfl, rfl⟩
    · have d1 : ¬ (n : Int) < 1 := by omega
      have d2 : (20 : Int) < (n : Int) := by omega
      have E : Hid (pb (lsP n ts) = false) := pb_f fun h => h2 h.2.1
      go_enter Tryz.func138, Tryz.ntmps138
      go_wp2
      go_ret
      exact ⟨by rw [E.out]; rfl, rfl⟩
  · have d1 : (n : Int) < 1 := by omega
    have E : Hid (pb (lsP n ts) = false) := pb_f fun h => h1 h.1
    go_enter Tryz.func138, Tryz.ntmps138
    go_wp2
    go_ret
    exact ⟨by rw [E.out]; rfl, rfl⟩
end Go.Proofs.YtmjolkagkeonfaaGreatDoor
namespace Go.Proofs.YtmjolkagkeonfaaGreatDoor
open Go.RowKit
/-! The specification's PolicyFault. -/
set_option maxRecDepth 20000 in
set_option maxHeartbeats 2000000 in
theorem sList (a : Option Addr) (n cap : Nat) (ts : Nat → ByteArray) (hn : n ≤ 1048576) (ht : ∀ i, i < n → (ts i).size ≤ 1048576) (w : World) (h : Strs w a n cap ts) :
    Calls Tryz.prog 70 #[.slice a n cap] w fun e w' => e = .returned (.bool (pb (lsP n ts))) ∧ w' = w := by
  have HT := hid ht
  clear ht
  by_cases h1 : 1 ≤ n
  · by_cases h2 : n ≤ 20
    · have d1 : ¬ (n : Int) < 1 := by omega
      have d2 : ¬ (20 : Int) < (n : Int) := by omega
      go_enter Tryz.func70, Tryz.ntmps70
      go_wp2
      clear d1 d2
      go_loopw [3] (fun v wr => ∃ k : Nat, k ≤ n ∧ v = .int .i64 (k : Int) ∧ (∀ i, i < k → wdP (ts i) ∧ ¬ cmP (ts i)) ∧ wr = w) (fun v _ => n - (intOf v).toNat)
      case atStart => exact ⟨0, Nat.zero_le _, rfl, fun i hi => absurd hi (Nat.not_lt_zero _), rfl⟩
      case round =>
        obtain ⟨k, hk, rfl, hr, rfl⟩ := hrel
        have HR := hid hr
        clear hr
        by_cases hlt : k < n
        · have d3 : (k : Int) < (n : Int) := by omega
          have k0 : (0 : Int) ≤ (k : Int) := by omega
          rcases h.2 with h00 | ⟨b, off, rfl, hbl, hc⟩
          · omega
          have c0 := hc k hlt
          have st := HT.out k hlt
          obtain ⟨t, htt⟩ : ∃ t, ts k = t := ⟨_, rfl⟩
          rw [htt] at c0 st
          have HTT := hid htt
          clear htt hc
          have SW := hid (sWord t st)
          by_cases q1 : wdP t
          · rw [pb_t q1] at SW
            go_wp2_with fail
            refine (SW.out _).mono ?_
            rintro e w2 ⟨rfl, rfl⟩
            go_wp2_with fail
            refine (sIndex t st _).mono ?_
            rintro e w2 ⟨⟨z, rfl, hz⟩, rfl⟩
            by_cases q2 : cmP t
            · have z0 : (0 : Int) ≤ z := hz.2 q2
              have E : Hid (pb (lsP n ts) = false) := pb_f fun hh => (hh.2.2 k hlt).2 (by rw [HTT.out]; exact q2)
              clear hz
              go_wp2
              go_ret
              exact ⟨by rw [E.out]; rfl, rfl⟩
            · have z0 : ¬ (0 : Int) ≤ z := fun hh => q2 (hz.1 hh)
              have N : Hid (∀ i, i < k + 1 → wdP (ts i) ∧ ¬ cmP (ts i)) := fun i hi => by
                by_cases e : i = k
                · subst e; rw [HTT.out]; exact ⟨q1, q2⟩
                · exact HR.out i (by omega)
              clear hz
              go_wp2
              go_roundw
              case rel => exact ⟨k + 1, by omega, by go_num, N.out, trivial⟩
              case measure => simp [intOf]; omega
          · rw [pb_f q1] at SW
            have E : Hid (pb (lsP n ts) = false) := pb_f fun hh => q1 (by rw [← HTT.out]; exact (hh.2.2 k hlt).1)
            go_wp2_with fail
            refine (SW.out _).mono ?_
            rintro e w2 ⟨rfl, rfl⟩
            go_wp2
            go_ret
            exact ⟨by rw [E.out]; rfl, rfl⟩
        · have d3 : ¬ (k : Int) < (n : Int) := by omega
          have E : Hid (pb (lsP n ts) = true) := pb_t ⟨h1, h2, fun i hi => HR.out i (by omega)⟩
          go_wp2
          go_ret
          exact ⟨by rw [E.out]; rfl, rfl⟩
    · have d1 : ¬ (n : Int) < 1 := by omega
      have d2 : (20 : Int) < (n : Int) := by omega
      have E : Hid (pb (lsP n ts) = false) := pb_f fun h => h2 h.2.1
      go_enter Tryz.func70, Tryz.ntmps70
      go_wp2
      go_ret
      exact ⟨by rw [E.out]; rfl, rfl⟩
  · have d1 : (n : Int) < 1 := by omega
    have E : Hid (pb (lsP n ts) = false) := pb_f fun h => h1 h.1
    go_enter Tryz.func70, Tryz.ntmps70
    go_wp2
    go_ret
    exact ⟨by rw [E.out]; rfl, rfl⟩
theorem cnP_w {kd : Int} {tx : ByteArray} {tm : Int} (h : kd = 1 ∨ kd = 4) : cnP ⟨kd, tx, tm⟩ ↔ wdP tx ∧ tm = 0 := by
  unfold cnP
  dsimp only
  constructor
  · rintro (⟨_, h1, h2⟩ | ⟨h1, _⟩)
    · exact ⟨h1, h2⟩
    · exfalso; omega
  · exact fun ⟨h1, h2⟩ => .inl ⟨h, h1, h2⟩
theorem cnP_t {kd : Int} {tx : ByteArray} {tm : Int} (h : kd = 2 ∨ kd = 3) : cnP ⟨kd, tx, tm⟩ ↔ tx = ⟨#[]⟩ ∧ 0 ≤ tm ∧ tm ≤ 4102444800 := by
  unfold cnP
  dsimp only
  constructor
  · rintro (⟨h1, _⟩ | ⟨_, h1⟩)
    · exfalso; omega
    · exact h1
  · exact fun h1 => .inr ⟨h, h1⟩
theorem cnP_o {kd : Int} {tx : ByteArray} {tm : Int} (h1 : ¬ kd = 1) (h2 : ¬ kd = 2) (h3 : ¬ kd = 3) (h4 : ¬ kd = 4) : ¬ cnP ⟨kd, tx, tm⟩ := by
  unfold cnP
  dsimp only
  rintro (⟨h, _⟩ | ⟨h, _⟩) <;> omega
theorem txt0 {t : ByteArray} (h : ¬ t = ⟨#[]⟩) : t.toList.isEmpty = false ∧ ¬ t.toList = [] := by
  have : ¬ t.toList = [] := fun e => h (by
    rw [ByteArray.toList_eq] at e
    cases t with
    | mk d => congr 1; exact Array.toList_eq_nil_iff.1 e)
  exact ⟨by cases hh : t.toList with
    | nil => exact absurd hh this
    | cons _ _ => rfl, this⟩
set_option maxRecDepth 20000 in
set_option maxHeartbeats 4000000 in
theorem sIfs (a : Option Addr) (n cap : Nat) (o : Nat → Cn) (hn : n ≤ 1048576) (ht : ∀ i, i < n → (o i).tx.size ≤ 1048576) (w : World) (h : Cns w a n cap o) :
    Calls Tryz.prog 71 #[.slice a n cap] w fun e w' => e = .returned (.bool (pb (isP n o))) ∧ Below w.heap.size w w' := by
  have HT := hid ht
  have HH := hid h
  clear ht h
  go_enter Tryz.func71, Tryz.ntmps71
  go_wp2
  go_loopw [3] (fun v wr => ∃ k : Nat, k ≤ n ∧ v = .int .i64 (k : Int) ∧ (∀ i, i < k → cnP (o i)) ∧ Below w.heap.size w wr) (fun v _ => n - (intOf v).toNat)
  case atStart => exact ⟨0, Nat.zero_le _, rfl, fun i hi => absurd hi (Nat.not_lt_zero _), Below.refl _ _⟩
  case round =>
    obtain ⟨k, hk, rfl, hr, hB⟩ := hrel
    have HR := hid hr
    have HB := hid hB
    clear hr hB
    by_cases hlt : k < n
    · have d3 : (k : Int) < (n : Int) := by omega
      have k0 : (0 : Int) ≤ (k : Int) := by omega
      rcases (HH.out.below HB.out).2 with h00 | ⟨b, off, rfl, hbl, hc⟩
      · omega
      obtain ⟨c0, c1, c2⟩ := hc k hlt
      have st := HT.out k hlt
      have FA : Hid (¬ cnP (o k) → pb (isP n o) = false) := fun hh => pb_f fun hi => hh (hi k hlt)
      have TR : Hid (cnP (o k) → ∀ i, i < k + 1 → cnP (o i)) := fun hh i hi => by
        by_cases e : i = k
        · subst e; exact hh
        · exact HR.out i (by omega)
      generalize o k = C at c0 c1 c2 st FA TR
      obtain ⟨kd, tx, tm⟩ := C
      dsimp only at c0 c1 c2 st
      have B2 : Hid (Below w.heap.size w (wr.alloc (.cells #[.int .i64 kd, .string tx, .int .i64 tm] 83))) := HB.out.alloc HB.out.size _
      clear hc
      have SW := hid (sWord tx st)
      by_cases k1 : kd = 1
      · subst k1
        have KD : (((1 : Int) = 1) ∨ ((1 : Int) = 4)) := .inl rfl
        by_cases q1 : wdP tx
        · rw [pb_t q1] at SW
          by_cases q2 : tm = 0
          · subst q2
            have N := hid (TR.out ((cnP_w KD).2 ⟨q1, rfl⟩))
            go_wp2_with fail
            refine (SW.out _).mono ?_
            rintro e w2 ⟨rfl, rfl⟩
            go_wp2
            go_roundw
            case rel => exact ⟨k + 1, by omega, by go_num, N.out, B2.out⟩
            case measure => simp [intOf]; omega
          · have b2 : (tm != 0) = true := by simpa using q2
            have N := hid (FA.out (fun hh => q2 ((cnP_w KD).1 hh).2))
            go_wp2_with fail
            refine (SW.out _).mono ?_
            rintro e w2 ⟨rfl, rfl⟩
            go_wp2
            go_ret
            exact ⟨by rw [N.out]; rfl, B2.out⟩
        · rw [pb_f q1] at SW
          have N := hid (FA.out (fun hh => q1 ((cnP_w KD).1 hh).1))
          go_wp2_with fail
          refine (SW.out _).mono ?_
          rintro e w2 ⟨rfl, rfl⟩
          go_wp2
          go_ret
          exact ⟨by rw [N.out]; rfl, B2.out⟩
      by_cases k4 : kd = 4
      · subst k4
        have KD : (((4 : Int) = 1) ∨ ((4 : Int) = 4)) := .inr rfl
        by_cases q1 : wdP tx
        · rw [pb_t q1] at SW
          by_cases q2 : tm = 0
          · subst q2
            have N := hid (TR.out ((cnP_w KD).2 ⟨q1, rfl⟩))
            go_wp2_with fail
            refine (SW.out _).mono ?_
            rintro e w2 ⟨rfl, rfl⟩
            go_wp2
            go_roundw
            case rel => exact ⟨k + 1, by omega, by go_num, N.out, B2.out⟩
            case measure => simp [intOf]; omega
          · have b2 : (tm != 0) = true := by simpa using q2
            have N := hid (FA.out (fun hh => q2 ((cnP_w KD).1 hh).2))
            go_wp2_with fail
            refine (SW.out _).mono ?_
            rintro e w2 ⟨rfl, rfl⟩
            go_wp2
            go_ret
            exact ⟨by rw [N.out]; rfl, B2.out⟩
        · rw [pb_f q1] at SW
          have N := hid (FA.out (fun hh => q1 ((cnP_w KD).1 hh).1))
          go_wp2_with fail
          refine (SW.out _).mono ?_
          rintro e w2 ⟨rfl, rfl⟩
          go_wp2
          go_ret
          exact ⟨by rw [N.out]; rfl, B2.out⟩
      by_cases k2 : kd = 2
      · subst k2
        have KD : (((2 : Int) = 2) ∨ ((2 : Int) = 3)) := .inl rfl
        clear SW
        by_cases q1 : tx = ⟨#[]⟩
        · subst q1
          by_cases q2 : tm < 0
          · have N := hid (FA.out (fun hh => by have := ((cnP_t KD).1 hh).2.1; omega))
            go_wp2
            go_ret
            exact ⟨by rw [N.out]; rfl, B2.out⟩
          · by_cases q3 : 4102444800 < tm
            · have N := hid (FA.out (fun hh => by have := ((cnP_t KD).1 hh).2.2; omega))
              go_wp2
              go_ret
              exact ⟨by rw [N.out]; rfl, B2.out⟩
            · have N := hid (TR.out ((cnP_t KD).2 ⟨rfl, by omega, by omega⟩))
              go_wp2
              go_roundw
              case rel => exact ⟨k + 1, by omega, by go_num, N.out, B2.out⟩
              case measure => simp [intOf]; omega
        · obtain ⟨x1, x2⟩ := txt0 q1
          have N := hid (FA.out (fun hh => q1 ((cnP_t KD).1 hh).1))
          clear q1
          go_wp2
          go_ret
          exact ⟨by rw [N.out]; rfl, B2.out⟩
      by_cases k3 : kd = 3
      · subst k3
        have KD : (((3 : Int) = 2) ∨ ((3 : Int) = 3)) := .inr rfl
        clear SW
        by_cases q1 : tx = ⟨#[]⟩
        · subst q1
          by_cases q2 : tm < 0
          · have N := hid (FA.out (fun hh => by have := ((cnP_t KD).1 hh).2.1; omega))
            go_wp2
            go_ret
            exact ⟨by rw [N.out]; rfl, B2.out⟩
          · by_cases q3 : 4102444800 < tm
            · have N := hid (FA.out (fun hh => by have := ((cnP_t KD).1 hh).2.2; omega))
              go_wp2
              go_ret
              exact ⟨by rw [N.out]; rfl, B2.out⟩
            · have N := hid (TR.out ((cnP_t KD).2 ⟨rfl, by omega, by omega⟩))
              go_wp2
              go_roundw
              case rel => exact ⟨k + 1, by omega, by go_num, N.out, B2.out⟩
              case measure => simp [intOf]; omega
        · obtain ⟨x1, x2⟩ := txt0 q1
          have N := hid (FA.out (fun hh => q1 ((cnP_t KD).1 hh).1))
          clear q1
          go_wp2
          go_ret
          exact ⟨by rw [N.out]; rfl, B2.out⟩
      have N := hid (FA.out (cnP_o k1 k2 k3 k4))
      have b1 : (kd == 1) = false := beq_eq_false_iff_ne.2 k1
      have b4 : (kd == 4) = false := beq_eq_false_iff_ne.2 k4
      have b2 : (kd == 2) = false := beq_eq_false_iff_ne.2 k2
      have b3 : (kd == 3) = false := beq_eq_false_iff_ne.2 k3
      clear SW
      go_wp2
      go_ret
      exact ⟨by rw [N.out]; rfl, B2.out⟩
    · have d3 : ¬ (k : Int) < (n : Int) := by omega
      have E : Hid (pb (isP n o) = true) := pb_t fun i hi => HR.out i (by omega)
      go_wp2
      go_ret
      exact ⟨by rw [E.out]; rfl, HB.out⟩
end Go.Proofs.YtmjolkagkeonfaaGreatDoor
namespace Go.Proofs.YtmjolkagkeonfaaGreatDoor
open Go.RowKit
/-! The program's conditions: behind an interface. -/
set_option maxRecDepth 20000 in
set_option maxHeartbeats 2000000 in
theorem iWordIf (tx : ByteArray) (ht : tx.size ≤ 1048576) (w : World) :
    Calls Tryz.prog 211 #[.agg #[.string tx]] w fun e w' => e = .returned (.bool (pb (wdP tx))) ∧ Below w.heap.size w w' := by
  go_enter Tryz.func211, Tryz.ntmps211
  go_wp2_with fail
  refine (iWord tx ht _).mono ?_
  rintro e w2 ⟨rfl, rfl⟩
  go_wp2
  go_ret
  exact ⟨rfl, balCn (Below.refl _ _) _⟩
def tmQ (tm : Int) : Prop := 0 ≤ tm ∧ tm ≤ 4102444800
set_option maxRecDepth 20000 in
set_option maxHeartbeats 2000000 in
theorem iTimeIf (tm : Int) (w : World) :
    Calls Tryz.prog 213 #[.agg #[.int .i64 tm]] w fun e w' => e = .returned (.bool (pb (tmQ tm))) ∧ Below w.heap.size w w' := by
  have B : Hid (∀ o, Below w.heap.size w (w.alloc o)) := fun o => balCn (Below.refl _ _) _
  by_cases h1 : 0 ≤ tm
  · by_cases h2 : tm ≤ 4102444800
    · have N : Hid (pb (tmQ tm) = true) := pb_t ⟨h1, h2⟩
      go_enter Tryz.func213, Tryz.ntmps213
      go_wp2
      go_ret
      exact ⟨by rw [N.out]; rfl, B.out _⟩
    · have N : Hid (pb (tmQ tm) = false) := pb_f fun h => h2 h.2
      have d : decide (tm ≤ 4102444800) = false := decide_eq_false h2
      go_enter Tryz.func213, Tryz.ntmps213
      go_wp2
      go_ret
      exact ⟨by rw [N.out]; rfl, B.out _⟩
  · have N : Hid (pb (tmQ tm) = false) := pb_f fun h => h1 h.1
    have d : decide ((0 : Int) ≤ tm) = false := decide_eq_false h1
    go_enter Tryz.func213, Tryz.ntmps213
    go_wp2
    go_ret
    exact ⟨by rw [N.out]; rfl, B.out _⟩
theorem ta1t (v : Value) (w : World) : (Instr.typeAssert (.iface 162 v) 119 162 true).run Tryz.prog w = .ok (.tuple #[v, .bool true]) w := by kernel_rfl
theorem mt1 (tx : ByteArray) (w : World) : (Go.method 369 162 (.agg #[.string tx]) "loop.example/g00020/impl.fits").run Tryz.prog w = .ok (211, (.agg #[.string tx])) w := by kernel_rfl
set_option maxRecDepth 20000 in
set_option maxHeartbeats 2000000 in
theorem iCond1 (tx : ByteArray) (tm : Int) (w : World) :
    Calls Tryz.prog 67 #[.agg #[.int .i64 1, .string tx, .int .i64 tm]] w fun e w' => e = .returned (.iface 162 (.agg #[.string tx])) ∧ w' = w.alloc (.cells #[.int .i64 1, .string tx, .int .i64 tm] 83) := by
  go_enter Tryz.func67, Tryz.ntmps67
  go_wp2
  go_ret
  exact ⟨rfl, rfl⟩
set_option maxRecDepth 20000 in
set_option maxHeartbeats 2000000 in
theorem iPlain1 (tx : ByteArray) (w : World) :
    Calls Tryz.prog 146 #[.iface 162 (.agg #[.string tx])] w fun e w' => e = .returned (.agg #[.int .i64 1, .string tx, .int .i64 0]) ∧ Below w.heap.size w w' := by
  have q1 := ta1t
  go_enter Tryz.func146, Tryz.ntmps146
  go_wp2
  refine bodyPost_ret (v := .agg #[.int .i64 1, .string tx, .int .i64 0]) ?_ rfl ⟨rfl, balCn (balCn (Below.refl _ _) _) _⟩
  exact results_cell_row Tryz.results146 _ _ w.heap.size _ _ _ _ rfl ((RowAt.new _ _ _).alloc _) Tryz.underlying83 rfl (by kernel_rfl)
theorem ta2t (v : Value) (w : World) : (Instr.typeAssert (.iface 166 v) 119 166 true).run Tryz.prog w = .ok (.tuple #[v, .bool true]) w := by kernel_rfl
theorem ta2n1 (v : Value) (w : World) : (Instr.typeAssert (.iface 166 v) 119 162 true).run Tryz.prog w = .ok (.tuple #[.agg #[.string ⟨#[]⟩], .bool false]) w := by kernel_rfl
theorem mt2 (tm : Int) (w : World) : (Go.method 369 166 (.agg #[.int .i64 tm]) "loop.example/g00020/impl.fits").run Tryz.prog w = .ok (213, (.agg #[.int .i64 tm])) w := by kernel_rfl
set_option maxRecDepth 20000 in
set_option maxHeartbeats 2000000 in
theorem iCond2 (tx : ByteArray) (tm : Int) (w : World) :
    Calls Tryz.prog 67 #[.agg #[.int .i64 2, .string tx, .int .i64 tm]] w fun e w' => e = .returned (.iface 166 (.agg #[.int .i64 tm])) ∧ w' = w.alloc (.cells #[.int .i64 2, .string tx, .int .i64 tm] 83) := by
  go_enter Tryz.func67, Tryz.ntmps67
  go_wp2
  go_ret
  exact ⟨rfl, rfl⟩
set_option maxRecDepth 20000 in
set_option maxHeartbeats 2000000 in
theorem iPlain2 (tm : Int) (w : World) :
    Calls Tryz.prog 146 #[.iface 166 (.agg #[.int .i64 tm])] w fun e w' => e = .returned (.agg #[.int .i64 2, .string ⟨#[]⟩, .int .i64 tm]) ∧ Below w.heap.size w w' := by
  have q2 := ta2t
  have q1 := ta2n1
  go_enter Tryz.func146, Tryz.ntmps146
  go_wp2
  refine bodyPost_ret (v := .agg #[.int .i64 2, .string ⟨#[]⟩, .int .i64 tm]) ?_ rfl ⟨rfl, balCn (balCn (Below.refl _ _) _) _⟩
  exact results_cell_row Tryz.results146 _ _ w.heap.size _ _ _ _ rfl ((RowAt.new _ _ _).alloc _) Tryz.underlying83 rfl (by kernel_rfl)
theorem ta3t (v : Value) (w : World) : (Instr.typeAssert (.iface 168 v) 119 168 true).run Tryz.prog w = .ok (.tuple #[v, .bool true]) w := by kernel_rfl
theorem ta3n1 (v : Value) (w : World) : (Instr.typeAssert (.iface 168 v) 119 162 true).run Tryz.prog w = .ok (.tuple #[.agg #[.string ⟨#[]⟩], .bool false]) w := by kernel_rfl
theorem ta3n2 (v : Value) (w : World) : (Instr.typeAssert (.iface 168 v) 119 166 true).run Tryz.prog w = .ok (.tuple #[.agg #[.int .i64 0], .bool false]) w := by kernel_rfl
theorem mt3 (tm : Int) (w : World) : (Go.method 369 168 (.agg #[.int .i64 tm]) "loop.example/g00020/impl.fits").run Tryz.prog w = .ok (213, (.agg #[.int .i64 tm])) w := by kernel_rfl
set_option maxRecDepth 20000 in
set_option maxHeartbeats 2000000 in
theorem iCond3 (tx : ByteArray) (tm : Int) (w : World) :
    Calls Tryz.prog 67 #[.agg #[.int .i64 3, .string tx, .int .i64 tm]] w fun e w' => e = .returned (.iface 168 (.agg #[.int .i64 tm])) ∧ w' = w.alloc (.cells #[.int .i64 3, .string tx, .int .i64 tm] 83) := by
  go_enter Tryz.func67, Tryz.ntmps67
  go_wp2
  go_ret
  exact ⟨rfl, rfl⟩
set_option maxRecDepth 20000 in
set_option maxHeartbeats 2000000 in
theorem iPlain3 (tm : Int) (w : World) :
    Calls Tryz.prog 146 #[.iface 168 (.agg #[.int .i64 tm])] w fun e w' => e = .returned (.agg #[.int .i64 3, .string ⟨#[]⟩, .int .i64 tm]) ∧ Below w.heap.size w w' := by
  have q3 := ta3t
  have q1 := ta3n1
  have q2 := ta3n2
  go_enter Tryz.func146, Tryz.ntmps146
  go_wp2
  refine bodyPost_ret (v := .agg #[.int .i64 3, .string ⟨#[]⟩, .int .i64 tm]) ?_ rfl ⟨rfl, balCn (balCn (Below.refl _ _) _) _⟩
  exact results_cell_row Tryz.results146 _ _ w.heap.size _ _ _ _ rfl ((RowAt.new _ _ _).alloc _) Tryz.underlying83 rfl (by kernel_rfl)
theorem ta4t (v : Value) (w : World) : (Instr.typeAssert (.iface 169 v) 119 169 true).run Tryz.prog w = .ok (.tuple #[v, .bool true]) w := by kernel_rfl
theorem ta4n1 (v : Value) (w : World) : (Instr.typeAssert (.iface 169 v) 119 162 true).run Tryz.prog w = .ok (.tuple #[.agg #[.string ⟨#[]⟩], .bool false]) w := by kernel_rfl
theorem ta4n2 (v : Value) (w : World) : (Instr.typeAssert (.iface 169 v) 119 166 true).run Tryz.prog w = .ok (.tuple #[.agg #[.int .i64 0], .bool false]) w := by kernel_rfl
theorem ta4n3 (v : Value) (w : World) : (Instr.typeAssert (.iface 169 v) 119 168 true).run Tryz.prog w = .ok (.tuple #[.agg #[.int .i64 0], .bool false]) w := by kernel_rfl
theorem mt4 (tx : ByteArray) (w : World) : (Go.method 369 169 (.agg #[.string tx]) "loop.example/g00020/impl.fits").run Tryz.prog w = .ok (211, (.agg #[.string tx])) w := by kernel_rfl
set_option maxRecDepth 20000 in
set_option maxHeartbeats 2000000 in
theorem iCond4 (tx : ByteArray) (tm : Int) (w : World) :
    Calls Tryz.prog 67 #[.agg #[.int .i64 4, .string tx, .int .i64 tm]] w fun e w' => e = .returned (.iface 169 (.agg #[.string tx])) ∧ w' = w.alloc (.cells #[.int .i64 4, .string tx, .int .i64 tm] 83) := by
  go_enter Tryz.func67, Tryz.ntmps67
  go_wp2
  go_ret
  exact ⟨rfl, rfl⟩
set_option maxRecDepth 20000 in
set_option maxHeartbeats 2000000 in
theorem iPlain4 (tx : ByteArray) (w : World) :
    Calls Tryz.prog 146 #[.iface 169 (.agg #[.string tx])] w fun e w' => e = .returned (.agg #[.int .i64 4, .string tx, .int .i64 0]) ∧ Below w.heap.size w w' := by
  have q4 := ta4t
  have q1 := ta4n1
  have q2 := ta4n2
  have q3 := ta4n3
  go_enter Tryz.func146, Tryz.ntmps146
  go_wp2
  refine bodyPost_ret (v := .agg #[.int .i64 4, .string tx, .int .i64 0]) ?_ rfl ⟨rfl, balCn (balCn (Below.refl _ _) _) _⟩
  exact results_cell_row Tryz.results146 _ _ w.heap.size _ _ _ _ rfl ((RowAt.new _ _ _).alloc _) Tryz.underlying83 rfl (by kernel_rfl)
set_option maxRecDepth 20000 in
set_option maxHeartbeats 2000000 in
theorem iCond0 (kd : Int) (tx : ByteArray) (tm : Int) (h1 : ¬ kd = 1) (h2 : ¬ kd = 2) (h3 : ¬ kd = 3) (h4 : ¬ kd = 4) (w : World) :
    Calls Tryz.prog 67 #[.agg #[.int .i64 kd, .string tx, .int .i64 tm]] w fun e w' => e = .returned .nilIface ∧ w' = w.alloc (.cells #[.int .i64 kd, .string tx, .int .i64 tm] 83) := by
  have b1 : (kd == 1) = false := beq_eq_false_iff_ne.2 h1
  have b4 : (kd == 4) = false := beq_eq_false_iff_ne.2 h4
  have b2 : (kd == 2) = false := beq_eq_false_iff_ne.2 h2
  have b3 : (kd == 3) = false := beq_eq_false_iff_ne.2 h3
  go_enter Tryz.func67, Tryz.ntmps67
  go_wp2
  go_ret
  exact ⟨rfl, rfl⟩
end Go.Proofs.YtmjolkagkeonfaaGreatDoor
