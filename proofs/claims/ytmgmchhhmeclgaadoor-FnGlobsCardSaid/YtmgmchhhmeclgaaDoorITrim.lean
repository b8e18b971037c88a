import Derived.Test.YtmgmchhhmeclgaaDoorProg
import Derived.Test.YtmgmchhhmeclgaaDoorBase
import Derived.Test.YtmgmchhhmeclgaaDoorGlobMath
import Derived.BigQuiet
import Derived.Deep.QuietTactic
import Derived.Deep.RegionWith
namespace Go.Proofs.YtmgmchhhmeclgaaDoor
open Go.RowKit
/-! strings.Trim of stars. -/
def szV : Value → Nat
  | .string t => t.size
  | _ => 0
/-- what is left when the stars behind are gone -/
def RT (s t : ByteArray) : Prop := ∃ k, t.data.toList = s.data.toList.take k ∧ (∀ c ∈ s.data.toList.drop k, c = 42) ∧ (∀ h : 0 < t.size, t[t.size - 1] ≠ 42)
/-- what is left when the stars ahead are gone -/
def LT (s t : ByteArray) : Prop := ∃ k, t.data.toList = s.data.toList.drop k ∧ (∀ c ∈ s.data.toList.take k, c = 42) ∧ (∀ h : 0 < t.size, t[0] ≠ 42)
theorem baLen (b : ByteArray) : b.data.toList.length = b.size := by simp
theorem ba0 {b : ByteArray} (h : b.size = 0) : b = ⟨#[]⟩ := by
  cases b with
  | mk d => congr 1; exact Array.eq_empty_of_size_eq_zero h
theorem baTl (a : ByteArray) : a.toList = a.data.toList := ByteArray.toList_eq ..
theorem ext_take (t : ByteArray) (n : Nat) : (t.extract 0 n).data.toList = t.data.toList.take n := by
  rw [ByteArray.data_extract]; simp
theorem ext_drop (t : ByteArray) (n : Nat) : (t.extract n t.size).data.toList = t.data.toList.drop n := by
  rw [ByteArray.data_extract]
  simp
  rw [List.take_of_length_le]
  simp
theorem u8_eq {x c : UInt8} {k : Int} (hk : (c.toNat : Int) = k) : (x.toNat : Int) = k ↔ x = c :=
  ⟨fun h => UInt8.toNat_inj.1 (by omega), fun h => by rw [h]; exact hk⟩
theorem ba_at (t : ByteArray) (n : Nat) (h : n < t.size) : t.data.toList[n]? = some (t[n]'h) := by
  rw [Array.getElem?_toList]
  exact Array.getElem?_eq_getElem (by exact h)
set_option maxRecDepth 20000 in
set_option maxHeartbeats 1000000 in
theorem iTrimR (s : ByteArray) (hs : s.size ≤ 1099511627776) (w : World) :
    Calls Tryd.prog 16 #[.string s, .int .u8 42] w fun e w' => (∃ t, e = .returned (.string t) ∧ RT s t) ∧ w' = w := by
  go_enter Tryd.func16, Tryd.ntmps16
  go_wp2
  go_loop [0] (fun v => ∃ (t : ByteArray) (k : Nat), v = .string t ∧ t.size ≤ 1099511627776 ∧ t.data.toList = s.data.toList.take k ∧ ∀ c ∈ s.data.toList.drop k, c = 42) (fun v => szV v)
  case atStart => exact ⟨s, s.size, rfl, hs, by rw [List.take_of_length_le]; simp, fun c hc => by rw [List.drop_of_length_le (by simp)] at hc; cases hc⟩
  case round =>
    obtain ⟨t, k, rfl, ht, h1, h2⟩ := hrel
    have H1 := hid h1
    have H2 := hid h2
    clear h1 h2
    by_cases h0 : 0 < t.size
    · obtain ⟨n, hn⟩ : ∃ n, t.size = n + 1 := ⟨t.size - 1, by omega⟩
      have e1 : (t.size : Int) - 1 = (n : Int) := by omega
      have e2 : IntKind.i64.wrap (n : Int) = (n : Int) := by rw [IntKind.wrap_i64]; omega
      have hl : n < t.size := by omega
      have HN := hid hn
      clear hn
      by_cases hc : t[n]'hl = 42
      · have c1 : ((t[n]'hl).toNat : Int) = 42 := by rw [hc]; rfl
        have HC := hid hc
        clear hc
        go_wp2
        refine ⟨⟨_, n, rfl, by rw [ByteArray.size_extract]; omega, ?_, ?_⟩, ?_⟩
        · rw [ext_take, H1.out, List.take_take]
          have := congrArg List.length H1.out
          rw [List.length_take, baLen] at this
          rw [Nat.min_eq_left (by have := HN.out; omega)]
        · intro c hx
          have hL := congrArg List.length H1.out
          rw [List.length_take, baLen, baLen] at hL
          have hnn := HN.out
          have e3 : s.data.toList[n]? = some (t[n]'hl) := by
            rw [← ba_at t n hl, H1.out, List.getElem?_take, if_pos (by omega)]
          rw [drop_at e3] at hx
          rcases List.mem_cons.1 hx with rfl | hx
          · exact HC.out
          · refine H2.out c ?_
            rcases Nat.lt_or_ge k (n + 2) with h | h
            · rw [show k = n + 1 by omega]; exact hx
            · rw [show n + 1 = s.size by omega] at hx
              rw [List.drop_of_length_le (by rw [baLen]; exact Nat.le_refl _)] at hx; cases hx
        · show (t.extract 0 n).size < t.size
          rw [ByteArray.size_extract]; omega
      · have c1 : ¬ ((t[n]'hl).toNat : Int) = 42 := fun h => hc ((u8_eq (c := 42) rfl).1 h)
        have HC := hid hc
        clear hc
        go_wp2
        go_ret
        refine ⟨⟨t, rfl, k, H1.out, H2.out, fun h => ?_⟩, rfl⟩
        have : t.size - 1 = n := by have := HN.out; omega
        simp only [this]; exact HC.out
    · have d0 : ¬ (0 : Int) < (t.size : Int) := by omega
      go_wp2
      go_ret
      exact ⟨⟨t, rfl, k, H1.out, H2.out, fun h => absurd h h0⟩, rfl⟩
set_option maxRecDepth 20000 in
set_option maxHeartbeats 1000000 in
theorem iTrimL (s : ByteArray) (hs : s.size ≤ 1099511627776) (w : World) :
    Calls Tryd.prog 15 #[.string s, .int .u8 42] w fun e w' => (∃ t, e = .returned (.string t) ∧ LT s t) ∧ w' = w := by
  go_enter Tryd.func15, Tryd.ntmps15
  go_wp2
  go_loop [0] (fun v => ∃ (t : ByteArray) (k : Nat), v = .string t ∧ t.size ≤ 1099511627776 ∧ t.data.toList = s.data.toList.drop k ∧ ∀ c ∈ s.data.toList.take k, c = 42) (fun v => szV v)
  case atStart => exact ⟨s, 0, rfl, hs, rfl, fun c hc => by cases hc⟩
  case round =>
    obtain ⟨t, k, rfl, ht, h1, h2⟩ := hrel
    have H1 := hid h1
    have H2 := hid h2
    clear h1 h2
    by_cases h0 : 0 < t.size
    · by_cases hc : t[0]'h0 = 42
      · have c1 : ((t[0]'h0).toNat : Int) = 42 := by rw [hc]; rfl
        have HC := hid hc
        clear hc
        go_wp2
        refine ⟨⟨_, k + 1, rfl, by rw [ByteArray.size_extract]; omega, ?_, ?_⟩, ?_⟩
        · rw [ext_drop, H1.out, List.drop_drop]
        · intro c hx
          have e3 : s.data.toList[k]? = some (t[0]'h0) := by
            rw [← ba_at t 0 h0, H1.out, List.getElem?_drop]; rfl
          rw [List.take_add_one, e3] at hx
          rcases List.mem_append.1 hx with hx | hx
          · exact H2.out c hx
          · have : c = t[0]'h0 := by simpa using hx
            rw [this]; exact HC.out
        · show (t.extract 1 t.size).size < t.size
          rw [ByteArray.size_extract]; omega
      · have c1 : ¬ ((t[0]'h0).toNat : Int) = 42 := fun h => hc ((u8_eq (c := 42) rfl).1 h)
        have HC := hid hc
        clear hc
        go_wp2
        go_ret
        exact ⟨⟨t, rfl, k, H1.out, H2.out, fun h => HC.out⟩, rfl⟩
    · have d0 : ¬ (0 : Int) < (t.size : Int) := by omega
      go_wp2
      go_ret
      exact ⟨⟨t, rfl, k, H1.out, H2.out, fun h => absurd h h0⟩, rfl⟩
theorem iTrimRz (s : ByteArray) (hs : s.size ≤ 1099511627776) (z : Int) (hz : z = 42) (w : World) :
    Calls Tryd.prog 16 #[.string s, .int .u8 z] w fun e w' => (∃ t, e = .returned (.string t) ∧ RT s t) ∧ w' = w := by subst hz; exact iTrimR s hs w
theorem iTrimLz (s : ByteArray) (hs : s.size ≤ 1099511627776) (z : Int) (hz : z = 42) (w : World) :
    Calls Tryd.prog 15 #[.string s, .int .u8 z] w fun e w' => (∃ t, e = .returned (.string t) ∧ LT s t) ∧ w' = w := by subst hz; exact iTrimL s hs w
theorem rt_le {s t : ByteArray} (h : RT s t) : t.size ≤ s.size := by
  obtain ⟨k, h1, _⟩ := h
  have := congrArg List.length h1
  rw [List.length_take, baLen, baLen] at this; omega
/-- nothing is left exactly if there were stars alone -/
theorem trim_iff {s t u : ByteArray} (h1 : RT s t) (h2 : LT t u) : u.size = 0 ↔ ∀ c ∈ s.data.toList, c = 42 := by
  obtain ⟨k, a1, a2, a3⟩ := h1
  obtain ⟨m, b1, b2, b3⟩ := h2
  have hm : ∀ c ∈ t.data.toList, c ∈ s.data.toList := fun c hc => by rw [a1] at hc; exact List.mem_of_mem_take hc
  constructor
  · intro h0 c hc
    rw [← List.take_append_drop k s.data.toList, ← a1] at hc
    rcases List.mem_append.1 hc with hc | hc
    · rw [← List.take_append_drop m t.data.toList, ← b1] at hc
      rcases List.mem_append.1 hc with hc | hc
      · exact b2 c hc
      · have : u.data.toList = [] := List.length_eq_zero_iff.1 (by rw [baLen]; exact h0)
        rw [this] at hc; cases hc
    · exact a2 c hc
  · intro h
    rcases Nat.eq_zero_or_pos u.size with h0 | h0
    · exact h0
    · exfalso
      refine b3 h0 (h _ (hm _ ?_))
      have : u[0]'h0 ∈ u.data.toList := List.mem_of_getElem? (ba_at u 0 h0)
      rw [b1] at this; exact List.mem_of_mem_drop this
set_option maxRecDepth 20000 in
set_option maxHeartbeats 1000000 in
theorem iTrim (s : ByteArray) (hs : s.size ≤ 1099511627776) (w : World) :
    Calls Tryd.prog 14 #[.string s, .string ⟨#[42]⟩] w fun e w' => (∃ u : ByteArray, e = .returned (.string u) ∧ (u.size = 0 ↔ ∀ c ∈ s.data.toList, c = 42)) ∧ ∃ n, w' = w.drewN n := by
  by_cases h0 : s.size = 0
  · have e0 : s = ⟨#[]⟩ := ba0 h0
    subst e0
    go_enter Tryd.func14, Tryd.ntmps14
    go_wp2
    go_ret
    refine ⟨⟨_, rfl, ?_⟩, 0, rfl⟩
    exact ⟨fun _ c hc => (by cases hc), fun _ => rfl⟩
  · have hne := hid h0
    have e0 : ¬ s.toList = [] := fun e => h0 (by rw [← baLen, ← baTl, e]; rfl)
    have e1 : s.toList.isEmpty = false := by cases h : s.toList with
      | nil => exact absurd h e0
      | cons _ _ => rfl
    have x1 : (((⟨#[42]⟩ : ByteArray)[0]'(by decide)).toNat : Int) < 128 := by decide
    clear h0
    go_enter Tryd.func14, Tryd.ntmps14
    go_wp2_with fail
    go_region_with (first | (go_at_call 16; refine (iTrimRz s hs _ (by decide) _).mono ?_; rintro e w2 ⟨⟨t, rfl, h1⟩, rfl⟩; have H1 := hid h1; clear h1) | (go_at_call 15; refine (iTrimLz t (Nat.le_trans (rt_le H1.out) hs) _ (by decide) _).mono ?_; rintro e w2 ⟨⟨u, rfl, h2⟩, rfl⟩; have H2 := hid h2; clear h2))
    all_goals go_wp2
    all_goals go_ret
    all_goals exact ⟨⟨u, rfl, trim_iff H1.out H2.out⟩, _, rfl⟩
end Go.Proofs.YtmgmchhhmeclgaaDoor
