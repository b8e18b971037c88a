import Derived.Test.YtkppgjndmbbobaaGreatDoorProg
import Derived.Test.YtkppgjndmbbobaaGreatDoorBase
import Derived.Test.YtkppgjndmbbobaaGreatDoorGlobMath
import Derived.BigQuiet
import Derived.Deep.QuietTactic
import Derived.Deep.RegionWith
namespace Go.Proofs.YtkppgjndmbbobaaGreatDoor
open Go.RowKit
/-! strings.Trim of spaces (out of ITrim). -/
def szVS : Value → Nat
  | .string t => t.size
  | _ => 0
/-- what is left when the spaces behind are gone -/
def RTS (s t : ByteArray) : Prop := ∃ k, t.data.toList = s.data.toList.take k ∧ (∀ c ∈ s.data.toList.drop k, c = 32) ∧ (∀ h : 0 < t.size, t[t.size - 1] ≠ 32)
/-- what is left when the spaces ahead are gone -/
def LTS (s t : ByteArray) : Prop := ∃ k, t.data.toList = s.data.toList.drop k ∧ (∀ c ∈ s.data.toList.take k, c = 32) ∧ (∀ h : 0 < t.size, t[0] ≠ 32)
theorem baLenS (b : ByteArray) : b.data.toList.length = b.size := by simp
theorem ba0S {b : ByteArray} (h : b.size = 0) : b = ⟨#[]⟩ := by
  cases b with
  | mk d => congr 1; exact Array.eq_empty_of_size_eq_zero h
theorem baTlS (a : ByteArray) : a.toList = a.data.toList := ByteArray.toList_eq ..
theorem ext_takeS (t : ByteArray) (n : Nat) : (t.extract 0 n).data.toList = t.data.toList.take n := by
  rw [ByteArray.data_extract]; simp
theorem ext_dropS (t : ByteArray) (n : Nat) : (t.extract n t.size).data.toList = t.data.toList.drop n := by
  rw [ByteArray.data_extract]
  simp
  rw [List.take_of_length_le]
  simp
theorem u8_eqS {x c : UInt8} {k : Int} (hk : (c.toNat : Int) = k) : (x.toNat : Int) = k ↔ x = c :=
  ⟨fun h => UInt8.toNat_inj.1 (by omega), fun h => by rw [h]; exact hk⟩
theorem ba_atS (t : ByteArray) (n : Nat) (h : n < t.size) : t.data.toList[n]? = some (t[n]'h) := by
  rw [Array.getElem?_toList]
  exact Array.getElem?_eq_getElem (by exact h)
set_option maxRecDepth 20000 in
set_option maxHeartbeats 1000000 in
theorem iTrimRS (s : ByteArray) (hs : s.size ≤ 1099511627776) (w : World) :
    Calls Tryz.prog 123 #[.string s, .int .u8 32] w fun e w' => (∃ t, e = .returned (.string t) ∧ RTS s t) ∧ w' = w := by
  go_enter Tryz.func123, Tryz.ntmps123
  go_wp2
  go_loop [0] (fun v => ∃ (t : ByteArray) (k : Nat), v = .string t ∧ t.size ≤ 1099511627776 ∧ t.data.toList = s.data.toList.take k ∧ ∀ c ∈ s.data.toList.drop k, c = 32) (fun v => szVS v)
  case atStart => exact ⟨s, s.size, rfl, hs, by rw [List.take_of_length_le]; simp, fun c hc => by rw [List.drop_of_length_le (by simp)] at hc; cases hc⟩
  case round =>
    obtain ⟨t, k, rfl, ht, h1, h2⟩ := hrel
    have H1 := hid h1
    have H2 := hid h2
    clear h1 h2
    by_cases h0 : 0 < t.size
    · obtain ⟨n, hn⟩ : ∃ n, t.size = n + 1 := ⟨t.size - 1, by omega⟩
      have e1 : (t.size : Int) - 1 = (n : Int) := by omega
      have e2 : IntKind.i64.wrap (n : Int) = (n : Int) := by rw [IntKind.wrap_i64]; omega
      have hl : n < t.size := by omega
      have HN := hid hn
      clear hn
      by_cases hc : t[n]'hl = 32
      · have c1 : ((t[n]'hl).toNat : Int) = 32 := by rw [hc]; rfl
        have HC := hid hc
        clear hc
        go_wp2
        refine ⟨⟨_, n, rfl, by rw [ByteArray.size_extract]; omega, ?_, ?_⟩, ?_⟩
        · rw [ext_takeS, H1.out, List.take_take]
          have := congrArg List.length H1.out
          rw [List.length_take, baLenS] at this
          rw [Nat.min_eq_left (by have := HN.out; omega)]
        · intro c hx
          have hL := congrArg List.length H1.out
          rw [List.length_take, baLenS, baLenS] at hL
          have hnn := HN.out
          have e3 : s.data.toList[n]? = some (t[n]'hl) := by
            rw [← ba_atS t n hl, H1.out, List.getElem?_take, if_pos (by omega)]
          rw [drop_at e3] at hx
          rcases List.mem_cons.1 hx with rfl | hx
          · exact HC.out
          · refine H2.out c ?_
            rcases Nat.lt_or_ge k (n + 2) with h | h
            · rw [show k = n + 1 by omega]; exact hx
            · rw [show n + 1 = s.size by omega] at hx
              rw [List.drop_of_length_le (by rw [baLenS]; exact Nat.le_refl _)] at hx; cases hx
        · show (t.extract 0 n).size < t.size
          rw [ByteArray.size_extract]; omega
      · have c1 : ¬ ((t[n]'hl).toNat : Int) = 32 := fun h => hc ((u8_eqS (c := 32) rfl).1 h)
        have HC := hid hc
        clear hc
        go_wp2
        go_ret
        refine ⟨⟨t, rfl, k, H1.out, H2.out, fun h => ?_⟩, rfl⟩
        have : t.size - 1 = n := by have := HN.out; omega
        simp only [this]; exact HC.out
    · have d0 : ¬ (0 : Int) < (t.size : Int) := by omega
      go_wp2
      go_ret
      exact ⟨⟨t, rfl, k, H1.out, H2.out, fun h => absurd h h0⟩, rfl⟩
set_option maxRecDepth 20000 in
set_option maxHeartbeats 1000000 in
theorem iTrimLS (s : ByteArray) (hs : s.size ≤ 1099511627776) (w : World) :
    Calls Tryz.prog 122 #[.string s, .int .u8 32] w fun e w' => (∃ t, e = .returned (.string t) ∧ LTS s t) ∧ w' = w := by
  go_enter Tryz.func122, Tryz.ntmps122
  go_wp2
  go_loop [0] (fun v => ∃ (t : ByteArray) (k : Nat), v = .string t ∧ t.size ≤ 1099511627776 ∧ t.data.toList = s.data.toList.drop k ∧ ∀ c ∈ s.data.toList.take k, c = 32) (fun v => szVS v)
  case atStart => exact ⟨s, 0, rfl, hs, rfl, fun c hc => by cases hc⟩
  case round =>
    obtain ⟨t, k, rfl, ht, h1, h2⟩ := hrel
    have H1 := hid h1
    have H2 := hid h2
    clear h1 h2
    by_cases h0 : 0 < t.size
    · by_cases hc : t[0]'h0 = 32
      · have c1 : ((t[0]'h0).toNat : Int) = 32 := by rw [hc]; rfl
        have HC := hid hc
        clear hc
        go_wp2
        refine ⟨⟨_, k + 1, rfl, by rw [ByteArray.size_extract]; omega, ?_, ?_⟩, ?_⟩
        · rw [ext_dropS, H1.out, List.drop_drop]
        · intro c hx
          have e3 : s.data.toList[k]? = some (t[0]'h0) := by
            rw [← ba_atS t 0 h0, H1.out, List.getElem?_drop]; rfl
          rw [List.take_add_one, e3] at hx
          rcases List.mem_append.1 hx with hx | hx
          · exact H2.out c hx
          · have : c = t[0]'h0 := by simpa using hx
            rw [this]; exact HC.out
        · show (t.extract 1 t.size).size < t.size
          rw [ByteArray.size_extract]; omega
      · have c1 : ¬ ((t[0]'h0).toNat : Int) = 32 := fun h => hc ((u8_eqS (c := 32) rfl).1 h)
        have HC := hid hc
        clear hc
        go_wp2
        go_ret
        exact ⟨⟨t, rfl, k, H1.out, H2.out, fun h => HC.out⟩, rfl⟩
    · have d0 : ¬ (0 : Int) < (t.size : Int) := by omega
      go_wp2
      go_ret
      exact ⟨⟨t, rfl, k, H1.out, H2.out, fun h => absurd h h0⟩, rfl⟩
theorem iTrimRzS (s : ByteArray) (hs : s.size ≤ 1099511627776) (z : Int) (hz : z = 32) (w : World) :
    Calls Tryz.prog 123 #[.string s, .int .u8 z] w fun e w' => (∃ t, e = .returned (.string t) ∧ RTS s t) ∧ w' = w := by subst hz; exact iTrimRS s hs w
theorem iTrimLzS (s : ByteArray) (hs : s.size ≤ 1099511627776) (z : Int) (hz : z = 32) (w : World) :
    Calls Tryz.prog 122 #[.string s, .int .u8 z] w fun e w' => (∃ t, e = .returned (.string t) ∧ LTS s t) ∧ w' = w := by subst hz; exact iTrimLS s hs w
theorem rt_leS {s t : ByteArray} (h : RTS s t) : t.size ≤ s.size := by
  obtain ⟨k, h1, _⟩ := h
  have := congrArg List.length h1
  rw [List.length_take, baLenS, baLenS] at this; omega
theorem lt_leS {s t : ByteArray} (h : LTS s t) : t.size ≤ s.size := by
  obtain ⟨k, h1, _⟩ := h
  have := congrArg List.length h1
  rw [List.length_drop, baLenS, baLenS] at this; omega
theorem ba_extS {a b : ByteArray} (h : a.data.toList = b.data.toList) : a = b := by
  cases a
  cases b
  congr 1
  exact Array.toList_inj.1 h
/-- nothing goes exactly if no end is a space -/
theorem trim_sameS {s t u : ByteArray} (h1 : RTS s t) (h2 : LTS t u) : u = s ↔ ∀ h : 0 < s.size, s[0]'h ≠ 32 ∧ s[s.size - 1]'(by omega) ≠ 32 := by
  have l1 := rt_leS h1
  have l2 := lt_leS h2
  obtain ⟨k, a1, a2, a3⟩ := h1
  obtain ⟨m, b1, b2, b3⟩ := h2
  constructor
  · intro hu h
    have ht : t = s := by
      have l3 : u.size = s.size := by rw [hu]
      refine ba_extS ?_
      rw [a1]
      refine List.take_of_length_le ?_
      have := congrArg List.length a1
      rw [List.length_take, baLenS, baLenS] at this
      rw [baLenS]
      omega
    subst ht
    subst hu
    exact ⟨b3 h, a3 h⟩
  · intro h
    by_cases h0 : 0 < s.size
    · obtain ⟨p1, p2⟩ := h h0
      have ht : t = s := by
        refine ba_extS ?_
        rw [a1]
        refine List.take_of_length_le ?_
        rw [baLenS]
        rcases Nat.lt_or_ge k s.size with hk | hk
        · exfalso
          refine p2 (a2 _ (List.mem_iff_getElem?.2 ⟨s.size - 1 - k, ?_⟩))
          rw [List.getElem?_drop, show k + (s.size - 1 - k) = s.size - 1 by omega]
          exact ba_atS s _ _
        · exact hk
      subst ht
      refine ba_extS ?_
      rw [b1]
      rcases Nat.eq_zero_or_pos m with hm | hm
      · subst hm; rfl
      · exfalso
        refine p1 (b2 _ (List.mem_iff_getElem?.2 ⟨0, ?_⟩))
        rw [List.getElem?_take, if_pos hm]
        exact ba_atS _ _ _
    · have hs : s.size = 0 := by omega
      refine ba_extS ?_
      rw [List.eq_nil_of_length_eq_zero (show u.data.toList.length = 0 by rw [baLenS]; omega), List.eq_nil_of_length_eq_zero (show s.data.toList.length = 0 by rw [baLenS]; omega)]
set_option maxRecDepth 20000 in
set_option maxHeartbeats 1000000 in
theorem iTrimS (s : ByteArray) (hs : s.size ≤ 1099511627776) (w : World) :
    Calls Tryz.prog 103 #[.string s, .string ⟨#[32]⟩] w fun e w' => (∃ u : ByteArray, e = .returned (.string u) ∧ (u = s ↔ ∀ h : 0 < s.size, s[0]'h ≠ 32 ∧ s[s.size - 1]'(by omega) ≠ 32)) ∧ ∃ n, w' = w.drewN n := by
  by_cases h0 : s.size = 0
  · have e0 : s = ⟨#[]⟩ := ba0S h0
    subst e0
    go_enter Tryz.func103, Tryz.ntmps103
    go_wp2
    go_ret
    refine ⟨⟨_, rfl, ?_⟩, 0, rfl⟩
    exact ⟨fun _ h => absurd h (by decide), fun _ => rfl⟩
  · have hne := hid h0
    have e0 : ¬ s.toList = [] := fun e => h0 (by rw [← baLenS, ← baTlS, e]; rfl)
    have e1 : s.toList.isEmpty = false := by cases h : s.toList with
      | nil => exact absurd h e0
      | cons _ _ => rfl
    have x1 : (((⟨#[32]⟩ : ByteArray)[0]'(by decide)).toNat : Int) < 128 := by decide
    clear h0
    go_enter Tryz.func103, Tryz.ntmps103
    go_wp2_with fail
    go_region_with (first | (go_at_call 123; refine (iTrimRzS s hs _ (by decide) _).mono ?_; rintro e w2 ⟨⟨t, rfl, h1⟩, rfl⟩; have H1 := hid h1; clear h1) | (go_at_call 122; refine (iTrimLzS t (Nat.le_trans (rt_leS H1.out) hs) _ (by decide) _).mono ?_; rintro e w2 ⟨⟨u, rfl, h2⟩, rfl⟩; have H2 := hid h2; clear h2))
    all_goals go_wp2
    all_goals go_ret
    all_goals exact ⟨⟨u, rfl, trim_sameS H1.out H2.out⟩, _, rfl⟩
end Go.Proofs.YtkppgjndmbbobaaGreatDoor
