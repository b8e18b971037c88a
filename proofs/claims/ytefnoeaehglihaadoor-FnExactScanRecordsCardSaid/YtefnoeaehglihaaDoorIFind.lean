import Derived.Test.YtefnoeaehglihaaDoorIRead
import Derived.Laws.Externs
namespace Go.Proofs.YtefnoeaehglihaaDoor
open Go.RowKit
/-! The program's reader: nextMark, find. -/
theorem firstIdx_none (t : ByteArray) (c : UInt8) (h : firstIdx t c = -1) : ∀ i (hi : i < t.size), t[i] ≠ c := by
  intro i hi q
  unfold firstIdx at h
  split at h
  · omega
  · rename_i hn
    have := List.find?_eq_none.1 hn i (List.mem_range.2 hi)
    simp [hi, q] at this
theorem firstIdx_some (t : ByteArray) (c : UInt8) (h : firstIdx t c ≠ -1) : ∃ i : Nat, firstIdx t c = (i : Int) ∧ ∃ hi : i < t.size, t[i] = c ∧ ∀ j (hj : j < t.size), j < i → t[j] ≠ c := by
  unfold firstIdx at h ⊢
  split
  · rename_i i hs
    obtain ⟨h1, h2, h3⟩ := List.find?_range_eq_some.1 hs
    have hi : i < t.size := List.mem_range.1 h2
    refine ⟨i, rfl, hi, by simpa [hi] using h1, fun j hj hji q => ?_⟩
    have := h3 j hji
    simp [hj, q] at this
  · rename_i hn; rw [hn] at h; exact absurd rfl h
theorem firstIdx_form (t : ByteArray) (c : UInt8) : firstIdx t c = -1 ∨ ∃ i : Nat, firstIdx t c = (i : Int) := by
  by_cases h : firstIdx t c = -1
  · exact Or.inl h
  · obtain ⟨i, hi, _⟩ := firstIdx_some t c h; exact Or.inr ⟨i, hi⟩
set_option maxHeartbeats 1000000 in
theorem iIdx (t : ByteArray) (w : World) :
    Calls Tryd.prog 60 #[.string t, .int .u8 231] w fun e w' => e = .returned (.int .i64 (firstIdx t 231)) ∧ w' = w := by
  have h64 := @run_callFunc_extern Tryd.prog 64 _ Extern.BytealgIndexByte.indexByte Tryd.func64 (by kernel_rfl) (by kernel_rfl) (by kernel_rfl) (by kernel_rfl)
  have hr := fun w => run_indexByte_string (P := Tryd.prog) t 231 w
  go_enter Tryd.func60, Tryd.ntmps60
  go_wp2
  go_ret
  exact ⟨rfl, rfl⟩
theorem ex_get (s : ByteArray) (p e i : Nat) (he : e ≤ s.size) (hi : i < (s.extract p e).size) : p + i < s.size ∧ ∀ h, (s.extract p e)[i] = s[p + i]'h := by
  have hz := ex_size s p e he
  refine ⟨by omega, fun h => ?_⟩
  have h1 : (s.extract p e).data.toList[i]? = some (s.extract p e)[i] := data_get _ i hi
  rw [ex_data, List.getElem?_take_of_lt (by omega), List.getElem?_drop, data_get s (p + i) h] at h1
  exact (Option.some.inj h1).symm
def NextP (s : ByteArray) (p e q : Nat) : Prop := p ≤ q ∧ q ≤ e ∧ (∀ k, p ≤ k → k < q → byteAt s k ≠ 231) ∧ (q < e → byteAt s q = 231)
theorem next_of (s : ByteArray) (p e : Nat) (hpe : p ≤ e) (he : e ≤ s.size) : (firstIdx (s.extract p e) 231 = -1 ∧ NextP s p e e) ∨ ∃ i : Nat, firstIdx (s.extract p e) 231 = (i : Int) ∧ p + i < e ∧ NextP s p e (p + i) := by
  have hz := ex_size s p e he
  by_cases h : firstIdx (s.extract p e) 231 = -1
  · left
    refine ⟨h, hpe, Nat.le_refl _, fun k h1 h2 q => ?_, fun q => absurd q (Nat.lt_irrefl _)⟩
    obtain ⟨i, rfl⟩ : ∃ i, k = p + i := ⟨k - p, by omega⟩
    have hi : i < (s.extract p e).size := by omega
    have := firstIdx_none _ _ h i hi
    rw [(ex_get s p e i he hi).2 (by omega)] at this
    rw [byteAt_get s (p + i) (by omega)] at q
    exact this (UInt8.toNat_inj.1 q)
  · right
    obtain ⟨i, e1, hi, e2, e3⟩ := firstIdx_some _ _ h
    refine ⟨i, e1, by omega, by omega, by omega, fun k h1 h2 q => ?_, fun _ => ?_⟩
    · obtain ⟨j, rfl⟩ : ∃ j, k = p + j := ⟨k - p, by omega⟩
      have hj : j < (s.extract p e).size := by omega
      have := e3 j hj (by omega)
      rw [(ex_get s p e j he hj).2 (by omega)] at this
      rw [byteAt_get s (p + j) (by omega)] at q
      exact this (UInt8.toNat_inj.1 q)
    · rw [byteAt_get s (p + i) (by omega), ← (ex_get s p e i he hi).2 (by omega), e2]; rfl
set_option maxRecDepth 20000 in
set_option maxHeartbeats 1000000 in
theorem nextMark_all (R : Nat) (s : ByteArray) (p e : Nat) (hpe : p ≤ e) (he : e ≤ s.size) (hs : s.size ≤ 1048576) (w : World) (hr : w.cell? ⟨R, 0, none⟩ = some (.string s)) :
    Calls Tryd.prog 54 #[.pointer (some ⟨R, 0, none⟩), .int .i64 (p : Nat), .int .i64 (e : Nat)] w fun r w' => (∃ q : Nat, r = .returned (.int .i64 (q : Nat)) ∧ NextP s p e q) ∧ w' = w := by
  have hsl : ∀ wx, (Instr.slice 9 (.string s) (some (.int .i64 (p : Int))) (some (.int .i64 (e : Int))) none).run Tryd.prog wx = .ok (.string (s.extract p e)) wx := by
    intro wx
    rw [run_slice_string_if _ _ _ _ _ _ _ Tryd.underlying9, if_pos (by omega), if_pos (by omega)]
    rw [Int.toNat_natCast, Int.toNat_natCast]
  have IX := fun w => hid (iIdx (s.extract p e) w)
  have NX := hid (next_of s p e hpe he)
  obtain ⟨t, ht⟩ : ∃ t, t = s.extract p e := ⟨_, rfl⟩
  rw [← ht] at hsl IX NX
  clear ht
  rcases NX.out with ⟨h1, h2⟩ | ⟨i, h1, h2, h3⟩
  · rw [h1] at IX
    have H2 := hid h2
    clear h1 h2 NX
    go_enter Tryd.func54, Tryd.ntmps54
    go_wp2_with fail
    refine (IX _).out.mono ?_
    rintro e w1 ⟨rfl, rfl⟩
    go_wp2
    go_ret
    exact ⟨⟨_, rfl, H2.out⟩, rfl⟩
  · rw [h1] at IX
    have H3 := hid h3
    have d0 : decide ((i : Int) < 0) = false := by simp
    have wi : IntKind.i64.wrap ((p : Int) + (i : Int)) = (p : Int) + (i : Int) := by simp [IntKind.wrap, IntKind.bits, IntKind.signed]; omega
    have HI := hid h2
    clear h1 h3 NX h2
    go_enter Tryd.func54, Tryd.ntmps54
    go_wp2_with fail
    refine (IX _).out.mono ?_
    rintro e w1 ⟨rfl, rfl⟩
    go_wp2
    go_ret
    exact ⟨⟨p + i, by rw [show ((p + i : Nat) : Int) = (p : Int) + (i : Int) by omega]; rfl, H3.out⟩, rfl⟩
end Go.Proofs.YtefnoeaehglihaaDoor
