import Derived.Test.YtlobnmcjnaibaaaDoorRISide
namespace Go.Proofs.YtlobnmcjnaibaaaDoorR
open Go.RowKit
set_option maxRecDepth 20000 in
set_option maxHeartbeats 2000000 in
/-- The program's MatrixFault. -/
theorem ifault (r c : Int) (a : Option Addr) (len cap : Nat) (xs : List Int) (w : World) (h : Ints .i64 w a len cap xs) (hl : len ≤ 1048576) :
    Calls Tryd.prog 22 #[mxv r c a len cap] w fun e w' => e = .returned (.int .i64 (mfault r c xs)) ∧ Below w.heap.size w w' := by
  have hx := h.1
  have hb0 : Below w.heap.size w (w.alloc (.cells #[.int .i64 r, .int .i64 c, .slice a len cap] 25)) := (Below.refl _ _).alloc (Nat.le_refl _) _
  by_cases h1 : ¬ (1 ≤ r ∧ r ≤ 64)
  · have E : mfault r c xs = 1 := if_neg (by omega)
    rw [E]
    go_enter Tryd.func22, Tryd.ntmps22
    go_wp2_with fail
    refine (isSide_no r _ h1).mono ?_
    rintro e w1 ⟨rfl, rfl⟩
    go_wp2
    go_ret
    exact ⟨rfl, hb0⟩
  have h1' : 1 ≤ r ∧ r ≤ 64 := by omega
  by_cases h2 : ¬ (1 ≤ c ∧ c ≤ 64)
  · have E : mfault r c xs = 1 := if_neg (by omega)
    rw [E]
    go_enter Tryd.func22, Tryd.ntmps22
    go_wp2_with fail
    refine (isSide_yes r _ h1').mono ?_
    rintro e w1 ⟨rfl, rfl⟩
    go_wp2_with fail
    refine (isSide_no c _ h2).mono ?_
    rintro e w1 ⟨rfl, rfl⟩
    go_wp2
    go_ret
    exact ⟨rfl, hb0⟩
  have h2' : 1 ≤ c ∧ c ≤ 64 := by omega
  clear h1 h2
  obtain ⟨R, rfl⟩ := Int.eq_ofNat_of_zero_le (show 0 ≤ r by omega)
  obtain ⟨C, rfl⟩ := Int.eq_ofNat_of_zero_le (show 0 ≤ c by omega)
  obtain ⟨q, hq⟩ : ∃ q : Nat, (R : Int) * (C : Int) = (q : Int) := ⟨R * C, by simp⟩
  have hq2 : q ≤ 4096 := by
    have : R * C ≤ 64 * 64 := Nat.mul_le_mul (by omega) (by omega)
    have e : (q : Int) = ((R * C : Nat) : Int) := by rw [← hq]; simp
    omega
  have H1 := hid h1'
  have H2 := hid h2'
  clear h1' h2'
  by_cases h5 : len = q
  · subst h5
    have HQ := hid hq
    have d4 : ((len : Int) != (len : Int)) = false := by simp
    have HH := hid h
    clear h
    go_enter Tryd.func22, Tryd.ntmps22
    go_wp2_with fail
    refine (isSide_yes R _ H1.out).mono ?_
    rintro e w1 ⟨rfl, rfl⟩
    go_wp2_with fail
    refine (isSide_yes C _ H2.out).mono ?_
    rintro e w1 ⟨rfl, rfl⟩
    go_wp2
    clear hq
    go_loopw [29] (fun y wr => ∃ k : Nat, k ≤ len ∧ y = .int .i64 k ∧ Below w.heap.size w wr ∧ ∀ i, i < k → 0 ≤ xs.getD i 0 ∧ xs.getD i 0 < 256) (fun y _ => len - (intOf y).toNat)
    case atStart => exact ⟨0, Nat.zero_le _, rfl, hb0, fun i hi => absurd hi (Nat.not_lt_zero _)⟩
    case round =>
      obtain ⟨k, hk, rfl, hb, hall⟩ := hrel
      have HA := hid hall
      have HB := hid hb
      clear hall hb hb0
      by_cases hlt : k < len
      · rcases HH.out.2.2 with h00 | ⟨b, off, rfl, hbl, hc⟩
        · omega
        · have c1 : wr.cell? ⟨b, off + k, none⟩ = some (.int .i64 (xs.getD k 0)) := (HB.out.cell (p := ⟨b, off + k, none⟩) hbl).trans (hc k hlt)
          have hlt' : (k : Int) < (len : Int) := by omega
          have i0 : (0 : Int) ≤ (k : Int) := by omega
          obtain ⟨x, hx2⟩ : ∃ x, x = xs.getD k 0 := ⟨_, rfl⟩
          have HX := hid hx2
          rw [← hx2] at c1
          clear hx2 hc
          have HB2 : Hid (Below w.heap.size w ((wr.alloc (.cells #[.int .u8 29] 61)).alloc (.cells #[.int .u8 29] 61))) := (HB.out.alloc HB.out.size _).alloc (by rw [size_al]; exact Nat.le_succ_of_le HB.out.size) _
          by_cases hin : 0 ≤ x ∧ x < 256
          · have e1 : Hid (inT 256 x = true) := by show inT 256 x = true; unfold inT; simpa using hin
            have HA' : Hid (∀ i, i < k + 1 → 0 ≤ xs.getD i 0 ∧ xs.getD i 0 < 256) := fun i hi => by
              by_cases e : i = k
              · subst e; rw [← HX.out]; exact hin
              · exact HA.out i (by omega)
            clear hin
            go_wp2_with fail
            refine (field8 _).mono ?_
            rintro e w2 ⟨rfl, rfl⟩
            go_wp2_with fail
            refine (has8 x _).mono ?_
            rintro e w2 ⟨rfl, rfl⟩
            rw [e1.out]
            go_wp2
            go_roundw
            case rel => exact ⟨k + 1, by omega, by go_num, HB2.out, HA'.out⟩
            case measure => simp [intOf]; omega
          · have e1 : Hid (inT 256 x = false) := by show inT 256 x = false; unfold inT; simpa using hin
            have E : mfault R C xs = 1 := if_neg (by
              rintro ⟨_, _, _, _, _, g⟩
              refine hin (g x ?_)
              rw [HX.out, List.getD_eq_getElem?_getD, List.getElem?_eq_getElem (by omega)]; simp)
            clear hin
            go_wp2_with fail
            refine (field8 _).mono ?_
            rintro e w2 ⟨rfl, rfl⟩
            go_wp2_with fail
            refine (has8 x _).mono ?_
            rintro e w2 ⟨rfl, rfl⟩
            rw [e1.out]
            go_wp2
            go_ret
            exact ⟨by first | rfl | (rw [E]; rfl), HB2.out⟩
      · have E : mfault R C xs = 0 := if_pos ⟨H1.out.1, H1.out.2, H2.out.1, H2.out.2, by rw [hx]; exact HQ.out.symm, fun x hxm => by
          obtain ⟨i, hi, rfl⟩ := List.getElem_of_mem hxm
          have := HA.out i (by omega)
          rw [List.getD_eq_getElem?_getD, List.getElem?_eq_getElem hi] at this; exact this⟩
        go_wp2
        go_ret
        exact ⟨by first | rfl | (rw [E]; rfl), HB.out⟩
  · have E : mfault R C xs = 1 := if_neg (by rw [hx, hq]; omega)
    rw [E]
    have d4 : ((len : Int) != (q : Int)) = true := by simp; omega
    go_enter Tryd.func22, Tryd.ntmps22
    go_wp2_with fail
    refine (isSide_yes R _ H1.out).mono ?_
    rintro e w1 ⟨rfl, rfl⟩
    go_wp2_with fail
    refine (isSide_yes C _ H2.out).mono ?_
    rintro e w1 ⟨rfl, rfl⟩
    go_wp2
    go_ret
    exact ⟨rfl, hb0⟩
end Go.Proofs.YtlobnmcjnaibaaaDoorR
