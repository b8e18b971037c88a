import Derived.Test.YtnkekdnfbndfbaaICmpE
import Derived.Test.YtnkekdnfbndfbaaLawEn2
namespace Go.Proofs.Ytnkekdnfbndfbaa
open Go.RowKit
/-! Whether an entry fits, whether entries are in order: the program's. -/
def kFit (k : ByteArray) : Bool := decide (1 ≤ k.size ∧ k.size ≤ 200)
set_option maxRecDepth 20000 in
theorem iKeyFits (k : ByteArray) (hk : k.size ≤ 1048576) (w : World) :
    Calls Try.prog 54 #[.string k] w fun e w' => e = .returned (.bool (kFit k)) ∧ w' = w := by
  by_cases h1 : 1 ≤ k.size
  · have d1 : (1 : Int) ≤ (k.size : Int) := by omega
    by_cases h2 : k.size ≤ 200
    · have d2 : (k.size : Int) ≤ 200 := by omega
      have E : Hid (kFit k = true) := by show _ = _; simp [kFit, h1, h2]
      go_enter Try.func54, Try.ntmps54
      go_wp2
      go_ret
      exact ⟨by rw [E.out]; rfl, rfl⟩
    · have d2 : ¬ (k.size : Int) ≤ 200 := by omega
      have E : Hid (kFit k = false) := by show _ = _; simp [kFit, h2]
      go_enter Try.func54, Try.ntmps54
      go_wp2
      go_ret
      exact ⟨by rw [E.out]; rfl, rfl⟩
  · have d1 : ¬ (1 : Int) ≤ (k.size : Int) := by omega
    have E : Hid (kFit k = false) := by show _ = _; simp only [kFit, h1]; simp
    go_enter Try.func54, Try.ntmps54
    go_wp2
    go_ret
    exact ⟨by rw [E.out]; rfl, rfl⟩
theorem fitE_iff (e : En) : fitE e ↔ kFit e.ky = true ∧ 1 ≤ e.sq ∧ e.tx.size ≤ 100000 ∧ ¬ (e.gn = true ∧ e.tx ≠ ⟨#[]⟩) := by
  unfold fitE kFit
  simp only [decide_eq_true_eq]
  exact ⟨fun ⟨a, b, c, d, e⟩ => ⟨⟨a, b⟩, c, e, d⟩, fun ⟨⟨a, b⟩, c, e, d⟩ => ⟨a, b, c, d, e⟩⟩
theorem txt_ne {t : ByteArray} (h : t ≠ ⟨#[]⟩) : t.toList.isEmpty = false := by
  rw [baT]
  cases e : t.data.toList with
  | nil => exact absurd (baL (b := ⟨#[]⟩) (by rw [e])) h
  | cons x l => rfl
open Classical in
noncomputable def fitB (e : En) : Bool := decide (fitE e)
theorem fitB_t {e : En} (h : fitE e) : fitB e = true := by unfold fitB; simp [h]
theorem fitB_f {e : En} (h : ¬ fitE e) : fitB e = false := by unfold fitB; simp [h]
theorem fitB_iff (e : En) : fitB e = true ↔ fitE e := by unfold fitB; simp
set_option maxRecDepth 20000 in
set_option maxHeartbeats 1000000 in
theorem iEntryFits (k : ByteArray) (q : Int) (g : Bool) (t : ByteArray) (hk : k.size ≤ 1048576) (ht : t.size ≤ 1048576) (w : World) :
    Calls Try.prog 35 #[.agg #[.string k, .int .i64 q, .bool g, .string t]] w fun e w' => e = .returned (.bool (fitB ⟨k, q, g, t⟩)) ∧ Below w.heap.size w w' := by
  have K := fun w => hid (iKeyFits k hk w)
  have F := hid (fitE_iff ⟨k, q, g, t⟩)
  obtain ⟨W0, hW0⟩ : ∃ W, W = w.alloc (.cells #[.string k, .int .i64 q, .bool g, .string t] 34) := ⟨_, rfl⟩
  have A0 : RowAt W0 w.heap.size 34 #[.string k, .int .i64 q, .bool g, .string t] := by rw [hW0]; exact RowAt.new _ _ _
  have B0 : Hid (Below w.heap.size w W0) := by rw [hW0]; exact balEn (Below.refl _ _) _
  have a0 := A0.cell 0
  have a1 := A0.cell 1
  have a2 := A0.cell 2
  have a3 := A0.cell 3
  clear A0
  have HW := hid hW0
  clear hW0
  cases hkf : kFit k with
  | false =>
    rw [hkf] at K
    have F1 : Hid (¬ fitE ⟨k, q, g, t⟩) := fun h => by have := (F.out.1 h).1; simp [hkf] at this
    go_enter Try.func35, Try.ntmps35
    go_upto_region 1 with fail
    rw [← HW.out]
    go_wp2_with fail
    refine (K _).out.mono ?_
    rintro e w1 ⟨rfl, rfl⟩
    go_wp2
    go_ret
    exact ⟨by rw [fitB_f F1.out]; rfl, B0.out⟩
  | true =>
  rw [hkf] at K
  by_cases h1 : 1 ≤ q
  · by_cases h2 : t.size ≤ 100000
    · have d2 : (t.size : Int) ≤ 100000 := by omega
      cases g with
      | false =>
        have F1 : Hid (fitE ⟨k, q, false, t⟩) := F.out.2 ⟨hkf, h1, h2, fun h => by cases h.1⟩
        go_enter Try.func35, Try.ntmps35
        go_upto_region 1 with fail
        rw [← HW.out]
        go_wp2_with fail
        refine (K _).out.mono ?_
        rintro e w1 ⟨rfl, rfl⟩
        go_wp2
        go_ret
        exact ⟨by rw [fitB_t F1.out]; rfl, B0.out⟩
      | true =>
        by_cases h3 : t = ⟨#[]⟩
        · subst h3
          have F1 : Hid (fitE ⟨k, q, true, ⟨#[]⟩⟩) := F.out.2 ⟨hkf, h1, h2, fun h => h.2 rfl⟩
          go_enter Try.func35, Try.ntmps35
          go_upto_region 1 with fail
          rw [← HW.out]
          go_wp2_with fail
          refine (K _).out.mono ?_
          rintro e w1 ⟨rfl, rfl⟩
          go_wp2
          go_ret
          exact ⟨by rw [fitB_t F1.out]; rfl, B0.out⟩
        · have d3 : t.toList.isEmpty = false := txt_ne h3
          have F1 : Hid (¬ fitE ⟨k, q, true, t⟩) := fun h => (F.out.1 h).2.2.2 ⟨rfl, h3⟩
          go_enter Try.func35, Try.ntmps35
          go_upto_region 1 with fail
          rw [← HW.out]
          go_wp2_with fail
          refine (K _).out.mono ?_
          rintro e w1 ⟨rfl, rfl⟩
          go_wp2
          go_ret
          exact ⟨by rw [fitB_f F1.out]; rfl, B0.out⟩
    · have d2 : ¬ (t.size : Int) ≤ 100000 := by omega
      have F1 : Hid (¬ fitE ⟨k, q, g, t⟩) := fun h => h2 (F.out.1 h).2.2.1
      go_enter Try.func35, Try.ntmps35
      go_upto_region 1 with fail
      rw [← HW.out]
      go_wp2_with fail
      refine (K _).out.mono ?_
      rintro e w1 ⟨rfl, rfl⟩
      go_wp2
      go_ret
      exact ⟨by rw [fitB_f F1.out]; rfl, B0.out⟩
  · have F1 : Hid (¬ fitE ⟨k, q, g, t⟩) := fun h => h1 (F.out.1 h).2.1
    go_enter Try.func35, Try.ntmps35
    go_upto_region 1 with fail
    rw [← HW.out]
    go_wp2_with fail
    refine (K _).out.mono ?_
    rintro e w1 ⟨rfl, rfl⟩
    go_wp2
    go_ret
    exact ⟨by rw [fitB_f F1.out]; rfl, B0.out⟩
end Go.Proofs.Ytnkekdnfbndfbaa
