import Derived.Test.YtcbmgpdpjagaoaaGreatI1
import Derived.Test.YtcbmgpdpjagaoaaGreatI2
namespace Go.Proofs.YtcbmgpdpjagaoaaGreat
open Go.RowKit
open Classical in
noncomputable def ltB (a b : En) : Bool := decide (enLt a b)
theorem ltB_iff (a b : En) : ltB a b = true ↔ enLt a b := by unfold ltB; simp
theorem ltB_t {a b : En} (h : enLt a b) : ltB a b = true := (ltB_iff a b).2 h
theorem ltB_f {a b : En} (h : ¬ enLt a b) : ltB a b = false := by unfold ltB; simpa using h
set_option maxRecDepth 20000 in
set_option maxHeartbeats 1000000 in
theorem sLess (k : ByteArray) (q : Int) (g : Bool) (t : ByteArray) (k' : ByteArray) (q' : Int) (g' : Bool) (t' : ByteArray) (w : World) :
 Calls Tryz.prog 41 #[.agg #[.string k, .int .i64 q, .bool g, .string t], .agg #[.string k', .int .i64 q', .bool g', .string t']] w fun e w' => e = .returned (.bool (ltB ⟨k, q, g, t⟩ ⟨k', q', g', t'⟩)) ∧ Below w.heap.size w w' := by
 obtain ⟨W2, hW2⟩ : ∃ W, W = (w.alloc (.cells #[.string k, .int .i64 q, .bool g, .string t] 46)).alloc (.cells #[.string k', .int .i64 q', .bool g', .string t'] 46) := ⟨_, rfl⟩; have R1 : RA W2 w.heap.size 46 #[.string k, .int .i64 q, .bool g, .string t] := by rw [hW2]; exact (RA.new _ _ _).alloc _
 have R2 : RA W2 (w.heap.size + 1) 46 #[.string k', .int .i64 q', .bool g', .string t'] := by rw [hW2]; exact RA.next _ _ _ (by rw [size_al])
 have B2 : Hid (Below w.heap.size w W2) := by rw [hW2]; exact balEn (balEn (Below.refl _ _) _) _
 have x0 := R1.cell 0; have x1 := R1.cell 1; have y0 := R2.cell 0; have y1 := R2.cell 1; clear R1 R2; have HW2 := hid hW2; clear hW2
 cases h1 : Op.bytesLess k.toList k'.toList with
 | true =>
  have E : Hid (ltB ⟨k, q, g, t⟩ ⟨k', q', g', t'⟩ = true) := ltB_t (.inl h1)
  go_enter Tryz.func41, Tryz.ntmps41
  go_upto_region 1 with fail
  rw [← HW2.out]
  go_wp2
  go_ret
  exact ⟨by rw [E.out]; rfl, B2.out⟩
 | false =>
  by_cases h2 : k = k'
  · have d2 : (k.toList == k'.toList) = true := by rw [kEq]; simpa using h2
    by_cases h3 : q' < q
    · have E : Hid (ltB ⟨k, q, g, t⟩ ⟨k', q', g', t'⟩ = true) := ltB_t (.inr ⟨h2, h3⟩)
      subst h2
      go_enter Tryz.func41, Tryz.ntmps41
      go_upto_region 1 with fail
      rw [← HW2.out]
      go_wp2
      go_ret
      exact ⟨by rw [E.out]; rfl, B2.out⟩
    · have E : Hid (ltB ⟨k, q, g, t⟩ ⟨k', q', g', t'⟩ = false) := ltB_f fun h => h.elim (fun h => by rw [kLt, h1] at h; cases h) fun h => h3 h.2
      subst h2
      go_enter Tryz.func41, Tryz.ntmps41
      go_upto_region 1 with fail
      rw [← HW2.out]
      go_wp2
      go_ret
      exact ⟨by rw [E.out]; rfl, B2.out⟩
  · have d2 : (k.toList == k'.toList) = false := by rw [kEq]; simpa using h2
    have E : Hid (ltB ⟨k, q, g, t⟩ ⟨k', q', g', t'⟩ = false) := ltB_f fun h => h.elim (fun h => by rw [kLt, h1] at h; cases h) fun h => h2 h.1
    go_enter Tryz.func41, Tryz.ntmps41
    go_upto_region 1 with fail
    rw [← HW2.out]
    go_wp2
    go_ret
    exact ⟨by rw [E.out]; rfl, B2.out⟩
theorem ints_dN {k : IntKind} {w : World} {a : Option Addr} {len cap : Nat} {xs : List Int} (h : Ints k w a len cap xs) (x : Nat) : Ints k (w.drewN x) a len cap xs := h.below (below_dN (Below.refl _ _) x)
theorem OwnNums.nx {X w1 : World} {base : Nat} {e : TypeId} {k : IntKind} {v : Value} {xs : List Int} (hb : Below X.heap.size X w1) (h : OwnNums X base e k v xs) : OwnNums w1 base e k v xs :=
 World.ownsRow.kept h (below_grown hb none) (by cases v.ownBlock <;> simp)
end Go.Proofs.YtcbmgpdpjagaoaaGreat
