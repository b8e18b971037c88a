import Derived.Test.YtjakibhanpmkcaaDoorEncCore
namespace Go.Proofs.YtjakibhanpmkcaaDoor
open Go.RowKit
/-- a slice of texts as the row gives it -/
def IsStrs (w : World) (a : Option Addr) (len cap : Nat) (ts : Nat → ByteArray) : Prop :=
  (a = none ∧ len = 0 ∧ cap = 0) ∨ ∃ x : Addr, a = some x ∧ len ≤ cap ∧ cap ≤ maxLen ∧ ∀ i, i < len → w.cell? (x.add i) = some (.string (ts i)) ∧ (ts i).size ≤ maxLen
theorem IsStrs.len {w : World} {a : Option Addr} {len cap : Nat} {ts : Nat → ByteArray} (h : IsStrs w a len cap ts) : len ≤ 9223372036854775807 ∧ ∀ i, i < len → (ts i).size ≤ 9223372036854775807 := by
  rcases h with ⟨_, rfl, _⟩ | ⟨x, _, h1, h2, h3⟩
  · exact ⟨by omega, fun i hi => absurd hi (Nat.not_lt_zero _)⟩
  · unfold maxLen at h2 h3; exact ⟨by omega, fun i hi => by have := (h3 i hi).2; omega⟩
theorem Strs.of_is {w : World} {a : Option Addr} {len cap : Nat} {ts : Nat → ByteArray} (h : IsStrs w a len cap ts) : Strs w a len cap ts := by
  rcases h with ⟨rfl, rfl, rfl⟩ | ⟨x, rfl, h1, h2, hcell⟩
  · exact ⟨Nat.le_refl _, Or.inl rfl⟩
  · refine ⟨h1, ?_⟩
    by_cases h0 : len = 0
    · exact Or.inl h0
    · right
      obtain ⟨b, off, spot⟩ := x
      have hc := (hcell 0 (by omega)).1
      have hspot : spot = none := by simpa [Addr.add] using World.cell?_spot hc
      subst hspot
      have hadd : ∀ i, (⟨b, off, none⟩ : Addr).add i = ⟨b, off + i, none⟩ := by intro i; unfold Addr.add; split <;> simp_all
      refine ⟨b, off, rfl, ?_, fun i hi => ?_⟩
      · have := World.block_lt_of_cell? w _ hc; rw [hadd] at this; exact this
      · have := (hcell i hi).1
        rw [hadd] at this
        exact this
set_option maxRecDepth 20000 in
set_option maxHeartbeats 2000000 in
theorem fnExactEncodeShards_big (k m g : Int) (a : Option Addr) (len cap : Nat) (ts : Nat → ByteArray) (w : World) (h : Strs w a len cap ts) (hl : len ≤ 9223372036854775807) (hz : ∀ i, i < len → (ts i).size ≤ 9223372036854775807) (hsum : ¬ len + sumS ts len ≤ 1048576) :
    Calls Tryd.prog 3 #[.agg #[.int .i64 k, .int .i64 m, .int .i64 g], .slice a len cap] w fun e w' => e = .returned (.bool true) ∧ Below w.heap.size w w' := by
  have HH := hid h
  have HZ := hid hz
  have SZ : Hid (szV len (sumS ts len) = -1) := if_neg hsum
  clear h hz hsum
  go_enter Tryd.func3, Tryd.ntmps3
  go_wp2_with fail
  refine (szStr a len cap ts hl HZ.out _ (HH.out.below (bal9 (Below.refl _ _) _))).mono ?_
  rintro e w1 ⟨rfl, rfl⟩
  rw [SZ.out]
  go_wp2
  go_ret
  exact ⟨rfl, bal9 (Below.refl _ _) _⟩
theorem fnExactEncodeShards_walk {w : World} (hT : Tab w) (k : Int) (_wk : (Lit.int .i64 k).wf = true) (m : Int) (_wm : (Lit.int .i64 m).wf = true) (g : Int) (_wg : (Lit.int .i64 g).wf = true) (a : Option Addr) (len cap : Nat) (ts : Nat → ByteArray) (h : IsStrs w a len cap ts) :
    Calls Tryd.prog 3 #[.agg #[.int .i64 k, .int .i64 m, .int .i64 g], .slice a len cap] w fun e w' => e = .returned (.bool true) ∧ Below w.heap.size w w' := by
  obtain ⟨hl, hz⟩ := h.len
  have hS := Strs.of_is h
  by_cases hsum : len + sumS ts len ≤ 1048576
  · obtain ⟨c, n, f, hn, HS, HI⟩ := both k m g len ts (fun i hi => by have := sumS_at ts hi; omega)
    exact fnExactEncodeShards_core c n f hn k m g a len cap ts w hT hS hz hsum HS HI
  · exact fnExactEncodeShards_big k m g a len cap ts w hS hl hz hsum
end Go.Proofs.YtjakibhanpmkcaaDoor
