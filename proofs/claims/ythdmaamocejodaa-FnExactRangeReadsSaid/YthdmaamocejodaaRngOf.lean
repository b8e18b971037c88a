import Derived.Test.YthdmaamocejodaaRngCore
import Derived.Test.YthdmaamocejodaaSRng2
namespace Go.Proofs.Ythdmaamocejodaa
open Go.RowKit
/-! FnExactRangeReads out of the program's own contract. -/
theorem lit_i64 {x : Int} (h : (Lit.int .i64 x).wf = true) : x ≤ 9223372036854775807 := by
  have h9 : IntKind.i64.min ≤ x ∧ x ≤ 9223372036854775807 := by simpa [Lit.wf] using h
  exact h9.2
theorem fnExactRangeReads_of
    (HN : ∀ (k m g u s f c : Int) (w : World), (stripeN k m g u s = -1 ∨ f < 0 ∨ c < 0) → Calls Try.prog 9 #[cdv k m g, .int .i64 u, .int .i64 s, .int .i64 f, .int .i64 c] w fun e w' => AnsRI 1 0 (fun _ => 0) w e w')
    (HY : ∀ (K M G U S f c f1 c1 : Nat) (w : World), 1 ≤ K → K ≤ 32 → M ≤ 16 → G ≤ K → K + M + G ≤ 64 → 1 ≤ U → U ≤ 4096 → S ≤ 100000 → f ≤ 9223372036854775807 → c ≤ 9223372036854775807 → stripeN K M G U S ≠ -1 → f1 = min f S → c1 = min c (S - f1) →
      Calls Try.prog 9 #[cdv K M G, .int .i64 U, .int .i64 S, .int .i64 f, .int .i64 c] w fun e w' => AnsRI 0 (rgN U f1 (f1 + c1)) (fun p => ((rgC K U f1 (f1 + c1) p : Nat) : Int)) w e w')
    (k m g u s f c : Int) (hf : f ≤ 9223372036854775807) (hc : c ≤ 9223372036854775807) (w : World) :
    Calls Try.prog 4 #[.agg #[.int .i64 k, .int .i64 m, .int .i64 g], .int .i64 u, .int .i64 s, .int .i64 f, .int .i64 c] w fun e w' => e = .returned (.bool true) ∧ Below w.heap.size w w' := by
  by_cases hno : stripeN k m g u s = -1 ∨ f < 0 ∨ c < 0
  · refine fnExactRangeReads_core 1 0 (fun _ => 0) (by decide) k m g u s f c w (fun w => ?_) (fun w => HN k m g u s f c w hno)
    refine (srng_no k m g u s f c hno w).mono ?_
    rintro e w' ⟨rfl, hb⟩
    exact ⟨none, 0, rfl, ⟨Nat.le_refl _, Or.inl rfl⟩, hb⟩
  · obtain ⟨K, M, G, U, S, rfl, rfl, rfl, rfl, rfl, h1, h2, h3, h4, h5, h6, h7, h8, h9, _⟩ := stripe_ok (fun e => hno (Or.inl e))
    obtain ⟨f, rfl⟩ := Int.eq_ofNat_of_zero_le (show 0 ≤ f by omega)
    obtain ⟨c, rfl⟩ := Int.eq_ofNat_of_zero_le (show 0 ≤ c by omega)
    have hn : stripeN K M G U S ≠ -1 := fun e => hno (Or.inl e)
    have hb : rgN U (min f S) (min f S + min c (S - min f S)) ≤ 1048576 := Nat.le_trans (rgN_le (by omega)) (by decide)
    refine fnExactRangeReads_core 0 _ _ hb K M G U S f c w (fun w => ?_) (fun w => HY K M G U S f c (min f S) (min c (S - min f S)) w h1 h2 h3 h4 h5 h6 h7 h8 (by omega) (by omega) hn rfl rfl)
    refine (srng_ok K M G U S f c (min f S) (min c (S - min f S)) h1 h2 h3 h4 h5 h6 h7 h8 hn rfl rfl w).mono ?_
    rintro e w' ⟨a, cp, rfl, hR, hb⟩
    exact ⟨a, cp, rfl, RngsB.of hR, hb⟩
end Go.Proofs.Ythdmaamocejodaa
