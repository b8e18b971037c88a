import Derived.Test.YthdmaamocejodaaLawRng
import Derived.Test.YthdmaamocejodaaTurnKit
namespace Go.Proofs.Ythdmaamocejodaa
open Go.RowKit
/-! Answers with ranges of shards: what the laws ask of them. -/
abbrev rrv (k : Int) (a : Option Addr) (n c : Nat) : Value := .agg #[.int .i64 k, .slice a n c]
/-- ranges that lie in blocks below hi -/
def RngsB (w : World) (hi : Nat) (a : Option Addr) (n c : Nat) (f : Nat → Int) : Prop := n ≤ c ∧ (n = 0 ∨ ∃ b, a = some ⟨b, 0, none⟩ ∧ b < hi ∧ b < w.heap.size ∧ ∀ p, p < 4 * n → w.cell? ⟨b, p, none⟩ = some (.int .i64 (f p)))
theorem RngsB.of {w : World} {a : Option Addr} {n c : Nat} {f : Nat → Int} (h : Rngs w a n c f) : RngsB w w.heap.size a n c f := by
  refine ⟨h.1, ?_⟩
  rcases h.2 with h0 | ⟨b, he, h1, h2⟩
  · exact Or.inl h0
  · exact Or.inr ⟨b, he, h1, h1, h2⟩
theorem RngsB.rngs {w : World} {hi n c : Nat} {a : Option Addr} {f : Nat → Int} (h : RngsB w hi a n c f) : Rngs w a n c f := by
  refine ⟨h.1, ?_⟩
  rcases h.2 with h0 | ⟨b, he, h1, h2, h3⟩
  · exact Or.inl h0
  · exact Or.inr ⟨b, he, h2, h3⟩
theorem RngsB.blocks {w w' : World} {hi n c : Nat} {a : Option Addr} {f : Nat → Int} (h : RngsB w hi a n c f) (hs : w.heap.size ≤ w'.heap.size) (hb : ∀ b, b < hi → b < w.heap.size → w'.heap[b]? = w.heap[b]?) : RngsB w' hi a n c f := by
  refine ⟨h.1, ?_⟩
  rcases h.2 with h0 | ⟨b, he, h1, h2, h3⟩
  · exact Or.inl h0
  · refine Or.inr ⟨b, he, h1, by omega, fun i hi => ?_⟩
    rw [← h3 i hi]
    simp only [World.cell?, hb b h1 h2]
theorem RngsB.below {w w' : World} {hi n c m : Nat} {a : Option Addr} {f : Nat → Int} (h : RngsB w hi a n c f) (hb : Below m w w') (hm : hi ≤ m) : RngsB w' hi a n c f := h.blocks hb.size fun b h1 _ => hb.block b (by omega)
theorem RngsB.alloc {w : World} {hi n c : Nat} {a : Option Addr} {f : Nat → Int} (h : RngsB w hi a n c f) (o : Obj) : RngsB (w.alloc o) hi a n c f := h.blocks (by rw [size_al]; omega) fun b _ h2 => ((Below.refl w.heap.size w).alloc (Nat.le_refl _) o).block b h2
theorem RngsB.drew {w : World} {hi n c : Nat} {a : Option Addr} {f : Nat → Int} (h : RngsB w hi a n c f) : RngsB w.drew hi a n c f := h
theorem RngsB.turned {w w' : World} {hi l2 h2 n c : Nat} {a : Option Addr} {f : Nat → Int} (h : RngsB w hi a n c f) (hg : Turned l2 h2 w w') (hn : hi ≤ l2) : RngsB w' hi a n c f := h.blocks hg.size fun b h1 h2 => hg.block b h2 (by omega)
/-- an answer's own ranges, in a block from lo up to hi -/
def OwnR (w : World) (lo hi : Nat) (a : Option Addr) (n c : Nat) (f : Nat → Int) : Prop :=
  n ≤ c ∧ (n = 0 ∨ ∃ b N g, a = some ⟨b, 0, none⟩ ∧ lo ≤ b ∧ b < hi ∧ 4 * n ≤ N ∧ FRow w b 40 N g ∧ ∀ p, p < 4 * n → g p = .int .i64 (f p))
theorem OwnR.rngs {w : World} {lo hi n c : Nat} {a : Option Addr} {f : Nat → Int} (h : OwnR w lo hi a n c f) : Rngs w a n c f := by
  refine ⟨h.1, ?_⟩
  rcases h.2 with h0 | ⟨b, N, g, he, h1, h2, h3, h4, h5⟩
  · exact Or.inl h0
  · exact Or.inr ⟨b, he, h4.lt, fun p hp => by rw [h4.cell (show p < N by omega), h5 p hp]⟩
theorem FRow.turned5 {w w' : World} {b lo hi n : Nat} {t : TypeId} {f : Nat → Value} (h : FRow w b t n f) (hg : Turned lo hi w w') (hn : b < lo ∨ hi ≤ b) : FRow w' b t n f := by
  obtain ⟨cs, h1, h2, h3⟩ := h; exact ⟨cs, h1.turned hg hn, h2, h3⟩
theorem OwnR.map {w w' : World} {lo hi n c : Nat} {a : Option Addr} {f : Nat → Int} (h : OwnR w lo hi a n c f) (hm : ∀ b N g, lo ≤ b → b < hi → FRow w b 40 N g → FRow w' b 40 N g) : OwnR w' lo hi a n c f := by
  refine ⟨h.1, ?_⟩
  rcases h.2 with h0 | ⟨b, N, g, he, h1, h2, h3, h4, h5⟩
  · exact Or.inl h0
  · exact Or.inr ⟨b, N, g, he, h1, h2, h3, hm b N g h1 h2 h4, h5⟩
theorem OwnR.below {w w' : World} {lo hi n c m : Nat} {a : Option Addr} {f : Nat → Int} (h : OwnR w lo hi a n c f) (hb : Below m w w') (hm : hi ≤ m) : OwnR w' lo hi a n c f := h.map fun _ _ _ _ h2 h4 => h4.below hb (by omega)
theorem OwnR.alloc {w : World} {lo hi n c : Nat} {a : Option Addr} {f : Nat → Int} (h : OwnR w lo hi a n c f) (o : Obj) : OwnR (w.alloc o) lo hi a n c f := h.map fun _ _ _ _ _ h4 => h4.alloc o
theorem OwnR.drew {w : World} {lo hi n c : Nat} {a : Option Addr} {f : Nat → Int} (h : OwnR w lo hi a n c f) : OwnR w.drew lo hi a n c f := h
theorem OwnR.turned {w w' : World} {lo hi l2 h2 n c : Nat} {a : Option Addr} {f : Nat → Int} (h : OwnR w lo hi a n c f) (hg : Turned l2 h2 w w') (hn : hi ≤ l2 ∨ h2 ≤ lo) : OwnR w' lo hi a n c f := h.map fun _ _ _ q1 q2 h4 => h4.turned5 hg (by omega)
/-- the program's answer, and the specification's -/
def AnsRI (k : Int) (n : Nat) (f : Nat → Int) (w : World) (e : Ending) (w' : World) : Prop := ∃ a c, e = .returned (rrv k a n c) ∧ OwnR w' w.heap.size w'.heap.size a n c f ∧ Below w.heap.size w w'
def AnsRS (k : Int) (n : Nat) (f : Nat → Int) (w : World) (e : Ending) (w' : World) : Prop := ∃ a c, e = .returned (rrv k a n c) ∧ RngsB w' w'.heap.size a n c f ∧ Below w.heap.size w w'
set_option maxRecDepth 20000 in
set_option maxHeartbeats 2000000 in
theorem eqRR (k : Int) (a : Option Addr) (n c : Nat) (a' : Option Addr) (c' : Nat) (f : Nat → Int) (hl : n ≤ 1048576) (w : World) (h : Rngs w a n c f) (h' : Rngs w a' n c' f) :
    Calls Try.prog 10 #[rrv k a n c, rrv k a' n c'] w fun e w' => e = .returned (.bool true) ∧ Below w.heap.size w w' := by
  have B2 : Hid (Below w.heap.size w ((w.alloc (.cells #[.int .i64 k, .slice a n c] 30)).alloc (.cells #[.int .i64 k, .slice a' n c'] 30))) := bal5 (bal5 (Below.refl _ _) _) _
  have dk : (k != k) = false := by simp
  go_enter Try.func10, Try.ntmps10
  go_wp2_with fail
  refine (eqRgs a n c a' c' f f hl (fun _ _ => rfl) _ (h.below B2.out) (h'.below B2.out)).mono ?_
  rintro e w1 ⟨rfl, hb⟩
  have B3 : Hid (Below w.heap.size w w1) := B2.out.trans (hb.mono B2.out.size)
  clear h h' hb
  go_wp2
  go_ret
  exact ⟨rfl, B3.out⟩
set_option maxRecDepth 20000 in
set_option maxHeartbeats 2000000 in
theorem heldRR (k : Int) (a : Option Addr) (n c : Nat) (M : Nat) (hM : M = 1 + 4 * n) (hl : n ≤ 1048576) (w : World) (h : Rngs w a n c (fun p => ((1 + p : Nat) : Int))) :
    Calls Try.prog 12 #[rrv k a n c, .int .i64 1] w fun e w' => e = .returned (.int .i64 (M : Nat)) ∧ Below w.heap.size w w' := by
  have B1 : Hid (Below w.heap.size w (w.alloc (.cells #[.int .i64 k, .slice a n c] 30))) := bal5 (Below.refl _ _) _
  go_enter Try.func12, Try.ntmps12
  go_wp2_with fail
  refine (heldRgs a n c 1 hl (by decide) _ (h.below B1.out)).mono ?_
  rintro e w1 ⟨rfl, rfl⟩
  rw [← hM]
  have dM : decide ((M : Int) < 0) = false := by simp
  clear h hM
  go_wp2
  go_ret
  exact ⟨rfl, B1.out⟩
set_option maxRecDepth 20000 in
set_option maxHeartbeats 2000000 in
theorem markRR0 (k : Int) (a : Option Addr) (cap : Nat) (w : World) :
    Calls Try.prog 11 #[rrv k a 0 cap, .int .i64 1] w fun e w' => e = .returned (.int .i64 1) ∧ Below w.heap.size w w' := by
  go_enter Try.func11, Try.ntmps11
  go_wp2_with fail
  refine (markRgs0 a cap 1 _).mono ?_
  rintro e w1 ⟨rfl, rfl⟩
  go_wp2
  go_ret
  exact ⟨rfl, bal5 (Below.refl _ _) _⟩
set_option maxRecDepth 20000 in
set_option maxHeartbeats 2000000 in
theorem markRR1 (k : Int) (b n c : Nat) (t : TypeId) (N : Nat) (hN : 4 * n ≤ N) (f : Nat → Value) (M : Nat) (hM : M = 1 + 4 * n) (hl : n ≤ 1048576) (w : World) (h : FRow w b t N f) :
    Calls Try.prog 11 #[rrv k (some ⟨b, 0, none⟩) n c, .int .i64 1] w fun e w' => e = .returned (.int .i64 (M : Nat)) ∧ FRow w' b t N (mkF 1 (4 * n) f) ∧ w.grownBy w' (some b) := by
  go_enter Try.func11, Try.ntmps11
  go_wp2_with fail
  refine (markRgs b n c 1 t N hN f hl (by decide) _ (h.alloc _)).mono ?_
  rintro e w1 ⟨rfl, hF, hg⟩
  have F2 := hid hF
  have G2 := hid (grown_trans (World.grownBy_alloc w (.cells #[.int .i64 k, .slice (some ⟨b, 0, none⟩) n c] 30) (some b)) hg)
  rw [← hM]
  clear hF hg h hM
  go_wp2
  go_ret
  exact ⟨rfl, F2.out, G2.out⟩
theorem markRR (k : Int) (lo hi : Nat) (a : Option Addr) (n c : Nat) (f : Nat → Int) (M : Nat) (hM : M = 1 + 4 * n) (hl : n ≤ 1048576) (w : World) (h : OwnR w lo hi a n c f) :
    Calls Try.prog 11 #[rrv k a n c, .int .i64 1] w fun e w' => e = .returned (.int .i64 (M : Nat)) ∧ OwnR w' lo hi a n c (fun p => ((1 + p : Nat) : Int)) ∧ Turned lo hi w w' := by
  rcases h.2 with h0 | ⟨b, N, g, rfl, h1, h2, h3, h4, h5⟩
  · subst h0; subst hM
    refine (markRR0 k a c w).mono ?_
    rintro e w' ⟨rfl, hb⟩
    exact ⟨rfl, ⟨h.1, Or.inl rfl⟩, Turned.of_below hb⟩
  · refine (markRR1 k b n c _ N h3 g M hM hl w h4).mono ?_
    rintro e w' ⟨rfl, hr, hg⟩
    exact ⟨rfl, ⟨h.1, Or.inr ⟨b, N, _, rfl, h1, h2, h3, hr, fun p hp => if_pos hp⟩⟩, Turned.of_grown hg h1 h2⟩
end Go.Proofs.Ythdmaamocejodaa
