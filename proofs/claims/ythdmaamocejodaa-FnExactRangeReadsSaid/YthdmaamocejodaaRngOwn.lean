import Derived.Test.YthdmaamocejodaaSRng2
import Derived.Test.YthdmaamocejodaaLawRng2
namespace Go.Proofs.Ythdmaamocejodaa
open Go.RowKit
/-! A row of ranges that a call has appended to is an answer's own. -/
theorem OwnRg.own {w : World} {base : Nat} {a : Option Addr} {cp : Nat} {v : Value} {K u f t n : Nat} (h : OwnRg w base v n (rgL K u f t n)) (hv : v = .slice a n cp) : OwnR w base w.heap.size a n cp (fun p => ((rgC K u f t p : Nat) : Int)) := by
  rcases h.2 with ⟨h0, h1⟩ | ⟨g, cap, cur, he, hb, hr, hnc, hm, hsz, htk⟩
  · rw [hv] at h0; cases h0; exact ⟨Nat.le_refl _, Or.inl rfl⟩
  · rw [hv] at he; cases he
    have R : RowAt w g 40 cur := hr
    refine ⟨hnc, Or.inr ⟨g, cur.size, fun p => cur[p]?.getD undef, rfl, hb, R.lt, by rw [hsz]; omega, ⟨cur, R, rfl, fun p hp => by simp [Array.getElem?_eq_getElem hp]⟩, fun p hp => ?_⟩⟩
    have := congrArg (·[p]?) htk
    simp only [List.getElem?_take] at this
    rw [if_pos (by omega), rgL, List.getElem?_map, List.getElem?_range hp] at this
    have h9 : cur[p]? = some (.int .i64 ((rgC K u f t p : Nat) : Int)) := by simpa using this
    simp [h9]
theorem OwnR.setRow {w : World} {lo hi n c : Nat} {a : Option Addr} {f : Nat → Int} (h : OwnR w lo hi a n c f) (g : Nat) (cs : Array Value) (hg : g < lo ∨ hi ≤ g) : OwnR (w.setRow g cs) lo hi a n c f := h.map fun b N q h1 h2 h4 => by
  obtain ⟨x, r, e1, e2⟩ := h4
  exact ⟨x, (setRow_other w g b cs (by omega)).trans r, e1, e2⟩
theorem OwnR.mono {w : World} {lo hi lo' hi' n c : Nat} {a : Option Addr} {f : Nat → Int} (h : OwnR w lo hi a n c f) (h1 : lo' ≤ lo) (h2 : hi ≤ hi') : OwnR w lo' hi' a n c f := by
  refine ⟨h.1, ?_⟩
  rcases h.2 with h0 | ⟨b, N, g, he, q1, q2, r⟩
  · exact Or.inl h0
  · exact Or.inr ⟨b, N, g, he, by omega, by omega, r⟩
end Go.Proofs.Ythdmaamocejodaa
