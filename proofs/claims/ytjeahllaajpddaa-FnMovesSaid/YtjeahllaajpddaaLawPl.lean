import Derived.Test.YtjeahllaajpddaaAnsKit
import Derived.Test.YtjeahllaajpddaaSPlace2
namespace Go.Proofs.Ytjeahllaajpddaa
open Go.RowKit
/-! The laws' own functions on places. -/
theorem own_form {w : World} {base : Nat} {e : TypeId} {size : Nat} {a : Option Addr} {m n c : Nat} {xs : List Value} (h : w.ownsRow base e size (.slice a m c) n xs) :
    (n = 0 ∧ a = none ∧ c = 0) ∨ ∃ g cur, a = some ⟨g, 0, none⟩ ∧ base ≤ g ∧ w.heap[g]? = some (.cells cur e (0, 0)) ∧ n ≤ c ∧ cur.size = c * size ∧ cur.toList.take (n * size) = xs := by
  rcases h.2 with ⟨h', h0⟩ | ⟨g, cap, cur, h', hb, hg, hnc, hcm, hcs, ht⟩
  · simp only [Value.slice.injEq] at h'
    exact .inl ⟨h0, h'.1, h'.2.2⟩
  · simp only [Value.slice.injEq] at h'
    obtain ⟨rfl, _, rfl⟩ := h'
    exact .inr ⟨g, cur, rfl, hb, hg, hnc, hcs, ht⟩
theorem Ow.of_nums {w : World} {base : Nat} {e : TypeId} {a : Option Addr} {n c : Nat} {xs : List Int} (h : OwnNums w base e .i64 (.slice a n c) xs) : Ow w base a xs.length c xs := by
  rcases own_form h with ⟨h0, rfl, rfl⟩ | ⟨g, cur, rfl, hb, hg, hnc, hcs, htake⟩
  · exact ⟨rfl, by omega, .inl h0⟩
  · refine ⟨rfl, hnc, .inr ⟨g, 0, rfl, hb, cur, e, hg, by omega, fun i hi => ?_⟩⟩
    rw [Nat.zero_add]
    have : (cur.toList.take (xs.length * 1))[i]? = some (.int .i64 (xs.getD i 0)) := by
      rw [htake, List.getElem?_map, List.getElem?_eq_getElem hi]
      simp [hi]
    rw [List.getElem?_take, if_pos (by omega), Array.getElem?_toList] at this
    exact this
/-- an answer: places -/
def AnsPl (C : Int) (xs : List Int) (w : World) (e : Ending) (w' : World) : Prop := ∃ a c, e = .returned (plv C a xs.length c) ∧ Ow w' w.heap.size a xs.length c xs ∧ Below w.heap.size w w'
theorem turned_al {lo hi : Nat} {w w' : World} {o : Obj} (h : Turned lo hi (w.alloc o) w') : Turned lo hi w w' := by
  have b : Below w.heap.size w (w.alloc o) := (Below.refl _ w).alloc (Nat.le_refl _) _
  exact ⟨h.os.trans b.os, h.tape.trans b.tape, h.output.trans b.output, Nat.le_trans b.size h.size, fun k hk hn => (h.block k (Nat.lt_of_lt_of_le hk b.size) hn).trans (b.block k hk)⟩
end Go.Proofs.Ytjeahllaajpddaa
