import Derived.Test.YtmhkelfmciepaaaGrS9
namespace Go.Proofs.Ytmhkelfmciepaaa
open Go.RowKit
set_option linter.unusedVariables false
/-! The specification's RunGroup. -/
theorem Try.infoMb : (Try.prog.info? 36).map (fun i => (i.zero, i.size, i.bytes)) = some (some (.agg #[.int .i64 0, .int .i64 0, .bool false, .int .i64 0, .slice none 0 0, .slice none 0 0]), 6, 80) := by kernel_rfl
theorem mkMb (w : World) (n : Nat) (hn : n ≤ 1048576) : (Instr.makeSlice 29 (.int .i64 n) (.int .i64 n)).run Try.prog w = .ok (.slice (some ⟨w.heap.size, 0, none⟩) n n) (w.alloc (.cells (madeCells #[.int .i64 0, .int .i64 0, .bool false, .int .i64 0, .slice none 0 0, .slice none 0 0] (n * 6)) 36)) := by
  obtain ⟨i0, hi, hz0, hz1, hz2⟩ := info_parts Try.infoMb
  have := run_make (P := Try.prog) w 29 36 i0 _ Try.underlying29 hi hz0 .i64 .i64 n n (by omega) (Int.le_refl _) (by rw [hz2]; omega) (by omega)
  rw [this, hz1]
  simp only [Int.toNat_natCast, Value.cells]
/-- the cells of members, the first i of which are as they begin -/
def inZ (r : Nat) : Value := if r = 2 then .bool false else if r = 4 then .slice none 0 0 else if r = 5 then .slice none 0 0 else .int .i64 0
def inF (mb : Nat → Nat) (N i p : Nat) : Value := if p / 6 < i then mbF (fun _ => none) (fun _ => 0) mb N (fun _ => mb0 N) p else inZ (p % 6)
theorem inF_0 (mb : Nat → Nat) (N p : Nat) : inF mb N 0 p = inZ (p % 6) := if_neg (by omega)
theorem inF_put (mb : Nat → Nat) (N i X p : Nat) : putF (putF (inF mb N i) (i * 6 + 1) (.int .i64 (-1))) (i * 6 + 5) (.slice (some ⟨X, 0, none⟩) N N) p = inF (fun j => if j = i then X else mb j) N (i + 1) p := by
  unfold putF
  by_cases e : p / 6 = i
  · have q : inF (fun j => if j = i then X else mb j) N (i + 1) p = mbF (fun _ => none) (fun _ => 0) (fun j => if j = i then X else mb j) N (fun _ => mb0 N) p := if_pos (by omega)
    have q2 : inF mb N i p = inZ (p % 6) := if_neg (by omega)
    rw [q, q2]
    obtain ⟨r, hr, rfl⟩ : ∃ r, r < 6 ∧ p = i * 6 + r := ⟨p % 6, by omega, by omega⟩
    rcases (by omega : r = 0 ∨ r = 1 ∨ r = 2 ∨ r = 3 ∨ r = 4 ∨ r = 5) with rfl | rfl | rfl | rfl | rfl | rfl
    · rw [Nat.add_zero, mbF0, if_neg (by omega), if_neg (by omega), show i * 6 % 6 = 0 by omega]; rfl
    · rw [mbF1, if_neg (by omega), if_pos rfl]; rfl
    · rw [mbF2, if_neg (by omega), if_neg (by omega), show (i * 6 + 2) % 6 = 2 by omega]; rfl
    · rw [mbF3, if_neg (by omega), if_neg (by omega), show (i * 6 + 3) % 6 = 3 by omega]; rfl
    · rw [mbF4, if_neg (by omega), if_neg (by omega), show (i * 6 + 4) % 6 = 4 by omega]; rfl
    · rw [mbF5, if_pos rfl, if_pos rfl]
  · rw [if_neg (by omega), if_neg (by omega)]
    unfold inF
    by_cases h : p / 6 < i
    · rw [if_pos h, if_pos (by omega)]
      unfold mbF
      dsimp only
      rw [if_neg e]
    · rw [if_neg h, if_neg (by omega)]
/-- the members as they begin: the first i of them -/
structure InL (w w0 : World) (b N i : Nat) (mb : Nat → Nat) : Prop where
  row : FRow w b 36 (N * 6) (inF mb N i)
  mat : ∀ k, k < i → RowAt w (mb k) 2 (ints .i64 (List.replicate N 0)) ∧ w0.heap.size ≤ mb k
  ne : ∀ j k, j < i → k < i → j ≠ k → mb j ≠ mb k
theorem InL.sp {w w0 : World} {b N : Nat} {mb : Nat → Nat} (h : InL w w0 b N N mb) (hB : w0.heap.size ≤ b) : SpL w w0.heap.size b N (fun _ => mb0 N) (fun _ => none) (fun _ => 0) mb := by
  refine ⟨hB, h.row.congr fun p hp => ?_, fun k hk => ⟨Nat.le_refl _, .inl ⟨rfl, fun _ => rfl⟩⟩, fun k hk => ⟨(h.mat k hk).1, (h.mat k hk).2, List.length_replicate⟩, h.ne⟩
  unfold inF
  rw [if_pos (by omega)]
theorem InL.next {w w0 : World} {b N i : Nat} {mb : Nat → Nat} (h : InL w w0 b N i mb) {X : Nat} (hX : X = w.heap.size) (hw : w0.heap.size ≤ w.heap.size) :
    InL (((w.setCell ⟨b, i * 6 + 1, none⟩ (.int .i64 (-1))).alloc (.cells (ints .i64 (List.replicate N 0)) 2)).setCell ⟨b, i * 6 + 5, none⟩ (.slice (some ⟨X, 0, none⟩) N N)) w0 b N (i + 1) (fun j => if j = i then X else mb j) := by
  have hb := h.row.lt
  have sz : (w.setCell ⟨b, i * 6 + 1, none⟩ (.int .i64 (-1))).heap.size = w.heap.size := by simp [World.setCell]
  have R : RowAt ((w.setCell ⟨b, i * 6 + 1, none⟩ (.int .i64 (-1))).alloc (.cells (ints .i64 (List.replicate N 0)) 2)) X 2 (ints .i64 (List.replicate N 0)) := RowAt.next _ _ _ (by rw [sz]; exact hX)
  obtain ⟨cs, hr, _⟩ := h.row
  have old : ∀ k, k < i → mb k < w.heap.size := fun k hk => (h.mat k hk).1.lt
  refine ⟨(((h.row.set (i * 6 + 1) _).alloc _).set (i * 6 + 5) _).congr fun p _ => inF_put mb N i X p, fun k hk => ?_, fun j k hj hk hjk => ?_⟩
  · by_cases e : k = i
    · rw [if_pos e]
      exact ⟨R.other _ _ (by show X ≠ b; omega), by omega⟩
    · rw [if_neg e]
      have q := h.mat k (by omega)
      have qb := row_apart q.1 hr (by decide)
      exact ⟨((q.1.other _ _ qb).alloc _).other _ _ qb, q.2⟩
  · by_cases e : j = i
    · rw [if_pos e, if_neg (by omega)]
      have := old k (by omega)
      omega
    · rw [if_neg e]
      by_cases e2 : k = i
      · rw [if_pos e2]
        have := old j (by omega)
        omega
      · rw [if_neg e2]
        exact h.ne j k (by omega) (by omega) hjk
end Go.Proofs.Ytmhkelfmciepaaa
