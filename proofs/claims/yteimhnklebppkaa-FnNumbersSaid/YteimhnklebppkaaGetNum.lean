import Derived.Test.YteimhnklebppkaaTakeNum
namespace Go.Proofs.Yteimhnklebppkaa
open Go.RowKit
def numV (p : Int) : Option (Nat × Nat) → Value
  | none => .agg #[.bool false, .int .i64 0, .int .i64 0]
  | some (v, n) => .agg #[.bool true, .int .i64 (v : Nat), .int .i64 (p + (n : Nat))]
def textV : Option (ByteArray × Int) → Value
  | none => .agg #[.bool false, .string ByteArray.empty, .int .i64 0]
  | some (t, q) => .agg #[.bool true, .string t, .int .i64 q]
theorem numV_form (p : Int) (r : Option (Nat × Nat)) : ∃ g x y, numV p r = .agg #[.bool g, .int .i64 x, .int .i64 y] := by
  cases r with
  | none => exact ⟨_, _, _, rfl⟩
  | some q => obtain ⟨v, n⟩ := q; exact ⟨_, _, _, rfl⟩
theorem textV_form (r : Option (ByteArray × Int)) : ∃ g x y, textV r = .agg #[.bool g, .string x, .int .i64 y] := by
  cases r with
  | none => exact ⟨_, _, _, rfl⟩
  | some q => obtain ⟨v, n⟩ := q; exact ⟨_, _, _, rfl⟩
theorem CurAt.made (w : World) (s : ByteArray) (p : Int) : CurAt (w.alloc (.cells #[.string s, .int .i64 p] 49)) w.heap.size s p := heap_alloc_new w _

set_option maxRecDepth 20000 in
set_option maxHeartbeats 1000000 in
theorem igetNum_all (s : ByteArray) (p : Int) (hs : s.size ≤ 1048576) (w : World) :
    Calls Try.prog 8 #[.string s, .int .i64 p] w fun e w' => e = .returned (numV p (getNum s p)) ∧ Below w.heap.size w w' := by
  go_enter Try.func8, Try.ntmps8
  go_wp2_with fail
  have hc0 := CurAt.made (w.alloc (.cells #[.bool false, .int .i64 0, .int .i64 0] 27)) s p
  have hB := ((Blk.made w #[.bool false, .int .i64 0, .int .i64 0] 27).past (by simp) (.cells #[.string s, .int .i64 p] 49))
  have hb0 : Below w.heap.size w ((w.alloc (.cells #[.bool false, .int .i64 0, .int .i64 0] 27)).alloc (.cells #[.string s, .int .i64 p] 49)) := ((Below.refl _ _).alloc (Nat.le_refl _) _).alloc (by simp) _
  simp only [World.size_alloc] at hc0
  refine (takeNum_all (w.heap.size + 1) s p _ hc0 hs).mono ?_
  rintro e w1 ⟨hg, h⟩
  have hB1 := hB.far hg (by simp; omega) (by simp)
  have q0 := hB1.cell 0 _ rfl
  have q1 := hB1.cell 1 _ rfl
  have q2 := hB1.cell 2 _ rfl
  have f0 := hB1.free 0
  have f1 := hB1.free 1
  have f2 := hB1.free 2
  have hb1 := hb0.grown hg (by simp; omega) (by intro k hk; cases hk; omega)
  have HB : Hid (Below w.heap.size w w1) := hb1
  clear hb1 hB hB1 hg hc0 hb0
  rcases h with ⟨v, n, hn, rfl, hc1⟩ | ⟨x, hn, rfl⟩
  · have hp := hc1.place
    have HN : Hid (getNum s p = some (v, n)) := hn
    clear hn hc1
    go_wp2
    refine bodyPost_ret (v := .agg #[.bool true, .int .i64 v, .int .i64 (p + n)]) (by simp [results, Try.results8, go_sem, q0, q1, q2]) rfl ⟨by rw [HN.out]; rfl, ?_⟩
    exact ((HB.out.setCell (Nat.le_refl _) _).setCell (Nat.le_refl _) _).setCell (Nat.le_refl _) _
  · have HN : Hid (getNum s p = none) := hn
    clear hn
    go_wp2
    refine bodyPost_ret (v := .agg #[.bool false, .int .i64 0, .int .i64 0]) (by simp [results, Try.results8, go_sem, q0, q1, q2]) rfl ⟨by rw [HN.out]; rfl, ?_⟩
    exact ((HB.out.setCell (Nat.le_refl _) _).setCell (Nat.le_refl _) _).setCell (Nat.le_refl _) _
end Go.Proofs.Yteimhnklebppkaa
