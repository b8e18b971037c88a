import Derived.Test.YteimhnklebppkahTakeNum
namespace Go.Proofs.Yteimhnklebppkah
open Go.RowKit
def numV (p : Int) : Option (Nat × Nat) → Value
  | none => .agg #[.bool false, .int .i64 0, .int .i64 0]
  | some (v, n) => .agg #[.bool true, .int .i64 (v : Nat), .int .i64 (p + (n : Nat))]
def textV : Option (ByteArray × Int) → Value
  | none => .agg #[.bool false, .string ByteArray.empty, .int .i64 0]
  | some (t, q) => .agg #[.bool true, .string t, .int .i64 q]
theorem CurAt.made (w : World) (s : ByteArray) (p : Int) : CurAt (w.alloc (.cells #[.string s, .int .i64 p] 38)) w.heap.size s p := heap_alloc_new w _

/-- A block of cells, none of them frozen. -/
def Blk (w : World) (b : Nat) (cs : Array Value) (t : TypeId) : Prop := w.heap[b]? = some (.cells cs t (0, 0))
theorem Blk.made (w : World) (cs : Array Value) (t : TypeId) : Blk (w.alloc (.cells cs t)) w.heap.size cs t := heap_alloc_new w _
theorem Blk.past {w : World} {b : Nat} {cs : Array Value} {t : TypeId} (h : Blk w b cs t) (hb : b < w.heap.size) (o : Obj) : Blk (w.alloc o) b cs t := (Below.heap_alloc w o b hb).trans h
theorem Blk.far {w w' : World} {b : Nat} {cs : Array Value} {t : TypeId} {r : Option Nat} (h : Blk w b cs t) (hg : w.grownBy w' r) (hb : b < w.heap.size) (hne : some b ≠ r) : Blk w' b cs t := (hg.block b hb hne).trans h
theorem Blk.cell {w : World} {b : Nat} {cs : Array Value} {t : TypeId} (h : Blk w b cs t) (o : Nat) (v : Value) (hv : cs[o]? = some v) : w.cell? ⟨b, o, none⟩ = some v := by rw [cell_of_row w b o cs t _ h]; exact hv
theorem Blk.free {w : World} {b : Nat} {cs : Array Value} {t : TypeId} (h : Blk w b cs t) (o : Nat) : w.frozen? ⟨b, o, none⟩ = false := by
  have h' : w.heap[b]? = some (.cells cs t (0, 0)) := h
  simp [World.frozen?, h']

set_option maxRecDepth 20000 in
set_option maxHeartbeats 1000000 in
theorem igetNum_all (s : ByteArray) (p : Int) (hs : s.size ≤ 1048576) (w : World) :
    Calls Try.prog 10 #[.string s, .int .i64 p] w fun e w' => e = .returned (numV p (getNum s p)) ∧ Below w.heap.size w w' := by
  go_enter Try.func10, Try.ntmps10
  go_wp2_with fail
  have hc0 := CurAt.made (w.alloc (.cells #[.bool false, .int .i64 0, .int .i64 0] 23)) s p
  have hB := ((Blk.made w #[.bool false, .int .i64 0, .int .i64 0] 23).past (by simp) (.cells #[.string s, .int .i64 p] 38))
  have hb0 : Below w.heap.size w ((w.alloc (.cells #[.bool false, .int .i64 0, .int .i64 0] 23)).alloc (.cells #[.string s, .int .i64 p] 38)) := ((Below.refl _ _).alloc (Nat.le_refl _) _).alloc (by simp) _
  simp only [World.size_alloc] at hc0
  refine (takeNum_all (w.heap.size + 1) s p _ hc0 hs).mono ?_
  rintro e w1 ⟨hg, h⟩
  have hB1 := hB.far hg (by simp; omega) (by simp)
  have q0 := hB1.cell 0 _ rfl
  have q1 := hB1.cell 1 _ rfl
  have q2 := hB1.cell 2 _ rfl
  have f0 := hB1.free 0
  have f1 := hB1.free 1
  have f2 := hB1.free 2
  have hb1 := hb0.grown hg (by simp; omega) (by intro k hk; cases hk; omega)
  have HB : Hid (Below w.heap.size w w1) := hb1
  clear hb1 hB hB1 hg hc0 hb0
  rcases h with ⟨v, n, hn, rfl, hc1⟩ | ⟨x, hn, rfl⟩
  · have hp := hc1.place
    have HN : Hid (getNum s p = some (v, n)) := hn
    clear hn hc1
    go_wp2
    refine bodyPost_ret (v := .agg #[.bool true, .int .i64 v, .int .i64 (p + n)]) (by simp [results, Try.results10, go_sem, q0, q1, q2]) rfl ⟨by rw [HN.out]; rfl, ?_⟩
    exact ((HB.out.setCell (Nat.le_refl _) _).setCell (Nat.le_refl _) _).setCell (Nat.le_refl _) _
  · have HN : Hid (getNum s p = none) := hn
    clear hn
    go_wp2
    refine bodyPost_ret (v := .agg #[.bool false, .int .i64 0, .int .i64 0]) (by simp [results, Try.results10, go_sem, q0, q1, q2]) rfl ⟨by rw [HN.out]; rfl, ?_⟩
    exact ((HB.out.setCell (Nat.le_refl _) _).setCell (Nat.le_refl _) _).setCell (Nat.le_refl _) _
end Go.Proofs.Yteimhnklebppkah
