import Derived.Test.YteimhnklebppkaaTakeText
namespace Go.Proofs.Yteimhnklebppkaa
open Go.RowKit
theorem keep_new {X : World} {c : Array Value} {t : TypeId} {n i : Nat} {v : Value} (hn : n = X.heap.size) (hv : c[i]? = some v) : (X.alloc (.cells c t)).drew.cell? ⟨n, i, none⟩ = some v := by
  show (X.alloc (.cells c t)).cell? ⟨n, i, none⟩ = some v
  rw [World.cell?_alloc_at _ _ _ _ hn]; exact hv

set_option maxRecDepth 20000 in
set_option maxHeartbeats 1000000 in
theorem igetText_all (s : ByteArray) (p : Int) (hs : s.size ≤ 1048576) (w : World) :
    Calls Try.prog 10 #[.string s, .int .i64 p] w fun e w' => e = .returned (textV (getText s p)) ∧ Below w.heap.size w w' := by
  go_enter Try.func10, Try.ntmps10
  go_wp2_with fail
  have hc0 := CurAt.made (w.alloc (.cells #[.bool false, .string ⟨#[]⟩, .int .i64 0] 31)) s p
  have hB := ((Blk.made w #[.bool false, .string ⟨#[]⟩, .int .i64 0] 31).past (by simp) (.cells #[.string s, .int .i64 p] 49))
  have hb0 : Below w.heap.size w ((w.alloc (.cells #[.bool false, .string ⟨#[]⟩, .int .i64 0] 31)).alloc (.cells #[.string s, .int .i64 p] 49)) := ((Below.refl _ _).alloc (Nat.le_refl _) _).alloc (by simp) _
  simp only [World.size_alloc] at hc0
  refine (takeText_all (w.heap.size + 1) s p _ hc0 hs).mono ?_
  rintro e w1 ⟨hg, h⟩
  have hB1 := hB.far hg (by simp; omega) (by simp)
  have q0 := hB1.cell 0 _ rfl
  have q1 := hB1.cell 1 _ rfl
  have q2 := hB1.cell 2 _ rfl
  have f0 := hB1.free 0
  have f1 := hB1.free 1
  have f2 := hB1.free 2
  have hb1 := hb0.grown hg (by simp; omega) (by intro k hk; cases hk; omega)
  have HB : Hid (Below w.heap.size w w1) := hb1
  clear hb1 hB hB1 hg hc0 hb0
  rcases h with ⟨t, q, hn, rfl, hc1⟩ | ⟨hn, rfl⟩
  · have hp := hc1.place
    have HN := hid hn
    clear hn hc1
    go_wp2
    refine bodyPost_ret (v := .agg #[.bool true, .string t, .int .i64 q]) (by simp [results, Try.results10, go_sem, q0, q1, q2]) rfl ⟨by rw [HN.out]; rfl, ?_⟩
    exact ((HB.out.setCell (Nat.le_refl _) _).setCell (Nat.le_refl _) _).setCell (Nat.le_refl _) _
  · have HN := hid hn
    clear hn
    go_wp2
    refine bodyPost_ret (v := .agg #[.bool false, .string ⟨#[]⟩, .int .i64 0]) (by simp [results, Try.results10, go_sem, q0, q1, q2]) rfl ⟨by rw [HN.out]; rfl, ?_⟩
    exact ((HB.out.setCell (Nat.le_refl _) _).setCell (Nat.le_refl _) _).setCell (Nat.le_refl _) _

end Go.Proofs.Yteimhnklebppkaa
