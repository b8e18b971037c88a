import Derived.Test.YtccokbfbkeknnaaTakeText
import Derived.Test.YtccokbfbkeknnaaGetNumWalk
namespace Go.Proofs.Ytccokbfbkeknnaa
open Go.RowKit
theorem keep_new {X : World} {c : Array Value} {t : TypeId} {n i : Nat} {v : Value} (hn : n = X.heap.size) (hv : c[i]? = some v) : (X.alloc (.cells c t)).drew.cell? ⟨n, i, none⟩ = some v := by
  show (X.alloc (.cells c t)).cell? ⟨n, i, none⟩ = some v
  rw [World.cell?_alloc_at _ _ _ _ hn]; exact hv

set_option maxRecDepth 20000 in
set_option maxHeartbeats 1000000 in
theorem igetText_all (s : ByteArray) (p : Int) (hs : s.size ≤ 1048576) (w : World) :
    Calls Try.prog 57 #[.string s, .int .i64 p] w fun e w' => e = .returned (textV (getText s p)) ∧ Below w.heap.size w w' := by
  go_enter Try.func57, Try.ntmps57
  go_wp2_with fail
  have hc0 := CurAt.made (w.alloc (.cells #[.bool false, .string ⟨#[]⟩, .int .i64 0] 66)) s p
  have hB := ((Blk.made w #[.bool false, .string ⟨#[]⟩, .int .i64 0] 66).past (by simp) (.cells #[.string s, .int .i64 p] 77))
  have hb0 : Below w.heap.size w ((w.alloc (.cells #[.bool false, .string ⟨#[]⟩, .int .i64 0] 66)).alloc (.cells #[.string s, .int .i64 p] 77)) := ((Below.refl _ _).alloc (Nat.le_refl _) _).alloc (by simp) _
  simp only [World.size_alloc] at hc0
  refine (takeText_all (w.heap.size + 1) s p _ hc0 hs).mono ?_
  rintro e w1 ⟨hg, h⟩
  have hB1 := hB.far hg (by simp; omega) (by simp)
  have q0 := hB1.cell 0 _ rfl
  have q1 := hB1.cell 1 _ rfl
  have q2 := hB1.cell 2 _ rfl
  have f0 := hB1.free 0
  have f1 := hB1.free 1
  have f2 := hB1.free 2
  have hb1 := hb0.grown hg (by simp; omega) (by intro k hk; cases hk; omega)
  have HB : Hid (Below w.heap.size w w1) := hb1
  clear hb1 hB hB1 hg hc0 hb0
  rcases h with ⟨t, q, hn, rfl, hc1⟩ | ⟨hn, rfl⟩
  · have hp := hc1.place
    have HN := hid hn
    clear hn hc1
    go_wp2
    refine bodyPost_ret (v := .agg #[.bool true, .string t, .int .i64 q]) (by simp [results, Try.results57, go_sem, q0, q1, q2]) rfl ⟨by rw [HN.out]; rfl, ?_⟩
    exact ((HB.out.setCell (Nat.le_refl _) _).setCell (Nat.le_refl _) _).setCell (Nat.le_refl _) _
  · have HN := hid hn
    clear hn
    go_wp2
    refine bodyPost_ret (v := .agg #[.bool false, .string ⟨#[]⟩, .int .i64 0]) (by simp [results, Try.results57, go_sem, q0, q1, q2]) rfl ⟨by rw [HN.out]; rfl, ?_⟩
    exact ((HB.out.setCell (Nat.le_refl _) _).setCell (Nat.le_refl _) _).setCell (Nat.le_refl _) _

set_option maxRecDepth 20000 in
set_option maxHeartbeats 1000000 in
theorem sgetText_all (s : ByteArray) (p : Int) (hs : s.size ≤ 1048576) (w : World) :
    Calls Try.prog 54 #[.string s, .int .i64 p] w fun e w' => e = .returned (textV (getText s p)) ∧ Below w.heap.size w w' := by
  go_enter Try.func54, Try.ntmps54
  go_wp2_with fail
  refine (sgetNum_all s p hs _).mono ?_
  rintro e w1 ⟨rfl, hb1⟩
  have hz : w.heap.size < w1.heap.size := by have := hb1.size; simp at this; omega
  have hB1 : Blk w1 w.heap.size #[.bool false, .string ⟨#[]⟩, .int .i64 0] 66 := (hb1.block _ (by simp)).trans (Blk.made w _ _)
  have q0 := hB1.cell 0 _ rfl
  have q1 := hB1.cell 1 _ rfl
  have q2 := hB1.cell 2 _ rfl
  have f0 := hB1.free 0
  have f1 := hB1.free 1
  have f2 := hB1.free 2
  have HB : Hid (Below w.heap.size w w1) := ((Below.refl _ _).alloc (Nat.le_refl _) _).trans (hb1.mono (by simp))
  clear hb1 hB1
  cases hn : getNum s p with
  | none =>
    have HT : Hid (getText s p = none) := by show _ = _; unfold getText; rw [hn]
    clear hn
    simp only [numV]
    go_wp2
    refine bodyPost_ret (v := .agg #[.bool false, .string ⟨#[]⟩, .int .i64 0]) (by simp [results, Try.results54, go_sem, hz, q0, q1, q2]) rfl ⟨by rw [HT.out]; rfl, ?_⟩
    exact (((HB.out.setCell (Nat.le_refl _) _).setCell (Nat.le_refl _) _).setCell (Nat.le_refl _) _).alloc (by simp; omega) _
  | some vn =>
    obtain ⟨v, n⟩ := vn
    obtain ⟨a, rfl, han, _, _, hv⟩ := getNum_in s p v n hn
    have HT : Hid (getText s a = if 100000 < v ∨ (s.size : Int) - ((a : Int) + n) < v then none else some (s.extract ((a : Int) + n).toNat ((a : Int) + n + v).toNat, (a : Int) + n + v)) := by
      show _ = _; unfold getText; rw [hn]
    clear hn
    simp only [numV]
    by_cases hbig : 100000 < v
    · have d0 : decide (100000 < (v : Int)) = true := by simp; omega
      have HT2 : Hid (getText s a = none) := by show _ = _; rw [HT.out, if_pos (Or.inl hbig)]
      go_wp2
      refine bodyPost_ret (v := .agg #[.bool false, .string ⟨#[]⟩, .int .i64 0]) (by simp [results, Try.results54, go_sem, hz, q0, q1, q2]) rfl ⟨by rw [HT2.out]; rfl, ?_⟩
      exact (((HB.out.setCell (Nat.le_refl _) _).setCell (Nat.le_refl _) _).setCell (Nat.le_refl _) _).alloc (by simp; omega) _
    · have d0 : decide (100000 < (v : Int)) = false := by simp; omega
      by_cases hfit : s.size - (a + n) < v
      · have d1 : decide ((s.size : Int) - ((a : Int) + (n : Int)) < (v : Int)) = true := by simp; omega
        have HT2 : Hid (getText s a = none) := by show _ = _; rw [HT.out, if_pos (Or.inr (by omega))]
        go_wp2
        refine bodyPost_ret (v := .agg #[.bool false, .string ⟨#[]⟩, .int .i64 0]) (by simp [results, Try.results54, go_sem, hz, q0, q1, q2]) rfl ⟨by rw [HT2.out]; rfl, ?_⟩
        exact (((HB.out.setCell (Nat.le_refl _) _).setCell (Nat.le_refl _) _).setCell (Nat.le_refl _) _).alloc (by simp; omega) _
      · have d1 : decide ((s.size : Int) - ((a : Int) + (n : Int)) < (v : Int)) = false := by simp; omega
        have HT2 : Hid (getText s a = some (s.extract (a + n) (a + n + v), (a : Int) + n + v)) := by
          show _ = _
          rw [HT.out, if_neg (by omega), show ((a : Int) + n).toNat = a + n by omega, show ((a : Int) + n + v).toNat = a + n + v by omega]
        have hsl : ∀ wx, (Instr.slice 9 (.string s) (some (.int .i64 ((a : Int) + (n : Int)))) (some (.int .i64 ((a : Int) + (n : Int) + (v : Int)))) none).run Try.prog wx = .ok (.string (s.extract (a + n) (a + n + v))) wx := by
          intro wx
          rw [run_slice_string_if _ _ _ _ _ _ _ Try.underlying9, if_pos (by omega), if_pos (by omega)]
          rw [show ((a : Int) + (n : Int) + (v : Int)).toNat = a + n + v by omega, show ((a : Int) + (n : Int)).toNat = a + n by omega]
        have hwr : IntKind.i64.wrap ((a : Int) + (n : Int) + (v : Int)) = (a : Int) + (n : Int) + (v : Int) := by simp [IntKind.wrap, IntKind.bits, IntKind.signed]; omega
        go_wp2_with fail
        go_region_held3 (fun wx => wx.cell? ⟨w1.heap.size, 1, none⟩ = some (.int .i64 v) ∧ wx.cell? ⟨w1.heap.size, 2, none⟩ = some (.int .i64 ((a : Int) + (n : Int)))) (first | (go_keep; done) | exact ⟨keep_new (by simp) rfl, keep_new (by simp) rfl⟩) (fail)
        all_goals go_wp2
        refine bodyPost_ret (v := .agg #[.bool true, .string (s.extract (a + n) (a + n + v)), .int .i64 ((a : Int) + n + v)]) (by simp [results, Try.results54, go_sem, hz, q0, q1, q2]) rfl ⟨by rw [HT2.out]; rfl, ?_⟩
        exact ((((HB.out.setCell (Nat.le_refl _) _).setCell (Nat.le_refl _) _).setCell (Nat.le_refl _) _).alloc (by simp; omega) _).drew
end Go.Proofs.Ytccokbfbkeknnaa
