import Derived.Test.YtmhkelfmciepaaaGrI16
import Derived.Test.YtmhkelfmciepaaaGrS11
namespace Go.Proofs.Ytmhkelfmciepaaa
open Go.RowKit
set_option linter.unusedVariables false
/-! The program's newGroup. -/
theorem Try.infoGp : (Try.prog.info? 63).map (fun i => (i.zero, i.size, i.bytes)) = some (some (.pointer none), 1, 8) := by kernel_rfl
theorem mkGp (w : World) (n : Nat) (hn : n ≤ 1048576) : (Instr.makeSlice 56 (.int .i64 n) (.int .i64 n)).run Try.prog w = .ok (.slice (some ⟨w.heap.size, 0, none⟩) n n) (w.alloc (.cells (madeCells #[.pointer none] (n * 1)) 63)) := by
  obtain ⟨i0, hi, hz0, hz1, hz2⟩ := info_parts Try.infoGp
  have := run_make (P := Try.prog) w 56 63 i0 _ Try.underlying56 hi hz0 .i64 .i64 n n (by omega) (Int.le_refl _) (by rw [hz2]; omega) (by omega)
  rw [this, hz1]
  simp only [Int.toNat_natCast, Value.cells]
def ngF (pb : Nat → Nat) (i p : Nat) : Value := if p < i then .pointer (some ⟨pb p, 0, none⟩) else .pointer none
theorem ngF_put (pb : Nat → Nat) (i X p : Nat) : putF (ngF pb i) i (.pointer (some ⟨X, 0, none⟩)) p = ngF (fun j => if j = i then X else pb j) (i + 1) p := by
  unfold putF ngF
  dsimp only
  by_cases e : p = i
  · rw [if_pos e, if_pos (by omega), if_pos e]
  · rw [if_neg e]
    by_cases h : p < i
    · rw [if_pos h, if_pos (by omega), if_neg e]
    · rw [if_neg h, if_neg (by omega)]
/-- the program's members as they begin: the first i of them -/
structure NgL (w : World) (B gb N i : Nat) (pb mb : Nat → Nat) : Prop where
  all : FRow w gb 63 N (ngF pb i)
  mem : ∀ k, k < i → RowAt w (pb k) 65 (gmRow (mb0 N) none 0 (mb k) N k gb) ∧ B ≤ pb k
  mat : ∀ k, k < i → RowAt w (mb k) 2 (ints .i64 (List.replicate N 0)) ∧ B ≤ mb k
  nep : ∀ j k, j < i → k < i → j ≠ k → pb j ≠ pb k
  nem : ∀ j k, j < i → k < i → j ≠ k → mb j ≠ mb k
theorem NgL.gp {w : World} {B gb N : Nat} {pb mb : Nat → Nat} (h : NgL w B gb N N pb mb) (hB : B ≤ gb) : GpL w B gb N (fun _ => mb0 N) pb (fun _ => none) (fun _ => 0) mb := by
  refine ⟨hB, ?_, fun k hk => (h.mem k hk).1, fun k hk => (h.mem k hk).2, fun k hk => ⟨rfl, .inl ⟨rfl, rfl⟩⟩, fun k hk => ⟨(h.mat k hk).1, (h.mat k hk).2, List.length_replicate⟩, h.nep, h.nem, fun i j hi hj hij => .inl rfl⟩
  have q := h.all.row
  have e : ((List.range N).map (ngF pb N)).toArray = ptrs pb N := by
    unfold ptrs
    congr 1
    apply List.map_congr_left
    intro k hk
    exact if_pos (List.mem_range.1 hk)
  rw [e] at q
  exact q
theorem NgL.next {w : World} {B gb N i : Nat} {pb mb : Nat → Nat} (h : NgL w B gb N i pb mb) {X : Nat} (hX : X = w.heap.size) (hB : B ≤ w.heap.size) :
    NgL (((w.alloc (.cells (ints .i64 (List.replicate N 0)) 2)).alloc (.cells (gmRow (mb0 N) none 0 X N i gb) 65)).setCell ⟨gb, i, none⟩ (.pointer (some ⟨X + 1, 0, none⟩))) B gb N (i + 1) (fun j => if j = i then X + 1 else pb j) (fun j => if j = i then X else mb j) := by
  have R1 : RowAt (w.alloc (.cells (ints .i64 (List.replicate N 0)) 2)) X 2 (ints .i64 (List.replicate N 0)) := by rw [hX]; exact RowAt.new _ _ _
  have R2 : RowAt ((w.alloc (.cells (ints .i64 (List.replicate N 0)) 2)).alloc (.cells (gmRow (mb0 N) none 0 X N i gb) 65)) (X + 1) 65 (gmRow (mb0 N) none 0 X N i gb) := RowAt.next _ _ _ (by rw [size_al, hX])
  have hgl := h.all.lt
  obtain ⟨cs, hr, _⟩ := h.all
  refine ⟨(((h.all.alloc _).alloc _).set i _).congr fun p _ => ngF_put pb i (X + 1) p, fun k hk => ?_, fun k hk => ?_, fun j k hj hk hjk => ?_, fun j k hj hk hjk => ?_⟩
  · by_cases e : k = i
    · rw [if_pos e, if_pos e, e]
      exact ⟨R2.other _ _ (by show X + 1 ≠ gb; omega), by omega⟩
    · rw [if_neg e, if_neg e]
      have q := h.mem k (by omega)
      exact ⟨((q.1.alloc _).alloc _).other _ _ (row_apart q.1 hr (by decide)), q.2⟩
  · by_cases e : k = i
    · rw [if_pos e]
      exact ⟨(R1.alloc _).other _ _ (by show X ≠ gb; omega), by omega⟩
    · rw [if_neg e]
      have q := h.mat k (by omega)
      exact ⟨((q.1.alloc _).alloc _).other _ _ (row_apart q.1 hr (by decide)), q.2⟩
  · by_cases e : j = i
    · rw [if_pos e, if_neg (by omega)]
      have := (h.mem k (by omega)).1.lt
      omega
    · rw [if_neg e]
      by_cases e2 : k = i
      · rw [if_pos e2]
        have := (h.mem j (by omega)).1.lt
        omega
      · rw [if_neg e2]
        exact h.nep j k (by omega) (by omega) hjk
  · by_cases e : j = i
    · rw [if_pos e, if_neg (by omega)]
      have := (h.mat k (by omega)).1.lt
      omega
    · rw [if_neg e]
      by_cases e2 : k = i
      · rw [if_pos e2]
        have := (h.mat j (by omega)).1.lt
        omega
      · rw [if_neg e2]
        exact h.nem j k (by omega) (by omega) hjk
def AnsNew (N B : Nat) (w : World) (e : Ending) (w' : World) : Prop := ∃ gb pb, e = .returned (.slice (some ⟨gb, 0, none⟩) N N) ∧ GpAt w' B gb N (fun _ => mb0 N) pb ∧ Below B w w'
def gm0 (Y N i X : Nat) : Array Value := #[.int .i64 0, .int .i64 (-1), .bool false, .int .i64 0, .slice none 0 0, .slice (some ⟨Y, 0, none⟩) N N, .int .i64 (i : Int), .slice (some ⟨X, 0, none⟩) N N]
set_option maxRecDepth 20000 in
set_option maxHeartbeats 4000000 in
theorem iNew (N : Nat) (hN : N ≤ 9) (w : World) :
    Calls Try.prog 16 #[.int .i64 (N : Int)] w fun e w' => AnsNew N w.heap.size w e w' := by
  obtain ⟨X, hX⟩ : ∃ X, X = w.heap.size := ⟨_, rfl⟩
  obtain ⟨W1, hW1⟩ : ∃ W, W = w.alloc (.cells (madeCells #[.pointer none] (N * 1)) 63) := ⟨_, rfl⟩
  have hmk := mkGp w N (by omega)
  rw [← hX, ← hW1] at hmk
  have I1 : Hid (NgL W1 X X N 0 (fun _ => 0) (fun _ => 0)) := by
    refine ⟨?_, fun k hk => absurd hk (by omega), fun k hk => absurd hk (by omega), fun j k hj => absurd hj (by omega), fun j k hj => absurd hj (by omega)⟩
    rw [hW1, hX]
    refine FRow.of (RowAt.new _ _ _) (by simp [madeCells]) fun p hp => ?_
    simp [madeCells, hp, ngF]
    rw [Nat.mod_one]
    rfl
  have B1 : Hid (Below X w W1) := by rw [hW1, hX]; exact (Below.refl _ _).alloc (Nat.le_refl _) _
  rw [← hX]
  have HX := hid hX
  clear hW1 hX
  go_enter Try.func16, Try.ntmps16
  go_wp2_with fail
  clear hmk
  go_loopw [4, 8] (fun y4 y8 wr => ∃ (i : Nat) (pb mb : Nat → Nat), i ≤ N ∧ y8 = .int .i64 (i : Int) ∧ NgL wr X X N i pb mb ∧ Below X w wr) (fun _ y8 _ => N - (intOf y8).toNat)
  case atStart => exact ⟨0, _, _, Nat.zero_le _, rfl, I1.out, B1.out⟩
  case round =>
    obtain ⟨i, pb, mb, hi, rfl, hI, hB⟩ := hrel
    have II := hid hI
    have BB := hid hB
    clear hI hB I1 B1
    by_cases hlt : i < N
    · have hlt' : (i : Int) < (N : Int) := by omega
      have i0 : (0 : Int) ≤ (i : Int) := by omega
      have hmk := mk64 wr N (by omega)
      obtain ⟨Y, hY⟩ : ∃ Y, Y = wr.heap.size := ⟨_, rfl⟩
      obtain ⟨W2, hW2⟩ : ∃ W, W = wr.alloc (.cells (ints .i64 (List.replicate N 0)) 2) := ⟨_, rfl⟩
      rw [← hY, ← hW2] at hmk
      have z2 : W2.heap.size = Y + 1 := by rw [hW2, size_al, hY]
      have g0 : (W2.alloc (.cells (gmRow (mb0 N) none 0 Y N i X) 65)).cell? ⟨X, i, none⟩ = some (ngF pb i i) := by rw [hW2]; exact ((II.out.all.alloc _).alloc _).cell hlt
      have f0 : (W2.alloc (.cells (gmRow (mb0 N) none 0 Y N i X) 65)).frozen? ⟨X, i, none⟩ = false := by rw [hW2]; exact ((II.out.all.alloc _).alloc _).free i
      have XW : X ≤ wr.heap.size := Nat.le_of_lt II.out.all.lt
      have NN : Hid (NgL ((W2.alloc (.cells (gmRow (mb0 N) none 0 Y N i X) 65)).setCell ⟨X, i, none⟩ (.pointer (some ⟨Y + 1, 0, none⟩))) X X N (i + 1) (fun j => if j = i then Y + 1 else pb j) (fun j => if j = i then Y else mb j)) := by
        rw [hW2]
        exact II.out.next hY XW
      have NB : Hid (Below X w ((W2.alloc (.cells (gmRow (mb0 N) none 0 Y N i X) 65)).setCell ⟨X, i, none⟩ (.pointer (some ⟨Y + 1, 0, none⟩)))) := by
        rw [hW2]
        exact ((BB.out.alloc XW _).alloc (by rw [size_al]; omega) _).setCell (Nat.le_refl _) _
      have HZ := hid z2
      have e0 : ngF pb i i = .pointer none := if_neg (Nat.lt_irrefl _)
      rw [e0] at g0
      rw [show gmRow (mb0 N) none 0 Y N i X = gm0 Y N i X from rfl] at g0 f0 NN NB
      unfold gm0 at g0 f0 NN NB
      clear hW2 hY e0 z2
      go_wp2_with fail
      go_roundw
      case rel => rw [HZ.out]; exact ⟨i + 1, _, _, hlt, by go_num, NN.out, NB.out⟩
      case measure => simp [intOf]; omega
    · have hlt' : ¬ (i : Int) < (N : Int) := by omega
      have ei : i = N := by omega
      have HE := hid ei
      clear ei
      go_wp2
      go_ret
      exact ⟨X, pb, rfl, ⟨_, _, _, NgL.gp (by have z := II.out; rw [HE.out] at z; exact z) (Nat.le_refl _)⟩, BB.out⟩
end Go.Proofs.Ytmhkelfmciepaaa
