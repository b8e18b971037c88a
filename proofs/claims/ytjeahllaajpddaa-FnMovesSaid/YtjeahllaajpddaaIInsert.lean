import Derived.Test.YtjeahllaajpddaaIInsK
import Derived.Test.YtjeahllaajpddaaICmp
namespace Go.Proofs.Ytjeahllaajpddaa
open Go.RowKit
set_option maxRecDepth 20000 in
set_option maxHeartbeats 4000000 in
theorem iInsert_room (base g n cap i vb : Nat) (xs : List Value) (v0 v1 v2 : Value) (hi : i < n) (hn : n ≤ 1000) (hroom : n + 1 ≤ cap) (w : World)
    (hown : w.ownsRow base 78 3 (.slice (some ⟨g, 0, none⟩) n cap) n xs) (hv : RowAt w vb 78 #[v0, v1, v2]) (hne : vb ≠ g)
    (h1x : ∀ v ∈ xs, v.oneCell' = true) (h1v : ∀ v ∈ [v0, v1, v2], v.oneCell' = true) :
    Calls Try.prog 59 #[.slice (some ⟨g, 0, none⟩) n cap, .int .i64 (i : Int), .slice (some ⟨vb, 0, none⟩) 1 1] w fun e w' =>
      e = .returned (.slice (some ⟨g, 0, none⟩) (n + 1) cap) ∧ w'.ownsRow base 78 3 (.slice (some ⟨g, 0, none⟩) (n + 1) cap) (n + 1) (xs.take (i * 3) ++ [v0, v1, v2] ++ xs.drop (i * 3)) ∧ w.grownBy w' (some g) := by
  rcases hown.2 with ⟨h', _⟩ | ⟨g', cap', cur, h', hb, hg, hnc, hcm, hcs, htake⟩
  · simp at h'
  simp only [Value.slice.injEq, Option.some.injEq, Addr.mk.injEq, and_true, true_and] at h'
  obtain ⟨rfl, rfl⟩ := h'
  have hxl := hown.1
  obtain ⟨A, hA⟩ : ∃ A, A = cur.toList.take ((i + 1) * 3) ++ xs.drop (i * 3) ++ cur.toList.drop ((i + 1) * 3 + (xs.drop (i * 3)).length) := ⟨_, rfl⟩
  obtain ⟨hAl, hBl, hBt⟩ := ins_rows cur.toList xs [v0, v1, v2] n i cap hi hroom (by simpa using hcs) htake rfl A hA
  have hsz : (Try.prog.info? 78).map (·.size) = some 3 := by kernel_rfl
  have hdl : (xs.drop (i * 3)).length = (n - i) * 3 := by rw [List.length_drop, hxl]; omega
  have hcl : ∀ j v, xs[j]? = some v → w.cell? ⟨g, j, none⟩ = some v := fun j v hj => by
    have := hown.cells (g := g) rfl j v hj
    rwa [Addr.add_lit, Nat.zero_add] at this
  have hm : cap ≤ 9223372036854775807 := by unfold maxLen at hcm; omega
  have hov : ∀ lb cb, (callFunc 62 #[.slice (some ⟨vb, 0, none⟩) 1 1, .slice (some ⟨g, (i + 1) * 3, none⟩) lb cb]).run Try.prog w = .ok (.value (.bool false)) w := fun lb cb => by
    rw [run_callFunc_extern Try.func62 (by kernel_rfl) (by kernel_rfl) (by kernel_rfl) (e := Extern.SlicesOverlaps.overlaps #[62, 62] #[4]) (by kernel_rfl),
      Lib.run_overlaps_apart w 62 4 78 Try.underlying62 3 Try.sizeOf78 ⟨vb, 0, none⟩ ⟨g, (i + 1) * 3, none⟩ 1 1 lb cb hne 78 78 3 (cap * 3)
        (by unfold World.shape?; rw [show w.heap[vb]? = _ from hv]; rfl) (by unfold World.shape?; rw [hg]; simp [hcs]) (by omega) (hv.free 0) (hv.free 3)]
    rfl
  have hc1 : ∀ ty dc sc, (Builtin.copy_ #[62, 62] ty #[.slice (some ⟨g, (i + 1) * 3, none⟩) (n - i) dc, .slice (some ⟨g, i * 3, none⟩) (n + 1 - i) sc]).run Try.prog w.drew = .ok (goInt (n - i)) (w.drew.setRow g A.toArray) := fun ty dc sc => by
    have := run_copyK (P := Try.prog) w.drew 62 62 ty 78 3 g ((i + 1) * 3) (n - i) dc ⟨g, i * 3, none⟩ (n + 1 - i) sc cur 78 (xs.drop (i * 3)) Try.underlying62 hsz hg
      (by rw [hdl]; congr 1; simp only [Nat.min_def]; split <;> omega)
      (fun j v hj => by rw [Addr.add_lit]; exact hcl _ v (by rwa [List.getElem?_drop] at hj)) (by rw [hdl, hcs]; omega) (fun v hv => h1x v (List.mem_of_mem_drop hv))
    rw [this, ← hA]
    congr 2
    simp only [Nat.min_def]; split <;> omega
  obtain ⟨W1, hW1⟩ : ∃ W1, W1 = w.drew.setRow g A.toArray := ⟨_, rfl⟩
  rw [← hW1] at hc1
  have hg1 : W1.heap[g]? = some (.cells A.toArray 78 (0, 0)) := by rw [hW1]; exact setRow_heap w.drew g cur A.toArray _ _ hg
  have G1 : w.grownBy W1 (some g) := by rw [hW1]; exact grown_trans (drew_grown w _) (setRow_grown _ _ _)
  have hv1 : RowAt W1 vb 78 #[v0, v1, v2] := (G1.block vb hv.lt (fun e => hne (Option.some.inj e))).trans hv
  obtain ⟨B, hB⟩ : ∃ B, B = A.take (i * 3) ++ [v0, v1, v2] ++ A.drop (i * 3 + 3) := ⟨_, rfl⟩
  have hc2 : ∀ ty dc, (Builtin.copy_ #[62, 62] ty #[.slice (some ⟨g, i * 3, none⟩) (n + 1 - i) dc, .slice (some ⟨vb, 0, none⟩) 1 1]).run Try.prog W1 = .ok (goInt 1) (W1.setRow g B.toArray) := fun ty dc => by
    have := run_copyK (P := Try.prog) W1 62 62 ty 78 3 g (i * 3) (n + 1 - i) dc ⟨vb, 0, none⟩ 1 1 A.toArray 78 [v0, v1, v2] Try.underlying62 hsz hg1
      (by simp only [Nat.min_def]; rw [if_pos (by omega)]; rfl)
      (fun j v hj => by rw [Addr.add_lit, Nat.zero_add, hv1.cell j]; simpa using hj) (by simp only [List.size_toArray, hAl, List.length_cons, List.length_nil]; omega) h1v
    rw [this, List.toList_toArray, hB]
    congr 2
    simp only [Nat.min_def]; rw [if_pos (by omega)]; rfl
  have FIN : Hid ((W1.setRow g B.toArray).ownsRow base 78 3 (.slice (some ⟨g, 0, none⟩) (n + 1) cap) (n + 1) (xs.take (i * 3) ++ [v0, v1, v2] ++ xs.drop (i * 3)) ∧ w.grownBy (W1.setRow g B.toArray) (some g)) := by
    refine ⟨⟨?_, .inr ⟨g, cap, B.toArray, rfl, hb, setRow_heap W1 g A.toArray B.toArray _ _ hg1, hroom, hcm, ?_, ?_⟩⟩, grown_trans G1 (setRow_grown _ _ _)⟩
    · simp only [List.length_append, List.length_take, hdl, hxl, List.length_cons, List.length_nil]; omega
    · rw [hB]; simpa using hBl
    · rw [hB]; simpa using hBt
  have q1 : ¬ ((i : Int) = (n : Int)) := by omega
  have q3 : (i : Int) ≤ (n : Int) := by omega
  have q4 : (0 : Int) ≤ (i : Int) := by omega
  have q5 : ¬ (cap : Int) < (n : Int) + 1 := by omega
  have q6 : (n : Int) + 1 ≤ (cap : Int) := by omega
  have q7 : (i : Int) + 1 ≤ (n : Int) + 1 := by omega
  have q8 : (i : Int) ≤ (n : Int) + 1 := by omega
  have r1 : IntKind.i64.wrap ((i : Int) + 1) = (i : Int) + 1 := by rw [IntKind.wrap_i64]; omega
  have r2 : ((i : Int) + 1).toNat = i + 1 := by omega
  have r3 : (0 : Int) ≤ (i : Int) + 1 := by omega
  have r4 : ¬ (cap = i + 1) := by omega
  have r5 : ¬ (cap = i) := by omega
  clear hBt hBl hAl hA hB hcl hdl hxl htake hcs hg1 G1 hv1 hv hown hW1 h1x h1v hg hsz
  go_enter Try.func59, Try.ntmps59
  go_wp2_with (simp only [hov])
  go_region_law (refine step_copyK rfl _ _ 62 rfl _ _ (by simp [Act.eval, Act.put]) (by simp [Act.eval, Act.put]) (hc1 _ _ _) ?_)
  go_wp2_with (at_builtin; refine list_copyK _ rfl _ _ 62 rfl _ _ rfl rfl (hc2 _ _) ?_)
  go_ret
  exact ⟨rfl, FIN.out⟩
set_option maxRecDepth 20000 in
set_option maxHeartbeats 4000000 in
theorem iInsert_end (base n vb : Nat) (v : Value) (xs : List Value) (v0 v1 v2 : Value) (hn : n ≤ 1000) (w : World) (hbase : base ≤ w.heap.size)
    (hown : w.ownsRow base 78 3 v n xs) (hv : RowAt w vb 78 #[v0, v1, v2]) (h1v : ∀ v ∈ [v0, v1, v2], v.oneCell' = true) :
    Calls Try.prog 59 #[v, .int .i64 (n : Int), .slice (some ⟨vb, 0, none⟩) 1 1] w fun e w' =>
      ∃ v', e = .returned v' ∧ w'.ownsRow base 78 3 v' (n + 1) (xs ++ [v0, v1, v2]) ∧ w.grownBy w' v.ownBlock ∧ (v'.ownBlock = v.ownBlock ∨ ∀ q, v'.ownBlock = some q → w.heap.size ≤ q) := by
  obtain ⟨i0, hi, hz0, hz1, hz2⟩ := info_parts (P := Try.prog) (e := 78) (z := .agg #[.int .i64 0, .int .i64 0, .int .i64 0]) (size := 3) (bytes := 24) (by kernel_rfl)
  obtain ⟨v', w', hrun, r1, r2, r3⟩ := run_append_fresh (P := Try.prog) w base 62 62 78 i0 (.agg #[.int .i64 0, .int .i64 0, .int .i64 0]) 3 24 Try.underlying62 hi hz0 hz1 hz2 rfl (by decide) v n xs hown ⟨vb, 0, none⟩ 1 1 [v0, v1, v2] rfl
    (fun j u hj => by rw [Addr.add_lit, Nat.zero_add, hv.cell j]; simpa using hj) h1v (by unfold maxLen; omega) (by omega) hbase
  have FIN := hid (And.intro r1 (And.intro r2 r3))
  have HR := hid hrun
  have q0 : (0 : Int) ≤ (n : Int) := by omega
  rcases hown.2 with ⟨rfl, rfl⟩ | ⟨g, cap, cur, rfl, hb, hg, hnc, hcm, hcs, htake⟩
  · clear r1 r2 r3 hrun hown hv h1v hi hz0 hz1 hz2
    go_enter Try.func59, Try.ntmps59
    go_wp2_with (at_builtin; refine list_appZ _ rfl _ _ 62 62 rfl _ _ rfl rfl HR.out ?_)
    go_ret
    exact ⟨v', rfl, FIN.out⟩
  · have hm : cap ≤ 9223372036854775807 := by unfold maxLen at hcm; omega
    clear r1 r2 r3 hrun hown hv h1v hi hz0 hz1 hz2 hg hcs htake
    go_enter Try.func59, Try.ntmps59
    go_wp2_with (at_builtin; refine list_appZ _ rfl _ _ 62 62 rfl _ _ rfl rfl HR.out ?_)
    all_goals go_ret
    all_goals exact ⟨v', rfl, FIN.out⟩
set_option maxRecDepth 20000 in
set_option maxHeartbeats 4000000 in
theorem iInsert_grow (base g n cap i vb : Nat) (xs : List Value) (v0 v1 v2 : Value) (hi : i < n) (hn : n ≤ 1000) (hroom : cap < n + 1) (w : World) (hbase : base ≤ w.heap.size)
    (hown : w.ownsRow base 78 3 (.slice (some ⟨g, 0, none⟩) n cap) n xs) (hv : RowAt w vb 78 #[v0, v1, v2])
    (h1x : ∀ v ∈ xs, v.oneCell' = true) (h1v : ∀ v ∈ [v0, v1, v2], v.oneCell' = true) :
    Calls Try.prog 59 #[.slice (some ⟨g, 0, none⟩) n cap, .int .i64 (i : Int), .slice (some ⟨vb, 0, none⟩) 1 1] w fun e w' =>
      ∃ G, e = .returned (.slice (some ⟨w.heap.size, 0, none⟩) (n + 1) G) ∧ w'.ownsRow base 78 3 (.slice (some ⟨w.heap.size, 0, none⟩) (n + 1) G) (n + 1) (xs.take (i * 3) ++ [v0, v1, v2] ++ xs.drop (i * 3)) ∧ w.grownBy w' none := by
  rcases hown.2 with ⟨h', _⟩ | ⟨g', cap', cur, h', hb, hg, hnc, hcm, hcs, htake⟩
  · simp at h'
  simp only [Value.slice.injEq, Option.some.injEq, Addr.mk.injEq, and_true, true_and] at h'
  obtain ⟨rfl, rfl⟩ := h'
  obtain rfl : cap = n := by omega
  have hxl := hown.1
  have hgl : g < w.heap.size := (Array.getElem?_eq_some_iff.1 hg).1
  obtain ⟨i0, hi0, hz0, hz1, hz2⟩ := info_parts (P := Try.prog) (e := 78) (z := .agg #[.int .i64 0, .int .i64 0, .int .i64 0]) (size := 3) (bytes := 24) (by kernel_rfl)
  have hsz : (Try.prog.info? 78).map (·.size) = some 3 := by kernel_rfl
  have hdl : (xs.drop (i * 3)).length = (cap - i) * 3 := by rw [List.length_drop, hxl]; omega
  have hcl : ∀ j v, xs[j]? = some v → w.cell? ⟨g, j, none⟩ = some v := fun j v hj => by
    have := hown.cells (g := g) rfl j v hj
    rwa [Addr.add_lit, Nat.zero_add] at this
  have hold : (Builtin.firstCells i0.size i (.slice (some ⟨g, 0, none⟩) i cap)).run Try.prog w.drew = .ok (xs.take (i * 3)).toArray w.drew := by
    rw [hz1]
    exact run_firstCells_some w.drew 3 i ⟨g, 0, none⟩ i cap (xs.take (i * 3)) (by rw [List.length_take]; omega) (fun j v hj => by
      rw [Addr.add_lit, Nat.zero_add]
      rw [List.getElem?_take] at hj
      split at hj
      · exact hcl j v hj
      · cases hj)
  have hrz := Lib.run_append_grow_zeros w 62 3 62 78 i0 _ .i64 .i64 Try.underlying62 Try.underlying3 hi0 hz0 (some ⟨g, 0, none⟩) i cap (xs.take (i * 3)) hold (cap + 1 - i) (by omega) (by omega) (by omega) (by omega) (by rw [hz2]; omega) (by rw [hz2]; exact growslice_fits (by omega) (by omega))
  rw [show i + (cap + 1 - i) = cap + 1 by omega] at hrz
  have hGn := grownCap_ge w (cap + 1) cap 78
  have hGm := grownCap_le_maxLen w (cap + 1) cap 78 (by unfold maxLen; omega)
  obtain ⟨G, hG⟩ : ∃ G, G = grownCap w (cap + 1) cap 78 := ⟨_, rfl⟩
  rw [← hG] at hrz hGn hGm
  obtain ⟨R, hR⟩ : ∃ R : Array Value, R = (xs.take (i * 3)).toArray ++ Builtin.zeroCells (Value.agg #[.int .i64 0, .int .i64 0, .int .i64 0]).cells (cap + 1 - i) ++ Builtin.zeroCells (Value.agg #[.int .i64 0, .int .i64 0, .int .i64 0]).cells (G - (cap + 1)) := ⟨_, rfl⟩
  rw [← hR] at hrz
  have hRl : R.toList.length = G * 3 := by
    rw [hR]
    simp [Builtin.zeroCells, Value.cells, hxl]
    omega
  have hRx : R.toList.take (i * 3) = xs.take (i * 3) := by
    rw [hR, Array.toList_append, Array.toList_append, List.append_assoc]
    apply List.take_left'
    simp [hxl]; omega
  obtain ⟨A, hA⟩ : ∃ A, A = R.toList.take (i * 3) ++ [v0, v1, v2] ++ R.toList.drop (i * 3 + [v0, v1, v2].length) := ⟨_, rfl⟩
  obtain ⟨hAl, hBl, hBt⟩ := ins_rows2 R.toList xs [v0, v1, v2] cap i G hi hGn hRl hxl hRx rfl A hA
  obtain ⟨B, hB⟩ : ∃ B, B = A.take ((i + 1) * 3) ++ xs.drop (i * 3) ++ A.drop ((i + 1) * 3 + (xs.drop (i * 3)).length) := ⟨_, rfl⟩
  rw [← hB] at hBl hBt
  obtain ⟨W1, hW1⟩ : ∃ W1, W1 = w.drew.alloc (.cells R 78) := ⟨_, rfl⟩
  rw [← hW1] at hrz
  have hk1 : (cap : Int) + 1 - (i : Int) = ((cap + 1 - i : Nat) : Int) := by omega
  have R1 : RowAt W1 w.heap.size 78 R := by rw [hW1]; exact RowAt.new w.drew _ _
  have G1 : w.grownBy W1 none := by rw [hW1]; exact grown_trans (drew_grown w _) (World.grownBy_alloc _ _ _)
  have hv1 : RowAt W1 vb 78 #[v0, v1, v2] := (G1.block vb hv.lt (by simp)).trans hv
  have hvN : vb ≠ w.heap.size := by have := hv.lt; omega
  have hc1 : ∀ ty dc, (Builtin.copy_ #[62, 62] ty #[.slice (some ⟨w.heap.size, i * 3, none⟩) (cap + 1 - i) dc, .slice (some ⟨vb, 0, none⟩) 1 1]).run Try.prog W1 = .ok (goInt 1) (W1.setRow w.heap.size A.toArray) := fun ty dc => by
    have := run_copyK (P := Try.prog) W1 62 62 ty 78 3 w.heap.size (i * 3) (cap + 1 - i) dc ⟨vb, 0, none⟩ 1 1 R 78 [v0, v1, v2] Try.underlying62 hsz R1
      (by simp only [Nat.min_def]; rw [if_pos (by omega)]; rfl)
      (fun j v hj => by rw [Addr.add_lit, Nat.zero_add, hv1.cell j]; simpa using hj) (by rw [← Array.length_toList, hRl]; simp only [List.length_cons, List.length_nil]; omega) h1v
    rw [this, hA]
    congr 2
    simp only [Nat.min_def]; rw [if_pos (by omega)]; rfl
  obtain ⟨W2, hW2⟩ : ∃ W2, W2 = W1.setRow w.heap.size A.toArray := ⟨_, rfl⟩
  rw [← hW2] at hc1
  have R2 : RowAt W2 w.heap.size 78 A.toArray := by rw [hW2]; exact R1.setRow _
  have G2 : w.grownBy W2 none := by
    have q := setRow_grown W1 w.heap.size A.toArray
    rw [hW2]
    exact ⟨q.os.trans G1.os, q.tape.trans G1.tape, q.output.trans G1.output, Nat.le_trans G1.size q.size, fun k hk _ => (q.block k (Nat.lt_of_lt_of_le hk G1.size) (fun e => by have := Option.some.inj e; omega)).trans (G1.block k hk (by simp))⟩
  have hcl2 : ∀ j v, xs[j]? = some v → W2.cell? ⟨g, j, none⟩ = some v := fun j v hj => G2.cell (hcl j v hj) (by simp)
  have hc2 : ∀ ty dc sc, (Builtin.copy_ #[62, 62] ty #[.slice (some ⟨w.heap.size, (i + 1) * 3, none⟩) (cap - i) dc, .slice (some ⟨g, i * 3, none⟩) (cap - i) sc]).run Try.prog W2.drew = .ok (goInt (cap - i)) (W2.drew.setRow w.heap.size B.toArray) := fun ty dc sc => by
    have := run_copyK (P := Try.prog) W2.drew 62 62 ty 78 3 w.heap.size ((i + 1) * 3) (cap - i) dc ⟨g, i * 3, none⟩ (cap - i) sc A.toArray 78 (xs.drop (i * 3)) Try.underlying62 hsz R2
      (by rw [hdl]; congr 1; simp only [Nat.min_def]; split <;> omega)
      (fun j v hj => by rw [Addr.add_lit]; exact hcl2 _ v (by rwa [List.getElem?_drop] at hj)) (by rw [List.size_toArray, hAl, hdl]; omega) (fun v hv => h1x v (List.mem_of_mem_drop hv))
    rw [this, List.toList_toArray, ← hB]
    congr 2
    simp only [Nat.min_def]; split <;> omega
  have FIN : Hid ((W2.drew.setRow w.heap.size B.toArray).ownsRow base 78 3 (.slice (some ⟨w.heap.size, 0, none⟩) (cap + 1) G) (cap + 1) (xs.take (i * 3) ++ [v0, v1, v2] ++ xs.drop (i * 3)) ∧ w.grownBy (W2.drew.setRow w.heap.size B.toArray) none) := by
    refine ⟨⟨?_, .inr ⟨w.heap.size, G, B.toArray, rfl, hbase, setRow_heap W2.drew w.heap.size A.toArray B.toArray _ _ R2, hGn, hGm, by simpa using hBl, by simpa using hBt⟩⟩, ?_⟩
    · simp only [List.length_append, List.length_take, hdl, hxl, List.length_cons, List.length_nil]; omega
    · have q := setRow_grown W2.drew w.heap.size B.toArray
      exact ⟨q.os.trans G2.os, q.tape.trans G2.tape, q.output.trans G2.output, Nat.le_trans G2.size q.size, fun k hk _ => (q.block k (Nat.lt_of_lt_of_le hk G2.size) (fun e => by have := Option.some.inj e; omega)).trans (G2.block k hk (by simp))⟩
  have q1 : ¬ ((i : Int) = (cap : Int)) := by omega
  have q3 : (i : Int) ≤ (cap : Int) := by omega
  have q4 : (0 : Int) ≤ (i : Int) := by omega
  have q5 : (cap : Int) < (cap : Int) + 1 := by omega
  have q7 : (i : Int) + 1 ≤ (cap : Int) + 1 := by omega
  have q8 : (i : Int) ≤ (cap : Int) + 1 := by omega
  have r1 : IntKind.i64.wrap ((i : Int) + 1) = (i : Int) + 1 := by rw [IntKind.wrap_i64]; omega
  have r2 : ((i : Int) + 1).toNat = i + 1 := by omega
  have r3 : (0 : Int) ≤ (i : Int) + 1 := by omega
  have r4 : ¬ (G = i + 1) := by omega
  have r5 : ¬ (G = i) := by omega
  have r6 : ¬ (cap = i) := by omega
  have r7 : G ≤ 9223372036854775807 := by unfold maxLen at hGm; omega
  rw [← hk1] at hrz
  have HRZ := hid hrz
  clear hk1 hrz hB hBl hBt hA hAl hR hRl hRx hG hW1 hW2 R1 R2 G1 G2 hv1 hcl2 hcl hold hi0 hz0 hz1 hz2 hsz hdl hxl htake hcs hown hv h1x h1v hg
  go_enter Try.func59, Try.ntmps59
  go_wp2_with (first
    | (at_builtin; refine list_appZ _ rfl _ _ 62 3 rfl _ _ rfl rfl HRZ.out ?_)
    | (at_builtin; refine list_copyK _ rfl _ _ 62 rfl _ _ rfl rfl (hc1 _ _) ?_))
  go_region_law (refine step_copyK rfl _ _ 62 rfl _ _ (by simp [Act.eval, Act.put]) (by simp [Act.eval, Act.put]) (hc2 _ _ _) ?_)
  go_wp2
  go_ret
  exact ⟨G, rfl, FIN.out⟩
end Go.Proofs.Ytjeahllaajpddaa
