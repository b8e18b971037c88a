import Derived.Test.YtjeahllaajpddaaDrawNd2
namespace Go.Proofs.Ytjeahllaajpddaa
open Go.RowKit
attribute [local go_sem ↓] Go.wp_at_zero Go.wp_at_succ
def zer8 (n : Nat) : Array Value := madeCells #[.int .u8 0] n
theorem mk8z (w : World) (n : Nat) (hn : n ≤ 1048576) : (Instr.makeSlice 22 (.int .i64 n) (.int .i64 n)).run Try.prog w = .ok (.slice (some ⟨w.heap.size, 0, none⟩) n n) (w.alloc (.cells (zer8 n) 5)) := by
  obtain ⟨i0, hi, hz0, hz1, hz2⟩ := info_parts Try.infoU8
  have := run_make (P := Try.prog) w 22 5 i0 _ Try.underlying22 hi hz0 .i64 .i64 n n (by omega) (Int.le_refl _) (by rw [hz2]; omega) (by omega)
  rw [this, hz1]
  simp [zer8, Value.cells]
theorem cv8z (w : World) (n : Nat) : (convert 22 9 (.slice (some ⟨w.heap.size, 0, none⟩) n n)).run Try.prog (w.alloc (.cells (zer8 n) 5)) = .ok (.string (strOfNums (List.replicate n 0))) (w.alloc (.cells (zer8 n) 5)) :=
  run_convert_bytes_arg (P := Try.prog) _ 22 5 Try.underlying22 Try.underlying5 w.heap.size 0 n n (List.replicate n 0) (by simp) (fun i hi => by
    rw [Nat.zero_add, (RowAt.new w 5 (zer8 n)).cell i]
    have hi' : i < n := by simpa using hi
    simp [zer8, madeCells, hi', Nat.mod_one]) 9 Try.underlying9
theorem lit8 (a0 a1 a2 a3 a4 a5 a6 a7 : Int) (R : Nat) (h : R < 8) : ∃ V : Int, (#[.int .i64 a0, .int .i64 a1, .int .i64 a2, .int .i64 a3, .int .i64 a4, .int .i64 a5, .int .i64 a6, .int .i64 a7] : Array Value)[R]? = some (.int .i64 V) := by
  rcases (by omega : R = 0 ∨ R = 1 ∨ R = 2 ∨ R = 3 ∨ R = 4 ∨ R = 5 ∨ R = 6 ∨ R = 7) with rfl | rfl | rfl | rfl | rfl | rfl | rfl | rfl <;> exact ⟨_, rfl⟩
theorem own_monoD {w : World} {base base' : Nat} {e : TypeId} {size : Nat} {v : Value} {n : Nat} {xs : List Value} (h : w.ownsRow base e size v n xs) (hb : base' ≤ base) : w.ownsRow base' e size v n xs := by
  rcases h with ⟨h0, h | ⟨g, cap, cur, h1, h2, h3⟩⟩
  · exact ⟨h0, .inl h⟩
  · exact ⟨h0, .inr ⟨g, cap, cur, h1, Nat.le_trans hb h2, h3⟩⟩
/-- what is drawn for PlaceKey -/
def DrawnPl (w : World) (e : Ending) (w' : World) : Prop := (∃ (l : List (Int × Int)) (va : Option Addr) (vc : Nat) (t : ByteArray) (m : Int), e = .returned (.tuple #[.slice va l.length vc, .string t, .int .i64 m]) ∧ l.length ≤ 21 ∧ t.size ≤ 1001 ∧ w'.ownsRow w.heap.size 38 2 (.slice va l.length vc) l.length (flP l)) ∧ Below w.heap.size w w'
set_option maxRecDepth 20000 in
set_option maxHeartbeats 2000000 in
theorem drawPl_all (w : World) (a : Option Addr) (len cap : Nat) (hc : CodeOk w a len) (hlc : len ≤ cap) :
    Calls Try.prog 14 #[.slice a len cap] w (DrawnPl w) := by
  go_enter Try.func14, Try.ntmps14
  go_wp2_with fail
  refine (source_all w a len cap hc hlc).mono ?_
  rintro e w1 ⟨rfl, hs1, hb1⟩
  have S1 := hid hs1
  have L1 := hid hb1
  clear hs1 hb1
  go_wp2_with fail
  refine (key_all w w1 w.heap.size a len cap 0 S1.out (by omega)).mono ?_
  rintro e w2 ⟨⟨t, rfl, ht⟩, ⟨p2, hs2, hp2⟩, hg2⟩
  have S2 := hid hs2
  have L2 := hid (below_src L1.out hg2)
  clear hs2 hg2 S1 L1
  go_wp2_with fail
  refine (one_all w w2 w.heap.size a len cap p2 30 S2.out (by omega) (by omega) (by omega)).mono ?_
  rintro e w3 ⟨⟨bb, rfl⟩, hs3, hg3⟩
  have S3 := hid hs3
  have L3 := hid (below_src L2.out hg3)
  clear hs3 hg3 S2 L2
  cases bb with
  | true =>
    go_wp2_with fail
    refine (n_all w w3 w.heap.size a len cap (p2 + 1) 3 S3.out (by omega) (by omega) (by omega)).mono ?_
    rintro e w4 ⟨⟨r, rfl, hr0, hr1⟩, hs4, hg4⟩
    obtain ⟨R, rfl⟩ := Int.eq_ofNat_of_zero_le hr0
    have L4 := hid (below_src L3.out hg4)
    obtain ⟨Z, hZ⟩ : ∃ Z : Nat, Z = 999 + R := ⟨_, rfl⟩
    have hZ1 : Z ≤ 1001 := by omega
    have eZ : (999 : Int) + (R : Int) = (Z : Int) := by omega
    have mk := fun w => mk8z w Z (by omega)
    have cv := fun w => cv8z w Z
    have S5 : Hid (Src w (w4.alloc (.cells (zer8 Z) 5)) w.heap.size a len cap (p2 + 1 + 1)) := hs4.alloc _
    have L5 : Hid (Below w.heap.size w (w4.alloc (.cells (zer8 Z) 5))) := L4.out.alloc L4.out.size _
    obtain ⟨W5, hW5⟩ : ∃ W, W = w4.alloc (.cells (zer8 Z) 5) := ⟨_, rfl⟩
    rw [← hW5] at S5 L5
    have HW5 := hid hW5
    have tz : (strOfNums (List.replicate Z 0)).size ≤ 1001 := by rw [strOfNums_size]; simp; omega
    obtain ⟨t', ht'⟩ : ∃ t', t' = strOfNums (List.replicate Z 0) := ⟨_, rfl⟩
    rw [← ht'] at tz cv
    clear hZ hs4 hg4 hW5 ht'
    go_wp2_with fail
    rw [← HW5.out]
    have cW : w.heap.size < W5.heap.size := S5.out.lt
    go_region_with ((first
      | (go_at_call 35; refine (anyNodes_all w _ w.heap.size a len cap (p2 + 1 + 1) S5.out.drew (by omega)).mono ?_; rintro e w6 ⟨⟨l, va, vc, rfl, hl, ho6⟩, ⟨p6, hs6, hp6⟩, hg6⟩; have L6 := below_src L5.out.drew hg6; have O6 := own_monoD ho6 (show w.heap.size + 1 ≤ W5.heap.size from cW))
      | (go_at_call_of 30 (Value.int IntKind.i64 6); refine (n_all w _ w.heap.size a len cap p6 6 hs6 (by omega) (by omega) (by omega)).mono ?_; rintro e w7 ⟨⟨r7, rfl, hr70, hr71⟩, hs7, hg7⟩; have L7 := below_src L6 hg7; have O7 := O6.kept hg7 (.inr (fun e => by have := (O6.lt _ e).1; omega)); have e7b : IntKind.i64.wrap (1 + r7) = 1 + r7 := (by rw [IntKind.wrap_i64]; omega))
      | (go_at_call_of 30 (Value.int IntKind.i64 8); refine (n_all w _ w.heap.size a len cap (p6 + 1) 8 (by first | exact hs7 | exact hs7.alloc _) (by omega) (by omega) (by omega)).mono ?_; rintro e w8 ⟨⟨r8, rfl, hr80, hr81⟩, hs8, hg8⟩; obtain ⟨R8, rfl⟩ := Int.eq_ofNat_of_zero_le hr80; obtain ⟨V, hV⟩ := lit8 1 2 3 4 5 0 65 (1 + r7) R8 (by omega); have c7 : w.heap.size < w7.heap.size := hs7.lt; have L8 : Below w.heap.size w w8 := (by first | exact below_src L7 hg8 | exact below_src (L7.alloc L7.size _) hg8); have O8 : w8.ownsRow (w.heap.size + 1) 38 2 (.slice va l.length vc) l.length (flP l) := (by first | exact O7.kept hg8 (.inr (fun e => by have := (O7.lt _ e).1; omega)) | exact (O7.alloc _).kept hg8 (.inr (fun e => by have := (O7.lt _ e).1; omega))); have c8n := ((RowAt.new w8 2 #[.int .i64 1, .int .i64 2, .int .i64 3, .int .i64 4, .int .i64 5, .int .i64 0, .int .i64 65, .int .i64 (1 + r7)]).cell R8).trans hV; (first | have c8 := ((row_far (RowAt.new w7 2 #[.int .i64 1, .int .i64 2, .int .i64 3, .int .i64 4, .int .i64 5, .int .i64 0, .int .i64 65, .int .i64 (1 + r7)]) hg8 (by omega)).cell R8).trans hV | skip))))
    all_goals go_wp2
    all_goals refine bodyPost_ret (v := .tuple #[.slice va l.length vc, .string t', .int .i64 V]) (by simp [results, Try.results14, go_sem]) rfl ?_
    all_goals first
      | exact ⟨⟨l, va, vc, t', V, rfl, hl, tz, own_monoD O8 (by omega)⟩, L8⟩
      | exact ⟨⟨l, va, vc, t', V, rfl, hl, tz, own_monoD (O8.alloc _) (by omega)⟩, L8.alloc L8.size _⟩
  | false =>
    go_wp2_with fail
    have cW : w.heap.size < w3.heap.size := S3.out.lt
    go_region_with ((first
      | (go_at_call 35; refine (anyNodes_all w _ w.heap.size a len cap (p2 + 1) S3.out.drew (by omega)).mono ?_; rintro e w6 ⟨⟨l, va, vc, rfl, hl, ho6⟩, ⟨p6, hs6, hp6⟩, hg6⟩; have L6 := below_src L3.out.drew hg6; have O6 := own_monoD ho6 (show w.heap.size + 1 ≤ w3.heap.size from cW))
      | (go_at_call_of 30 (Value.int IntKind.i64 6); refine (n_all w _ w.heap.size a len cap p6 6 hs6 (by omega) (by omega) (by omega)).mono ?_; rintro e w7 ⟨⟨r7, rfl, hr70, hr71⟩, hs7, hg7⟩; have L7 := below_src L6 hg7; have O7 := O6.kept hg7 (.inr (fun e => by have := (O6.lt _ e).1; omega)); have e7b : IntKind.i64.wrap (1 + r7) = 1 + r7 := (by rw [IntKind.wrap_i64]; omega))
      | (go_at_call_of 30 (Value.int IntKind.i64 8); refine (n_all w _ w.heap.size a len cap (p6 + 1) 8 (by first | exact hs7 | exact hs7.alloc _) (by omega) (by omega) (by omega)).mono ?_; rintro e w8 ⟨⟨r8, rfl, hr80, hr81⟩, hs8, hg8⟩; obtain ⟨R8, rfl⟩ := Int.eq_ofNat_of_zero_le hr80; obtain ⟨V, hV⟩ := lit8 1 2 3 4 5 0 65 (1 + r7) R8 (by omega); have c7 : w.heap.size < w7.heap.size := hs7.lt; have L8 : Below w.heap.size w w8 := (by first | exact below_src L7 hg8 | exact below_src (L7.alloc L7.size _) hg8); have O8 : w8.ownsRow (w.heap.size + 1) 38 2 (.slice va l.length vc) l.length (flP l) := (by first | exact O7.kept hg8 (.inr (fun e => by have := (O7.lt _ e).1; omega)) | exact (O7.alloc _).kept hg8 (.inr (fun e => by have := (O7.lt _ e).1; omega))); have c8n := ((RowAt.new w8 2 #[.int .i64 1, .int .i64 2, .int .i64 3, .int .i64 4, .int .i64 5, .int .i64 0, .int .i64 65, .int .i64 (1 + r7)]).cell R8).trans hV; (first | have c8 := ((row_far (RowAt.new w7 2 #[.int .i64 1, .int .i64 2, .int .i64 3, .int .i64 4, .int .i64 5, .int .i64 0, .int .i64 65, .int .i64 (1 + r7)]) hg8 (by omega)).cell R8).trans hV | skip))))
    all_goals go_wp2
    all_goals refine bodyPost_ret (v := .tuple #[.slice va l.length vc, .string t, .int .i64 V]) (by simp [results, Try.results14, go_sem]) rfl ?_
    all_goals first
      | exact ⟨⟨l, va, vc, t, V, rfl, hl, (by omega), own_monoD O8 (by omega)⟩, L8⟩
      | exact ⟨⟨l, va, vc, t, V, rfl, hl, (by omega), own_monoD (O8.alloc _) (by omega)⟩, L8.alloc L8.size _⟩
end Go.Proofs.Ytjeahllaajpddaa
