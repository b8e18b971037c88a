import Derived.Test.YtefnoeaehglihaaDoorISums
import Derived.Deep.RegionWith
namespace Go.Proofs.YtefnoeaehglihaaDoor
open Go.RowKit
/-! The program's sumTable: reach. -/
set_option maxRecDepth 20000 in
set_option maxHeartbeats 4000000 in
theorem reach_all (base R : Nat) (s : ByteArray) (k : Nat) (hk : k ≤ s.size) (hs : s.size ≤ 1048576) (hv pv : Value) (n m : Nat) (w : World) (T : Tbl base R s w hv pv n m) :
    Calls Tryd.prog 61 #[.pointer (some ⟨R, 1, none⟩), .string s, .int .i64 (k : Nat)] w fun e w' => e = .returned (.tuple #[]) ∧ ∃ hv' n', Tbl base R s w' hv' pv n' m ∧ k < n' ∧ Step (Mine R hv pv) w (Mine R hv' pv) w' := by
  have HT0 := hid T
  clear T
  rcases Nat.eq_zero_or_pos n with hn | hn
  · subst hn
    have k2 := HT0.out.blk.cell 1 _ rfl
    have f2 := HT0.out.blk.free 1
    obtain ⟨a0, cap0, hpv⟩ : ∃ a0 cap0, hv = .slice a0 0 cap0 := by
      rcases HT0.out.hh.shape with ⟨q, q2⟩ | ⟨g0, cap0, hpv, hcap0⟩
      · exact ⟨_, _, q⟩
      · exact ⟨_, _, hpv⟩
    subst hpv
    have T1 := hid (HT0.out.alloc (.cells #[.int .i64 0] 2))
    have O1 := hid T1.out.hh
    have Z1 := hid T1.out.bs
    have X1 : Hid (RowAt (w.alloc (.cells #[.int .i64 0] 2)) w.heap.size 2 #[.int .i64 0]) := RowAt.new w _ _
    have NR : Hid (some R ≠ (Value.slice a0 0 cap0).ownBlock) := fun q => HT0.out.hh.ne' (Or.inl HT0.out.lo) q.symm
    go_enter Tryd.func61, Tryd.ntmps61
    go_wp2_with (first | (at_builtin; (refine append_i64 base _ rfl (.tmp 17) (.tmp 18) 67 rfl 2 Tryd.underlying67 Tryd.infoI64 _ (hdL s 0) 0 rfl O1.out Z1.out w.heap.size X1.out rfl (by simp [hdL]) ?_; intro g7 c7 w7 hO7 hg7 hf7; have B7 := T1.out.blk.far hg7 T1.out.blk.lt NR.out; have y1 := B7.cell 1 _ rfl; have y2 := B7.free 1; obtain ⟨T8, S8⟩ := T1.out.putH g7 c7 (by omega) hO7 hg7 hf7; have k8 := T8.blk.cell 1 _ rfl; have HT8 := hid T8; have HS8 := hid S8; clear T8 S8)) | go_in)
    have HS9 : Hid (Step (Mine R (.slice a0 0 cap0) pv) w (Mine R (.slice (some ⟨g7, 0, none⟩) (0 + 1) c7) pv) (w7.setCell ⟨R, 1, none⟩ (.slice (some ⟨g7, 0, none⟩) (0 + 1) c7))) := (Step.of_below ((Below.refl _ _).alloc (Nat.le_refl _) _)).trans HS8.out
    clear hO7 hg7 hf7 B7 y1 y2 T1 O1 Z1 X1 NR k2 f2 HS8 k8
    go_loopw [6] (fun i wr => ∃ (hv' : Value) (n' : Nat), 0 < n' ∧ i = .int .i64 ((n' : Int) - 1) ∧ Tbl base R s wr hv' pv n' m ∧ Step (Mine R (.slice a0 0 cap0) pv) w (Mine R hv' pv) wr) (fun i _ => k + 1 - (intOf i).toNat)
    case atStart => exact ⟨_, 0 + 1, by decide, by first | rfl | (simp [hdL, wrap64]), HT8.out, HS9.out⟩
    case round =>
      obtain ⟨hv', n', hn0, rfl, hT, hS⟩ := hrel
      have HT := hid hT
      have HS := hid hS
      clear hT hS
      rcases HT.out.hh.shape with ⟨q, q2⟩ | ⟨g, cap, hpv, hcap⟩
      · rw [hdL_len] at q2; omega
      rw [hdL_len] at hpv hcap
      subst hpv
      obtain ⟨j, rfl⟩ : ∃ j, n' = j + 1 := ⟨n' - 1, by omega⟩
      rw [show ((j + 1 : Nat) : Int) - 1 = (j : Int) by omega]
      have k2 := HT.out.blk.cell 1 _ rfl
      have f2 := HT.out.blk.free 1
      by_cases hle : j < k
      · have d0 : decide ((j : Int) < (k : Int)) = true := by simp; omega
        have cj : wr.cell? ⟨g, j, none⟩ = some (.int .i64 (hd s j)) := by
          have := HT.out.hh.at j (by rw [hdL_len]; omega)
          rw [this]; simp [hdL]
        have bj := hd_bd s j
        have hjs : j < s.size := by omega
        have ey : Hid (hd s (j + 1) = sumL (hd s j) (s.extract j (j + 1)).data.toList) := by show _ = _; rw [hd_step s j hjs, ex_one s j hjs]; rfl
        have SO := fun w => hid (isumOn (hd s j) (s.extract j (j + 1)) bj.1 (by omega) (by rw [ex_size s _ _ (by omega)]; omega) w)
        have hsl : ∀ wx, (Instr.slice 9 (.string s) (some (.int .i64 (j : Int))) (some (.int .i64 ((j : Int) + 1))) none).run Tryd.prog wx = .ok (.string (s.extract j (j + 1))) wx := by
          intro wx
          rw [run_slice_string_if _ _ _ _ _ _ _ Tryd.underlying9, if_pos (by omega), if_pos (by omega)]
          rw [show ((j : Int) + 1).toNat = j + 1 by omega, Int.toNat_natCast]
        obtain ⟨x, hx⟩ : ∃ x, x = hd s j := ⟨_, rfl⟩
        obtain ⟨c1, hc1⟩ : ∃ c, c = s.extract j (j + 1) := ⟨_, rfl⟩
        rw [← hc1] at ey SO hsl
        rw [← hx] at cj ey SO
        obtain ⟨y, hy⟩ : ∃ y, y = sumL x c1.data.toList := ⟨_, rfl⟩
        rw [← hy] at ey SO
        have wj : IntKind.i64.wrap ((j : Int) + 1) = (j : Int) + 1 := by simp [IntKind.wrap, IntKind.bits, IntKind.signed]; omega
        have jj0 : (0 : Int) ≤ (j : Int) := by omega
        have jj1 : (j : Int) < (j : Int) + 1 := by omega
        clear hx hc1 hy bj
        have T6 := hid ((HT.out.alloc (.cells #[.int .i64 y] 2)).drew)
        have O6 := hid T6.out.hh
        have Z6 := hid T6.out.bs
        have X6 : Hid (RowAt (wr.alloc (.cells #[.int .i64 y] 2)).drew wr.heap.size 2 #[.int .i64 y]) := (RowAt.new wr _ _).drew
        have k6 := T6.out.blk.cell 1 _ rfl
        have Y6 : Hid ((hdL s (j + 1)).length + 1 ≤ 17592186044414) := by show _ ≤ _; rw [hdL_len]; omega
        have NR : Hid (some R ≠ (Value.slice (some ⟨g, 0, none⟩) (j + 1) cap).ownBlock) := fun q => HT.out.hh.ne' (Or.inl HT.out.lo) q.symm
        have ll : (hdL s (j + 1)).length + 1 = j + 1 + 1 := by rw [hdL_len]
        go_wp2_with fail
        go_region_law (first
          | (go_simp; go_at_call 43; refine (SO _).out.mono ?_; rintro e v5 ⟨rfl, rfl⟩; dsimp only)
          | (refine step_i64 base _ (by rfl) _ _ 67 (by rfl) 2 Tryd.underlying67 Tryd.infoI64 _ (hdL s (j + 1)) y (by rfl) O6.out Z6.out wr.heap.size X6.out (by rfl) Y6.out ?_; intro g7 c7 w7 hO7 hg7 hf7; have B7 := T6.out.blk.far hg7 T6.out.blk.lt NR.out; have y1 := B7.cell 1 _ rfl; have y2 := B7.free 1))
        all_goals
          have hO8 : OwnNums w7 base 2 .i64 (.slice (some ⟨g7, 0, none⟩) (j + 1 + 1) c7) (hdL s (j + 1) ++ [hd s (j + 1)]) := by rw [ey.out, ← ll]; exact hO7
          obtain ⟨T8, S8⟩ := T6.out.putH g7 c7 (by omega) hO8 hg7 hf7
          have HT8 := hid T8
          have HS8 : Hid (Step (Mine R (.slice a0 0 cap0) pv) w (Mine R (.slice (some ⟨g7, 0, none⟩) (j + 1 + 1) c7) pv) (w7.setCell ⟨R, 1, none⟩ (.slice (some ⟨g7, 0, none⟩) (j + 1 + 1) c7))) := (HS.out.trans (Step.of_below (((Below.refl _ _).alloc (Nat.le_refl _) _).drew))).trans S8
          have m8 : Hid (j < k) := hle
          clear T8 S8 hO7 hO8 hg7 hf7 B7 y1 y2 T6 O6 Z6 X6 k6 HS HT cj k2 f2
        all_goals go_wp2
        all_goals
          go_roundw
          case rel => exact ⟨.slice (some ⟨g7, 0, none⟩) (j + 1 + 1) c7, j + 1 + 1, by omega, by rw [show ((j + 1 + 1 : Nat) : Int) - 1 = (j : Int) + 1 by omega], HT8.out, HS8.out⟩
          case measure => have := m8.out; simp [intOf]; omega
      · have d0 : decide ((j : Int) < (k : Int)) = false := by simp; omega
        go_wp2
        go_end0
        exact ⟨rfl, _, _, HT.out, by omega, HS.out⟩

  · rcases HT0.out.hh.shape with ⟨q, q2⟩ | ⟨g0, cap0, hpv, hcap0⟩
    · rw [hdL_len] at q2; omega
    rw [hdL_len] at hpv hcap0
    subst hpv
    have k2 := HT0.out.blk.cell 1 _ rfl
    have d1 : ((n : Int) == 0) = false := by simp; omega
    have wn : IntKind.i64.wrap ((n : Int) - 1) = (n : Int) - 1 := by have := HT0.out.hn; simp [IntKind.wrap, IntKind.bits, IntKind.signed]; omega
    go_enter Tryd.func61, Tryd.ntmps61
    go_wp2_with fail
    go_loopw [6] (fun i wr => ∃ (hv' : Value) (n' : Nat), 0 < n' ∧ i = .int .i64 ((n' : Int) - 1) ∧ Tbl base R s wr hv' pv n' m ∧ Step (Mine R (.slice (some ⟨g0, 0, none⟩) n cap0) pv) w (Mine R hv' pv) wr) (fun i _ => k + 1 - (intOf i).toNat)
    case atStart => exact ⟨_, n, hn, rfl, HT0.out, Step.refl _ _⟩
    case round =>
      obtain ⟨hv', n', hn0, rfl, hT, hS⟩ := hrel
      have HT := hid hT
      have HS := hid hS
      clear hT hS
      rcases HT.out.hh.shape with ⟨q, q2⟩ | ⟨g, cap, hpv, hcap⟩
      · rw [hdL_len] at q2; omega
      rw [hdL_len] at hpv hcap
      subst hpv
      obtain ⟨j, rfl⟩ : ∃ j, n' = j + 1 := ⟨n' - 1, by omega⟩
      rw [show ((j + 1 : Nat) : Int) - 1 = (j : Int) by omega]
      have k2 := HT.out.blk.cell 1 _ rfl
      have f2 := HT.out.blk.free 1
      by_cases hle : j < k
      · have d0 : decide ((j : Int) < (k : Int)) = true := by simp; omega
        have cj : wr.cell? ⟨g, j, none⟩ = some (.int .i64 (hd s j)) := by
          have := HT.out.hh.at j (by rw [hdL_len]; omega)
          rw [this]; simp [hdL]
        have bj := hd_bd s j
        have hjs : j < s.size := by omega
        have ey : Hid (hd s (j + 1) = sumL (hd s j) (s.extract j (j + 1)).data.toList) := by show _ = _; rw [hd_step s j hjs, ex_one s j hjs]; rfl
        have SO := fun w => hid (isumOn (hd s j) (s.extract j (j + 1)) bj.1 (by omega) (by rw [ex_size s _ _ (by omega)]; omega) w)
        have hsl : ∀ wx, (Instr.slice 9 (.string s) (some (.int .i64 (j : Int))) (some (.int .i64 ((j : Int) + 1))) none).run Tryd.prog wx = .ok (.string (s.extract j (j + 1))) wx := by
          intro wx
          rw [run_slice_string_if _ _ _ _ _ _ _ Tryd.underlying9, if_pos (by omega), if_pos (by omega)]
          rw [show ((j : Int) + 1).toNat = j + 1 by omega, Int.toNat_natCast]
        obtain ⟨x, hx⟩ : ∃ x, x = hd s j := ⟨_, rfl⟩
        obtain ⟨c1, hc1⟩ : ∃ c, c = s.extract j (j + 1) := ⟨_, rfl⟩
        rw [← hc1] at ey SO hsl
        rw [← hx] at cj ey SO
        obtain ⟨y, hy⟩ : ∃ y, y = sumL x c1.data.toList := ⟨_, rfl⟩
        rw [← hy] at ey SO
        have wj : IntKind.i64.wrap ((j : Int) + 1) = (j : Int) + 1 := by simp [IntKind.wrap, IntKind.bits, IntKind.signed]; omega
        have jj0 : (0 : Int) ≤ (j : Int) := by omega
        have jj1 : (j : Int) < (j : Int) + 1 := by omega
        clear hx hc1 hy bj
        have T6 := hid ((HT.out.alloc (.cells #[.int .i64 y] 2)).drew)
        have O6 := hid T6.out.hh
        have Z6 := hid T6.out.bs
        have X6 : Hid (RowAt (wr.alloc (.cells #[.int .i64 y] 2)).drew wr.heap.size 2 #[.int .i64 y]) := (RowAt.new wr _ _).drew
        have k6 := T6.out.blk.cell 1 _ rfl
        have Y6 : Hid ((hdL s (j + 1)).length + 1 ≤ 17592186044414) := by show _ ≤ _; rw [hdL_len]; omega
        have NR : Hid (some R ≠ (Value.slice (some ⟨g, 0, none⟩) (j + 1) cap).ownBlock) := fun q => HT.out.hh.ne' (Or.inl HT.out.lo) q.symm
        have ll : (hdL s (j + 1)).length + 1 = j + 1 + 1 := by rw [hdL_len]
        go_wp2_with fail
        go_region_law (first
          | (go_simp; go_at_call 43; refine (SO _).out.mono ?_; rintro e v5 ⟨rfl, rfl⟩; dsimp only)
          | (refine step_i64 base _ (by rfl) _ _ 67 (by rfl) 2 Tryd.underlying67 Tryd.infoI64 _ (hdL s (j + 1)) y (by rfl) O6.out Z6.out wr.heap.size X6.out (by rfl) Y6.out ?_; intro g7 c7 w7 hO7 hg7 hf7; have B7 := T6.out.blk.far hg7 T6.out.blk.lt NR.out; have y1 := B7.cell 1 _ rfl; have y2 := B7.free 1))
        all_goals
          have hO8 : OwnNums w7 base 2 .i64 (.slice (some ⟨g7, 0, none⟩) (j + 1 + 1) c7) (hdL s (j + 1) ++ [hd s (j + 1)]) := by rw [ey.out, ← ll]; exact hO7
          obtain ⟨T8, S8⟩ := T6.out.putH g7 c7 (by omega) hO8 hg7 hf7
          have HT8 := hid T8
          have HS8 : Hid (Step (Mine R (.slice (some ⟨g0, 0, none⟩) n cap0) pv) w (Mine R (.slice (some ⟨g7, 0, none⟩) (j + 1 + 1) c7) pv) (w7.setCell ⟨R, 1, none⟩ (.slice (some ⟨g7, 0, none⟩) (j + 1 + 1) c7))) := (HS.out.trans (Step.of_below (((Below.refl _ _).alloc (Nat.le_refl _) _).drew))).trans S8
          have m8 : Hid (j < k) := hle
          clear T8 S8 hO7 hO8 hg7 hf7 B7 y1 y2 T6 O6 Z6 X6 k6 HS HT cj k2 f2
        all_goals go_wp2
        all_goals
          go_roundw
          case rel => exact ⟨.slice (some ⟨g7, 0, none⟩) (j + 1 + 1) c7, j + 1 + 1, by omega, by rw [show ((j + 1 + 1 : Nat) : Int) - 1 = (j : Int) + 1 by omega], HT8.out, HS8.out⟩
          case measure => have := m8.out; simp [intOf]; omega
      · have d0 : decide ((j : Int) < (k : Int)) = false := by simp; omega
        go_wp2
        go_end0
        exact ⟨rfl, _, _, HT.out, by omega, HS.out⟩

end Go.Proofs.YtefnoeaehglihaaDoor
