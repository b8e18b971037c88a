import Derived.Test.YtefnoeaehglihaaDoorTbl
import Derived.Deep.RegionLaw
import Derived.Deep.CutRange
namespace Go.Proofs.YtefnoeaehglihaaDoor
open Go.RowKit
/-! The program's sumTable: power, reach, of. -/
theorem Tryd.infoI64 : (Tryd.prog.info? 2).map (fun i => (i.zero, i.size, i.bytes)) = some (some (.int .i64 0), 1, 8) := by kernel_rfl
theorem append_i64 {P : Program} (base : Nat) (w : World) {ops : Array Oper} {rest : List Oper} {o : Oper} {a : Act} {Q : Exit → Act → World → Prop} (hgd : o.guard = none) (s x : Operand) (t : TypeId)
    (ho : o.op = .call { callee := .builtin .append, args := #[s, x], argTypes := #[t, t] })
    (e : TypeId) (ht : P.underlying t = some (.slice e)) (hinfo : (P.info? e).map (fun i => (i.zero, i.size, i.bytes)) = some (some (.int .i64 0), 1, 8))
    (v : Value) (xs : List Int) (y : Int) (hs : a.eval s = v) (hown : OwnNums w base e .i64 v xs) (hsz : base ≤ w.heap.size)
    (b : Nat) (hbox : RowAt w b e #[.int .i64 y]) (hx : a.eval x = .slice (some ⟨b, 0, none⟩) 1 1) (hlen : xs.length + 1 ≤ 17592186044414)
    (h : ∀ g cap w', OwnNums w' base e .i64 (.slice (some ⟨g, 0, none⟩) (xs.length + 1) cap) (xs ++ [y]) → w.grownBy w' v.ownBlock → (v.ownBlock = some g ∨ g = w.heap.size) → wpList P ops Q rest (a.put o.dst (.slice (some ⟨g, 0, none⟩) (xs.length + 1) cap)) w') :
    wpList P ops Q (o :: rest) a w := by
  obtain ⟨i0, hi, hz0, hz1, hz2⟩ := info_parts hinfo
  refine wpList_append_lies _ hgd s x t ho base e i0 (.int .i64 0) 1 8 ht hi hz0 hz1 hz2 rfl (by decide) v xs.length _ hs hown ⟨b, 0, none⟩ 1 1 [.int .i64 y] hx rfl ?_ ?_ (by decide) ?_ ?_ hsz w.heap.size rfl ?_
  · have := World.news_of_block (show w.heap[b]? = some (.cells #[.int .i64 y] e (0, 0)) from hbox); simpa using this
  · intro u hu; simp at hu; subst hu; rfl
  · unfold maxLen; omega
  · omega
  · intro g cap w' h1 h2 h3 h4
    exact h g cap w' (by simpa [OwnNums] using h1) h2 h3
theorem step_i64 {P : Program} (base : Nat) (w : World) {ops : Array Oper} {o : Oper} {a : Act} {K : Act → World → Prop} {Q : Exit → Act → World → Prop} {E : Prop} (hgd : o.guard = none) (s x : Operand) (t : TypeId)
    (ho : o.op = .call { callee := .builtin .append, args := #[s, x], argTypes := #[t, t] })
    (e : TypeId) (ht : P.underlying t = some (.slice e)) (hinfo : (P.info? e).map (fun i => (i.zero, i.size, i.bytes)) = some (some (.int .i64 0), 1, 8))
    (v : Value) (xs : List Int) (y : Int) (hs : a.eval s = v) (hown : OwnNums w base e .i64 v xs) (hsz : base ≤ w.heap.size)
    (b : Nat) (hbox : RowAt w b e #[.int .i64 y]) (hx : a.eval x = .slice (some ⟨b, 0, none⟩) 1 1) (hlen : xs.length + 1 ≤ 17592186044414)
    (h : ∀ g cap w', OwnNums w' base e .i64 (.slice (some ⟨g, 0, none⟩) (xs.length + 1) cap) (xs ++ [y]) → w.grownBy w' v.ownBlock → (v.ownBlock = some g ∨ g = w.heap.size) → K (a.put o.dst (.slice (some ⟨g, 0, none⟩) (xs.length + 1) cap)) w') :
    if Region.wanted o (yielded ops a.tmps) = true then Oper.wp P o a w K Q else E := by
  obtain ⟨i0, hi, hz0, hz1, hz2⟩ := info_parts hinfo
  refine step_append_lies _ hgd s x t ho base e i0 (.int .i64 0) 1 8 ht hi hz0 hz1 hz2 rfl (by decide) v xs.length _ hs hown ⟨b, 0, none⟩ 1 1 [.int .i64 y] hx rfl ?_ ?_ (by decide) ?_ ?_ hsz w.heap.size rfl ?_
  · have := World.news_of_block (show w.heap[b]? = some (.cells #[.int .i64 y] e (0, 0)) from hbox); simpa using this
  · intro u hu; simp at hu; subst hu; rfl
  · unfold maxLen; omega
  · omega
  · intro g cap w' h1 h2 h3 h4
    exact h g cap w' (by simpa [OwnNums] using h1) h2 h3
set_option maxRecDepth 20000 in
set_option maxHeartbeats 4000000 in
theorem power_all (base R : Nat) (s : ByteArray) (k : Nat) (hk : k ≤ s.size) (hs : s.size ≤ 1048576) (hv pv : Value) (n m : Nat) (w : World) (T : Tbl base R s w hv pv n m) :
    Calls Tryd.prog 62 #[.pointer (some ⟨R, 1, none⟩), .int .i64 (k : Nat)] w fun e w' => e = .returned (.int .i64 (pw k)) ∧ ∃ pv' m', Tbl base R s w' hv pv' n m' ∧ Step (Mine R hv pv) w (Mine R hv pv') w' := by
  have HT0 := hid T
  clear T
  rcases Nat.eq_zero_or_pos m with hm | hm
  · subst hm
    have k2 := HT0.out.blk.cell 2 _ rfl
    have f2 := HT0.out.blk.free 2
    obtain ⟨a0, cap0, hpv⟩ : ∃ a0 cap0, pv = .slice a0 0 cap0 := by
      rcases HT0.out.hp.shape with ⟨q, q2⟩ | ⟨g0, cap0, hpv, hcap0⟩
      · exact ⟨_, _, q⟩
      · exact ⟨_, _, hpv⟩
    subst hpv
    have T1 := hid (HT0.out.alloc (.cells #[.int .i64 1] 2))
    have O1 := hid T1.out.hp
    have Z1 := hid T1.out.bs
    have X1 : Hid (RowAt (w.alloc (.cells #[.int .i64 1] 2)) w.heap.size 2 #[.int .i64 1]) := RowAt.new w _ _
    have NR : Hid (some R ≠ (Value.slice a0 0 cap0).ownBlock) := fun q => HT0.out.hp.ne' (Or.inl HT0.out.lo) q.symm
    go_enter Tryd.func62, Tryd.ntmps62
    go_wp2_with (first | (at_builtin; (refine append_i64 base _ rfl (.tmp 15) (.tmp 16) 67 rfl 2 Tryd.underlying67 Tryd.infoI64 _ (pwL 0) 1 rfl O1.out Z1.out w.heap.size X1.out rfl (by decide) ?_; intro g7 c7 w7 hO7 hg7 hf7; have B7 := T1.out.blk.far hg7 T1.out.blk.lt NR.out; have y1 := B7.cell 2 _ rfl; have y2 := B7.free 2)) | go_in)
    obtain ⟨T8, S8⟩ := T1.out.putP g7 c7 (by omega) hO7 hg7 hf7
    have HT8 := hid T8
    have HS8 : Hid (Step (Mine R hv (.slice a0 0 cap0)) w (Mine R hv (.slice (some ⟨g7, 0, none⟩) (0 + 1) c7)) (w7.setCell ⟨R, 2, none⟩ (.slice (some ⟨g7, 0, none⟩) (0 + 1) c7))) := (Step.of_below ((Below.refl _ _).alloc (Nat.le_refl _) _)).trans S8
    clear T8 S8 hO7 hg7 hf7 B7 y1 y2 T1 O1 Z1 X1 NR k2 f2
    go_loopw [] (fun wr => ∃ pv' m', 0 < m' ∧ Tbl base R s wr hv pv' n m' ∧ Step (Mine R hv (.slice a0 0 cap0)) w (Mine R hv pv') wr) (fun wr => match wr.cell? ⟨R, 2, none⟩ with | some (.slice _ l _) => k + 1 - l | _ => 0)
    case atStart => exact ⟨_, 0 + 1, by decide, HT8.out, HS8.out⟩
    case round =>
      obtain ⟨pv', m', hm0, hT, hS⟩ := hrel
      have HT := hid hT
      have HS := hid hS
      clear hT hS
      rcases HT.out.hp.shape with ⟨q, q2⟩ | ⟨g, cap, hpv, hcap⟩
      · rw [pwL_len] at q2; omega
      rw [pwL_len] at hpv hcap
      subst hpv
      have k2 := HT.out.blk.cell 2 _ rfl
      have f2 := HT.out.blk.free 2
      by_cases hle : m' ≤ k
      · have d0 : decide ((m' : Int) ≤ (k : Int)) = true := by simp; omega
        obtain ⟨j, rfl⟩ : ∃ j, m' = j + 1 := ⟨m' - 1, by omega⟩
        have hmx := HT.out.hm
        have cj : wr.cell? ⟨g, j, none⟩ = some (.int .i64 (pw j)) := by
          have := HT.out.hp.at j (by rw [pwL_len]; omega)
          rw [this]; simp [pwL]
        have e0 : ((j + 1 : Nat) : Int) - 1 = (j : Int) := by omega
        have wj : IntKind.i64.wrap (j : Int) = (j : Int) := by simp [IntKind.wrap, IntKind.bits, IntKind.signed]; omega
        have jj0 : (0 : Int) ≤ (j : Int) := by omega
        have jj1 : (j : Int) < (j : Int) + 1 := by omega
        have bj := pw_bd j
        have ey : Hid (pw (j + 1) = pw j * 65539 % 2147483647) := rfl
        obtain ⟨x, hx⟩ : ∃ x, x = pw j := ⟨_, rfl⟩
        rw [← hx] at cj bj ey
        obtain ⟨b0, b1⟩ := bj
        clear hx
        have wx : IntKind.i64.wrap (x * 65539) = x * 65539 := by simp [IntKind.wrap, IntKind.bits, IntKind.signed]; omega
        have tm : (x * 65539).tmod 2147483647 = x * 65539 % 2147483647 := Int.tmod_eq_emod_of_nonneg (by omega)
        have T6 := hid ((HT.out.alloc (.cells #[.int .i64 (x * 65539 % 2147483647)] 2)).drew)
        have O6 := hid T6.out.hp
        have Z6 := hid T6.out.bs
        have X6 : Hid (RowAt (wr.alloc (.cells #[.int .i64 (x * 65539 % 2147483647)] 2)).drew wr.heap.size 2 #[.int .i64 (x * 65539 % 2147483647)]) := (RowAt.new wr _ _).drew
        have k6 := T6.out.blk.cell 2 _ rfl
        have Y6 : Hid ((pwL (j + 1)).length + 1 ≤ 17592186044414) := by show _ ≤ _; rw [pwL_len]; omega
        have NR : Hid (some R ≠ (Value.slice (some ⟨g, 0, none⟩) (j + 1) cap).ownBlock) := fun q => HT.out.hp.ne' (Or.inl HT.out.lo) q.symm
        have ll : (pwL (j + 1)).length + 1 = j + 1 + 1 := by rw [pwL_len]
        go_wp2_with fail
        go_region_law (refine step_i64 base _ (by rfl) _ _ 67 (by rfl) 2 Tryd.underlying67 Tryd.infoI64 _ (pwL (j + 1)) (x * 65539 % 2147483647) (by rfl) O6.out Z6.out wr.heap.size X6.out (by rfl) Y6.out ?_; intro g7 c7 w7 hO7 hg7 hf7; have B7 := T6.out.blk.far hg7 T6.out.blk.lt NR.out; have y1 := B7.cell 2 _ rfl; have y2 := B7.free 2)
        all_goals
          have hO8 : OwnNums w7 base 2 .i64 (.slice (some ⟨g7, 0, none⟩) (j + 1 + 1) c7) (pwL (j + 1) ++ [pw (j + 1)]) := by rw [ey.out, ← ll]; exact hO7
          obtain ⟨T8, S8⟩ := T6.out.putP g7 c7 (by omega) hO8 hg7 hf7
          have HT8 := hid T8
          have HS8 : Hid (Step (Mine R hv (.slice a0 0 cap0)) w (Mine R hv (.slice (some ⟨g7, 0, none⟩) (j + 1 + 1) c7)) (w7.setCell ⟨R, 2, none⟩ (.slice (some ⟨g7, 0, none⟩) (j + 1 + 1) c7))) := (HS.out.trans (Step.of_below (((Below.refl _ _).alloc (Nat.le_refl _) _).drew))).trans S8
          have k8 : Hid ((w7.setCell ⟨R, 2, none⟩ (.slice (some ⟨g7, 0, none⟩) (j + 1 + 1) c7)).cell? ⟨R, 2, none⟩ = some (.slice (some ⟨g7, 0, none⟩) (j + 1 + 1) c7)) := HT8.out.blk.cell 2 _ rfl
          have k9 : Hid (wr.cell? ⟨R, 2, none⟩ = some (.slice (some ⟨g, 0, none⟩) (j + 1) cap)) := HT.out.blk.cell 2 _ rfl
          have m8 : Hid (j + 1 ≤ k) := hle
          clear T8 S8 hO7 hO8 hg7 hf7 B7 y1 y2 T6 O6 Z6 X6 k6 HS HT cj k2 f2
        all_goals go_wp2
        all_goals
          go_roundw
          case rel => exact ⟨.slice (some ⟨g7, 0, none⟩) (j + 1 + 1) c7, j + 1 + 1, by omega, HT8.out, HS8.out⟩
          case measure => rw [k8.out, k9.out]; have := m8.out; show k + 1 - (j + 1 + 1) < k + 1 - (j + 1); omega
      · have d0 : decide ((m' : Int) ≤ (k : Int)) = false := by simp; omega
        have ck : wr.cell? ⟨g, k, none⟩ = some (.int .i64 (pw k)) := by
          have := HT.out.hp.at k (by rw [pwL_len]; omega)
          rw [this]; simp [pwL, show k < m' by omega]
        have i1 : (k : Int) < (m' : Int) := by omega
        have i0 : (0 : Int) ≤ (k : Int) := by omega
        go_wp2
        go_ret
        exact ⟨rfl, _, _, HT.out, HS.out⟩

  · rcases HT0.out.hp.shape with ⟨q, q2⟩ | ⟨g0, cap0, hpv, hcap0⟩
    · rw [pwL_len] at q2; omega
    rw [pwL_len] at hpv hcap0
    subst hpv
    have k2 := HT0.out.blk.cell 2 _ rfl
    have d1 : ((m : Int) == 0) = false := by simp; omega
    go_enter Tryd.func62, Tryd.ntmps62
    go_wp2_with fail
    go_loopw [] (fun wr => ∃ pv' m', 0 < m' ∧ Tbl base R s wr hv pv' n m' ∧ Step (Mine R hv (.slice (some ⟨g0, 0, none⟩) m cap0)) w (Mine R hv pv') wr) (fun wr => match wr.cell? ⟨R, 2, none⟩ with | some (.slice _ l _) => k + 1 - l | _ => 0)
    case atStart => exact ⟨_, m, hm, HT0.out, Step.refl _ _⟩
    case round =>
      obtain ⟨pv', m', hm0, hT, hS⟩ := hrel
      have HT := hid hT
      have HS := hid hS
      clear hT hS
      rcases HT.out.hp.shape with ⟨q, q2⟩ | ⟨g, cap, hpv, hcap⟩
      · rw [pwL_len] at q2; omega
      rw [pwL_len] at hpv hcap
      subst hpv
      have k2 := HT.out.blk.cell 2 _ rfl
      have f2 := HT.out.blk.free 2
      by_cases hle : m' ≤ k
      · have d0 : decide ((m' : Int) ≤ (k : Int)) = true := by simp; omega
        obtain ⟨j, rfl⟩ : ∃ j, m' = j + 1 := ⟨m' - 1, by omega⟩
        have hmx := HT.out.hm
        have cj : wr.cell? ⟨g, j, none⟩ = some (.int .i64 (pw j)) := by
          have := HT.out.hp.at j (by rw [pwL_len]; omega)
          rw [this]; simp [pwL]
        have e0 : ((j + 1 : Nat) : Int) - 1 = (j : Int) := by omega
        have wj : IntKind.i64.wrap (j : Int) = (j : Int) := by simp [IntKind.wrap, IntKind.bits, IntKind.signed]; omega
        have jj0 : (0 : Int) ≤ (j : Int) := by omega
        have jj1 : (j : Int) < (j : Int) + 1 := by omega
        have bj := pw_bd j
        have ey : Hid (pw (j + 1) = pw j * 65539 % 2147483647) := rfl
        obtain ⟨x, hx⟩ : ∃ x, x = pw j := ⟨_, rfl⟩
        rw [← hx] at cj bj ey
        obtain ⟨b0, b1⟩ := bj
        clear hx
        have wx : IntKind.i64.wrap (x * 65539) = x * 65539 := by simp [IntKind.wrap, IntKind.bits, IntKind.signed]; omega
        have tm : (x * 65539).tmod 2147483647 = x * 65539 % 2147483647 := Int.tmod_eq_emod_of_nonneg (by omega)
        have T6 := hid ((HT.out.alloc (.cells #[.int .i64 (x * 65539 % 2147483647)] 2)).drew)
        have O6 := hid T6.out.hp
        have Z6 := hid T6.out.bs
        have X6 : Hid (RowAt (wr.alloc (.cells #[.int .i64 (x * 65539 % 2147483647)] 2)).drew wr.heap.size 2 #[.int .i64 (x * 65539 % 2147483647)]) := (RowAt.new wr _ _).drew
        have k6 := T6.out.blk.cell 2 _ rfl
        have Y6 : Hid ((pwL (j + 1)).length + 1 ≤ 17592186044414) := by show _ ≤ _; rw [pwL_len]; omega
        have NR : Hid (some R ≠ (Value.slice (some ⟨g, 0, none⟩) (j + 1) cap).ownBlock) := fun q => HT.out.hp.ne' (Or.inl HT.out.lo) q.symm
        have ll : (pwL (j + 1)).length + 1 = j + 1 + 1 := by rw [pwL_len]
        go_wp2_with fail
        go_region_law (refine step_i64 base _ (by rfl) _ _ 67 (by rfl) 2 Tryd.underlying67 Tryd.infoI64 _ (pwL (j + 1)) (x * 65539 % 2147483647) (by rfl) O6.out Z6.out wr.heap.size X6.out (by rfl) Y6.out ?_; intro g7 c7 w7 hO7 hg7 hf7; have B7 := T6.out.blk.far hg7 T6.out.blk.lt NR.out; have y1 := B7.cell 2 _ rfl; have y2 := B7.free 2)
        all_goals
          have hO8 : OwnNums w7 base 2 .i64 (.slice (some ⟨g7, 0, none⟩) (j + 1 + 1) c7) (pwL (j + 1) ++ [pw (j + 1)]) := by rw [ey.out, ← ll]; exact hO7
          obtain ⟨T8, S8⟩ := T6.out.putP g7 c7 (by omega) hO8 hg7 hf7
          have HT8 := hid T8
          have HS8 : Hid (Step (Mine R hv (.slice (some ⟨g0, 0, none⟩) m cap0)) w (Mine R hv (.slice (some ⟨g7, 0, none⟩) (j + 1 + 1) c7)) (w7.setCell ⟨R, 2, none⟩ (.slice (some ⟨g7, 0, none⟩) (j + 1 + 1) c7))) := (HS.out.trans (Step.of_below (((Below.refl _ _).alloc (Nat.le_refl _) _).drew))).trans S8
          have k8 : Hid ((w7.setCell ⟨R, 2, none⟩ (.slice (some ⟨g7, 0, none⟩) (j + 1 + 1) c7)).cell? ⟨R, 2, none⟩ = some (.slice (some ⟨g7, 0, none⟩) (j + 1 + 1) c7)) := HT8.out.blk.cell 2 _ rfl
          have k9 : Hid (wr.cell? ⟨R, 2, none⟩ = some (.slice (some ⟨g, 0, none⟩) (j + 1) cap)) := HT.out.blk.cell 2 _ rfl
          have m8 : Hid (j + 1 ≤ k) := hle
          clear T8 S8 hO7 hO8 hg7 hf7 B7 y1 y2 T6 O6 Z6 X6 k6 HS HT cj k2 f2
        all_goals go_wp2
        all_goals
          go_roundw
          case rel => exact ⟨.slice (some ⟨g7, 0, none⟩) (j + 1 + 1) c7, j + 1 + 1, by omega, HT8.out, HS8.out⟩
          case measure => rw [k8.out, k9.out]; have := m8.out; show k + 1 - (j + 1 + 1) < k + 1 - (j + 1); omega
      · have d0 : decide ((m' : Int) ≤ (k : Int)) = false := by simp; omega
        have ck : wr.cell? ⟨g, k, none⟩ = some (.int .i64 (pw k)) := by
          have := HT.out.hp.at k (by rw [pwL_len]; omega)
          rw [this]; simp [pwL, show k < m' by omega]
        have i1 : (k : Int) < (m' : Int) := by omega
        have i0 : (0 : Int) ≤ (k : Int) := by omega
        go_wp2
        go_ret
        exact ⟨rfl, _, _, HT.out, HS.out⟩

end Go.Proofs.YtefnoeaehglihaaDoor
