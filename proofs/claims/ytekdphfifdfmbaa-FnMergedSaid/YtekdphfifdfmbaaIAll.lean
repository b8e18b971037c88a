import Derived.Test.YtekdphfifdfmbaaTabM
import Derived.Test.YtekdphfifdfmbaaLawTab
import Derived.Deep.RegionHeld3
import Derived.Deep.AppendLies
import Derived.Deep.Onto
namespace Go.Proofs.Ytekdphfifdfmbaa
open Go.RowKit
/-! The program's allRuns: slices.Clone at runs. -/
def rnV (r : Rn) : Value := .slice r.ad r.n r.cap
/-- runs that the call owns -/
def OwnRn (w : World) (base : Nat) (v : Value) (L : List Rn) : Prop := w.ownsRow base 28 1 v L.length (L.map rnV)
theorem OwnRn.nx {X w1 : World} {base : Nat} {v : Value} {L : List Rn} (hb : Below X.heap.size X w1) (h : OwnRn X base v L) : OwnRn w1 base v L :=
  World.ownsRow.kept h (below_grown hb none) (by cases v.ownBlock <;> simp)
def rnL (R : Nat → Rn) (m : Nat) : List Rn := (List.range m).map R
theorem rnL_len (R : Nat → Rn) (m : Nat) : (rnL R m).length = m := by simp [rnL]
theorem rnV_one (L : List Rn) : ∀ u ∈ L.map rnV, u.oneCell' = true := by intro u hu; obtain ⟨r, _, rfl⟩ := List.mem_map.1 hu; rfl
/-- one run, in a box of its own, is appended to runs that the call owns, as a step of a region -/
theorem step_append_rn {P : Program} (base : Nat) (w : World) {ops : Array Oper} {o : Oper} {a : Act} {K : Act → World → Prop} {Q : Exit → Act → World → Prop} {E : Prop} (hgd : o.guard = none) (s x : Operand) (t : TypeId)
    (ho : o.op = .call { callee := .builtin .append, args := #[s, x], argTypes := #[t, t] })
    (e : TypeId) (ht : P.underlying t = some (.slice e)) (hinfo : (P.info? e).map (fun i => (i.zero, i.size, i.bytes)) = some (some (.agg #[.slice none 0 0]), 1, 24))
    (v : Value) (L : List Rn) (r : Rn) (hs : a.eval s = v) (hown : w.ownsRow base e 1 v L.length (L.map rnV)) (hsz : base ≤ w.heap.size)
    (b : Nat) (hbox : RowAt w b e #[rnV r]) (hx : a.eval x = .slice (some ⟨b, 0, none⟩) 1 1) (hlen : L.length + 1 ≤ 1048577)
    (h : ∀ g cap w', w'.ownsRow base e 1 (.slice (some ⟨g, 0, none⟩) (L.length + 1) cap) (L ++ [r]).length ((L ++ [r]).map rnV) → w.grownBy w' v.ownBlock → K (a.put o.dst (.slice (some ⟨g, 0, none⟩) (L.length + 1) cap)) w') :
    if Region.wanted o (yielded ops a.tmps) = true then Oper.wp P o a w K Q else E := by
  obtain ⟨i0, hi, hz0, hz1, hz2⟩ := info_parts hinfo
  refine step_append_lies _ hgd s x t ho base e i0 (.agg #[.slice none 0 0]) 1 24 ht hi hz0 hz1 hz2 rfl (by decide) v L.length _ hs hown ⟨b, 0, none⟩ 1 1 [rnV r] hx rfl ?_ ?_ (by decide) ?_ ?_ hsz w.heap.size rfl ?_
  · have := World.news_of_block (show w.heap[b]? = some (.cells #[rnV r] e (0, 0)) from hbox); simpa using this
  · intro u hu; simp at hu; subst hu; rfl
  · unfold maxLen; omega
  · omega
  · intro g cap w' h1 h2 h3 h4
    exact h g cap w' (by simpa using h1) h2
set_option maxRecDepth 20000 in
set_option maxHeartbeats 2000000 in
theorem iCloneR (g m cap : Nat) (R : Nat → Rn) (hm : m ≤ 1048576) (w : World) (hg : g < w.heap.size) (h : ∀ k, k < m → w.cell? ⟨g, k, none⟩ = some (rnV (R k))) :
    Calls Try.prog 66 #[.slice (some ⟨g, 0, none⟩) m cap] w fun e w' => ∃ v, e = .returned v ∧ OwnRn w' w.heap.size v (rnL R m) ∧ Below w.heap.size w w' := by
  obtain ⟨i0, hi, hz0, hz1, hz2⟩ := info_parts Try.infoRn
  have O0 : Hid ((w.alloc (.cells #[] 28)).ownsRow w.heap.size 28 1 (.slice (some ⟨w.heap.size, 0, none⟩) 0 0) 0 []) := World.ownsRow_made w #[] 0 (Nat.le_refl _) (by decide) rfl
  have B0 : Hid (Below w.heap.size w (w.alloc (.cells #[] 28))) := balEn (Below.refl _ _) _
  have N0 : Hid (∀ (j : Nat) (u : Value), ((rnL R m).map rnV)[j]? = some u → (w.alloc (.cells #[] 28)).cell? ((⟨g, 0, none⟩ : Addr).add j) = some u) := fun j u hj => by
    have hjl : j < m := by
      rcases Nat.lt_or_ge j m with h1 | h1
      · exact h1
      · rw [List.getElem?_eq_none (by simp [rnL_len]; exact h1)] at hj; cases hj
    have hadd : (⟨g, 0, none⟩ : Addr).add j = ⟨g, j, none⟩ := by unfold Addr.add; split <;> simp_all
    rw [hadd, B0.out.cell (p := ⟨g, j, none⟩) hg, h j hjl]
    simpa [rnL, hjl] using hj
  have L0 : Hid (((rnL R m).map rnV).length = m * 1) := by show _ = _; simp [rnL_len]
  have S0 : Hid (w.heap.size ≤ (w.alloc (.cells #[] 28)).heap.size) := by show _ ≤ _; rw [size_al]; omega
  have M0 : Hid (0 + m ≤ maxLen ∧ (0 + m) * 24 ≤ 140737488355328) := by constructor; (unfold maxLen; omega); omega
  have hnil : ∀ w : World, (binOp .eql 23 (.slice (some ⟨g, 0, none⟩) m cap) (.slice none 0 0)).run Try.prog w = .ok (.bool false) w := fun _ => rfl
  clear h
  go_enter Try.func66, Try.ntmps66
  go_wp2_with (refine wpList_append_own _ (by rfl) (.tmp 5) (.tmp 6) 23 (by rfl) w.heap.size 28 i0 (.agg #[.slice none 0 0]) 1 24 Try.underlying23 hi hz0 hz1 hz2 rfl (by decide) _ 0 [] (by rfl) O0.out ⟨g, 0, none⟩ m cap ((rnL R m).map rnV) (by rfl) L0.out N0.out (rnV_one _) M0.out.1 M0.out.2 S0.out ?_; intro v' w6 hown hgr hnn)
  go_ret
  refine ⟨_, rfl, ?_, B0.out.grown hgr S0.out fun k hk => (World.ownsRow.lt O0.out k hk).1⟩
  unfold OwnRn
  rw [rnL_len]
  simpa using hown
/-- the runs with one behind them -/
def snoc (R : Nat → Rn) (m : Nat) (r : Rn) (k : Nat) : Rn := if k < m then R k else r
theorem rnL_snoc (R : Nat → Rn) (m : Nat) (r : Rn) : rnL R m ++ [r] = rnL (snoc R m r) (m + 1) := by
  apply List.ext_getElem?
  intro j
  simp only [rnL]
  by_cases h : j < m
  · rw [List.getElem?_append_left (by simpa using h)]
    simp [h, show j < m + 1 by omega, snoc]
  · by_cases e : j = m
    · subst e; rw [List.getElem?_append_right (by simp)]; simp [snoc]
    · rw [List.getElem?_eq_none (by simp; omega), List.getElem?_eq_none (by simp; omega)]
set_option maxRecDepth 20000 in
set_option maxHeartbeats 4000000 in
theorem iAllRuns (g m cap : Nat) (R : Nat → Rn) (r : Rn) (hm : m ≤ 1048576) (w : World) (hg : g < w.heap.size) (h : ∀ k, k < m → w.cell? ⟨g, k, none⟩ = some (rnV (R k))) :
    Calls Try.prog 48 #[.slice (some ⟨g, 0, none⟩) m cap, .agg #[rnV r]] w fun e w' => ∃ v, e = .returned v ∧ OwnRn w' w.heap.size v (rnL (snoc R m r) (m + 1)) ∧ Below w.heap.size w w' := by
  obtain ⟨W0, hW0⟩ : ∃ W, W = w.alloc (.cells #[rnV r] 28) := ⟨_, rfl⟩
  have hJ : RowAt W0 w.heap.size 28 #[rnV r] := by rw [hW0]; exact RowAt.new _ _ _
  have B0 : Hid (Below w.heap.size w W0) := by rw [hW0]; exact balEn (Below.refl _ _) _
  have KC := fun wx (hb : Below w.heap.size w wx) => hid (iCloneR g m cap R hm wx (Nat.lt_of_lt_of_le hg hb.size) (fun k hk => (hb.cell (p := ⟨g, k, none⟩) hg).trans (h k hk)))
  have HLn : Hid ((rnL R m).length + 1 ≤ 1048577) := by show _ ≤ _; rw [rnL_len]; omega
  have HSn := hid (rnL_snoc R m r)
  have x0 := hJ.cell 0
  generalize rnL R m = L at KC HLn HSn
  generalize rnL (snoc R m r) (m + 1) = L2 at HSn ⊢
  clear h
  go_enter Try.func48, Try.ntmps48
  go_wp2_with fail
  rw [← hW0]
  clear hW0
  refine wp_region_held_drew (S := fun wx => wx.cell? ⟨w.heap.size, 0, none⟩ = some (rnV r)) (by kernel_rfl) ?_ (fun hHeld => ?_)
  · exact hJ.cell 0
  refine wpAnyH_take (i := 0) (oi := { dst := some 5, op := Op.move (Operand.tmp 0), type := 23, pos := "l08_runs.go:171", after := #[], guard := none }) (v := ?vc0) rfl (by kernel_rfl) (by kernel_rfl) (by kernel_rfl) (fun _ _ _ h => h) (Or.inl ⟨by rfl, ?hyc0⟩) hHeld ?restc0
  case hyc0 => (intro w hSw; (try dsimp only at hSw); go_simp; try with_reducible rfl)
  simp only [Act.put, List.setIfInBounds_toArray, List.set_cons_zero, List.set_cons_succ]
  refine wpAnyH_take (i := 2) (oi := { dst := some 7, op := Op.load 28 (Operand.tmp 3), type := 28, pos := "l08_runs.go:171", after := #[], guard := none }) (v := ?vc2) rfl (by kernel_rfl) (by kernel_rfl) (by kernel_rfl) (fun _ _ _ h => h) (Or.inl ⟨by rfl, ?hyc2⟩) hHeld ?restc2
  case hyc2 => (intro w hSw; (try dsimp only at hSw); go_simp; try with_reducible rfl)
  simp only [Act.put, List.setIfInBounds_toArray, List.set_cons_zero, List.set_cons_succ]
  refine wpAnyH_ready (rs := [1, 3]) (by kernel_rfl) (by simp) ?_
  refine AllReadyH.cons (o := { dst := some 6, op := Op.call { callee := Callee.value (Operand.func 66), args := #[Operand.tmp 5], argTypes := #[23] }, type := 23, pos := "l08_runs.go:171", after := #[{ on := 0, ground := Ground.data }], guard := none }) rfl (fun K hK => ?_) (AllReadyH.cons (o := { dst := some 8, op := Op.buildSlice 23 1 #[(0, Operand.tmp 7)], type := 23, pos := "l08_runs.go:171", after := #[{ on := 2, ground := Ground.data }], guard := none }) rfl (fun K hK => ?_) AllReadyH.nil)
  · go_simp
    refine (KC _ B0.out.drew).out.mono ?_
    rintro e w1 ⟨v, rfl, hO, hb1⟩
    have hJ1 := RowAt.nx hb1 hJ.drew
    have BW : Hid (Below w.heap.size w w1) := B0.out.drew.trans (hb1.mono B0.out.size)
    have s1 : W0.heap.size ≤ w1.heap.size := hb1.size
    go_wp2_with fail
    refine hK.out _ _ ?_ (fun hHeld => ?_)
    · exact hJ1.cell 0
    clear hK K
    try simp only [Act.put, List.setIfInBounds_toArray, List.set_cons_zero, List.set_cons_succ]
    refine wpAnyH_ready (rs := [3]) (by kernel_rfl) (by simp) ?_
    refine AllReadyH.cons (o := { dst := some 8, op := Op.buildSlice 23 1 #[(0, Operand.tmp 7)], type := 23, pos := "l08_runs.go:171", after := #[{ on := 2, ground := Ground.data }], guard := none }) rfl (fun K hK => ?_) AllReadyH.nil
    go_simp
    refine hK.out _ _ ?_ (fun hHeld => ?_)
    · exact (hJ1.alloc _).cell 0
    clear hK K
    try simp only [Act.put, List.setIfInBounds_toArray, List.set_cons_zero, List.set_cons_succ]
    refine wpAnyH_ready (rs := [4]) (by kernel_rfl) (by simp) ?_
    refine AllReadyH.cons (o := { dst := some 9, op := Op.call { callee := Callee.builtin Builtin.append, args := #[Operand.tmp 6, Operand.tmp 8], argTypes := #[23, 23] }, type := 23, pos := "l08_runs.go:171", after := #[{ on := 1, ground := Ground.data }, { on := 3, ground := Ground.data }, { on := 1, ground := Ground.chain }], guard := none }) rfl (fun K hK => ?_) AllReadyH.nil
    refine step_append_rn W0.heap.size _ (by rfl) _ _ 23 (by rfl) 28 Try.underlying23 Try.infoRn _ L r (by rfl) (World.ownsRow.alloc hO _) (by rw [size_al]; omega) w1.heap.size (RowAt.new w1 _ _) (by rfl) HLn.out ?_
    intro g9 c9 w9 hO9 hg9
    have gne : ∀ k, v.ownBlock = some k → W0.heap.size ≤ k := fun k hk => (World.ownsRow.lt hO k hk).1
    have hJ9 : RowAt w9 w.heap.size 28 #[rnV r] := by
      refine (hg9.block w.heap.size (by rw [size_al]; have := hJ1.lt; omega) fun e => ?_).trans (hJ1.alloc _)
      have := gne _ e.symm
      have := hJ.lt
      omega
    refine hK.out _ _ ?_ (fun hHeld => ?_)
    · exact hJ9.cell 0
    clear hK K
    try simp only [Act.put, List.setIfInBounds_toArray, List.set_cons_zero, List.set_cons_succ]
    refine wpAnyH_take (i := 5) (oi := { dst := some 4, op := Op.assign (Operand.tmp 9), type := 23, pos := "l08_runs.go:171", after := #[{ on := 4, ground := Ground.data }, { on := 4, ground := Ground.chain }, { on := 0, ground := Ground.phase }, { on := 1, ground := Ground.phase }, { on := 2, ground := Ground.phase }, { on := 3, ground := Ground.phase }, { on := 4, ground := Ground.phase }], guard := none }) (v := ?va5) rfl (by kernel_rfl) (by kernel_rfl) (by kernel_rfl) (fun _ _ _ h => h) (Or.inl ⟨by rfl, ?hya5⟩) hHeld ?resta5
    case hya5 => (intro w hSw; (try dsimp only at hSw); go_simp; try with_reducible rfl)
    simp only [Act.put, List.setIfInBounds_toArray, List.set_cons_zero, List.set_cons_succ]
    refine wpAnyH_done (by kernel_rfl) ?_ _
    go_wp2
    go_ret
    refine ⟨_, rfl, ?_, (BW.out.alloc BW.out.size _).grown hg9 (by rw [size_al]; have := BW.out.size; omega) fun k hk => Nat.le_trans B0.out.size (gne k hk)⟩
    unfold OwnRn
    rw [← HSn.out]
    simpa using World.ownsRow.mono hO9 B0.out.size
  · go_simp
    refine hK.out _ _ ?_ (fun hHeld => ?_)
    · exact (hJ.alloc _).cell 0
    clear hK K
    try simp only [Act.put, List.setIfInBounds_toArray, List.set_cons_zero, List.set_cons_succ]
    refine wpAnyH_ready (rs := [1]) (by kernel_rfl) (by simp) ?_
    refine AllReadyH.cons (o := { dst := some 6, op := Op.call { callee := Callee.value (Operand.func 66), args := #[Operand.tmp 5], argTypes := #[23] }, type := 23, pos := "l08_runs.go:171", after := #[{ on := 0, ground := Ground.data }], guard := none }) rfl (fun K hK => ?_) AllReadyH.nil
    go_simp
    have BB : Below w.heap.size w (W0.alloc (.cells #[rnV r] 28)).drew := (B0.out.alloc B0.out.size _).drew
    refine (KC _ BB).out.mono ?_
    rintro e w1 ⟨v, rfl, hO, hb1⟩
    have hJ1 := RowAt.nx hb1 (hJ.alloc (.cells #[rnV r] 28)).drew
    have hX1 := RowAt.nx hb1 (RowAt.new W0 28 #[rnV r]).drew
    have BW : Hid (Below w.heap.size w w1) := BB.trans (hb1.mono BB.size)
    have s1 : W0.heap.size ≤ w1.heap.size := Nat.le_trans (by show _ ≤ (W0.alloc _).heap.size; rw [size_al]; omega) hb1.size
    have hO' := World.ownsRow.mono hO (show W0.heap.size ≤ (W0.alloc (.cells #[rnV r] 28)).drew.heap.size by show _ ≤ (W0.alloc _).heap.size; rw [size_al]; omega)
    go_wp2_with fail
    refine hK.out _ _ ?_ (fun hHeld => ?_)
    · exact hJ1.cell 0
    clear hK K
    try simp only [Act.put, List.setIfInBounds_toArray, List.set_cons_zero, List.set_cons_succ]
    refine wpAnyH_ready (rs := [4]) (by kernel_rfl) (by simp) ?_
    refine AllReadyH.cons (o := { dst := some 9, op := Op.call { callee := Callee.builtin Builtin.append, args := #[Operand.tmp 6, Operand.tmp 8], argTypes := #[23, 23] }, type := 23, pos := "l08_runs.go:171", after := #[{ on := 1, ground := Ground.data }, { on := 3, ground := Ground.data }, { on := 1, ground := Ground.chain }], guard := none }) rfl (fun K hK => ?_) AllReadyH.nil
    refine step_append_rn W0.heap.size _ (by rfl) _ _ 23 (by rfl) 28 Try.underlying23 Try.infoRn _ L r (by rfl) hO' s1 W0.heap.size hX1 (by rfl) HLn.out ?_
    intro g9 c9 w9 hO9 hg9
    have gne : ∀ k, v.ownBlock = some k → W0.heap.size ≤ k := fun k hk => (World.ownsRow.lt hO' k hk).1
    have hJ9 : RowAt w9 w.heap.size 28 #[rnV r] := by
      refine (hg9.block w.heap.size hJ1.lt fun e => ?_).trans hJ1
      have := gne _ e.symm
      have := hJ.lt
      omega
    refine hK.out _ _ ?_ (fun hHeld => ?_)
    · exact hJ9.cell 0
    clear hK K
    try simp only [Act.put, List.setIfInBounds_toArray, List.set_cons_zero, List.set_cons_succ]
    refine wpAnyH_take (i := 5) (oi := { dst := some 4, op := Op.assign (Operand.tmp 9), type := 23, pos := "l08_runs.go:171", after := #[{ on := 4, ground := Ground.data }, { on := 4, ground := Ground.chain }, { on := 0, ground := Ground.phase }, { on := 1, ground := Ground.phase }, { on := 2, ground := Ground.phase }, { on := 3, ground := Ground.phase }, { on := 4, ground := Ground.phase }], guard := none }) (v := ?vb5) rfl (by kernel_rfl) (by kernel_rfl) (by kernel_rfl) (fun _ _ _ h => h) (Or.inl ⟨by rfl, ?hyb5⟩) hHeld ?restb5
    case hyb5 => (intro w hSw; (try dsimp only at hSw); go_simp; try with_reducible rfl)
    simp only [Act.put, List.setIfInBounds_toArray, List.set_cons_zero, List.set_cons_succ]
    refine wpAnyH_done (by kernel_rfl) ?_ _
    go_wp2
    go_ret
    refine ⟨_, rfl, ?_, BW.out.grown hg9 BW.out.size fun k hk => Nat.le_trans B0.out.size (gne k hk)⟩
    unfold OwnRn
    rw [← HSn.out]
    simpa using World.ownsRow.mono hO9 B0.out.size
end Go.Proofs.Ytekdphfifdfmbaa
