import Derived.Test.YtkcjigelenofhaaGreatDoorG13
import Derived.BigQuiet
import Derived.Laws.StructEq
namespace Go.Proofs.YtkcjigelenofhaaGreatDoor
open Go.RowKit
set_option maxRecDepth 20000 in
set_option maxHeartbeats 2000000 in
theorem iCk1 (id sec x : ByteArray) (b : Nat) (v1 v2 v3 : Value) (w : World) (h : RowAt w b 72 #[.string x, v1, v2, v3]) :
 Calls Tryz.prog 56 #[.agg #[.string id, .string sec], .pointer (some ⟨b, 0, none⟩)] w fun e w' => e = .returned (.bool (pb (id = x))) ∧ Below w.heap.size w w' := by
 obtain ⟨W1, hW1⟩ : ∃ W, W = w.alloc (.cells #[.string id, .string sec] 27) := ⟨_, rfl⟩
 have R1 : RowAt W1 w.heap.size 27 #[.string id, .string sec] := by rw [hW1]; exact RowAt.new _ _ _
 have b1 : Below w.heap.size w W1 := by rw [hW1]; exact (Below.refl _ _).alloc (Nat.le_refl _) _
 have R2 := RowAt.nxS b1 h
 have y0 := R1.cell 0
 have y1 := R2.cell 0
 have HB := hid b1
 have HW := hid hW1
 have E : (id.toList == x.toList) = pb (id = x) := by
  rw [ba_beqS2]
  by_cases q : id = x
  · rw [pb_t q]; simp [q]
  · rw [pb_f q]; simp [q]
 obtain ⟨P, hP⟩ : ∃ P, P = pb (id = x) := ⟨_, rfl⟩
 rw [← hP] at E ⊢
 clear hP R1 R2 b1 h hW1
 go_enter Tryz.func56, Tryz.ntmps56
 go_upto_region 1 with fail
 rw [← HW.out]
 clear HW
 go_wp2
 go_ret
 exact ⟨rfl, HB.out⟩
set_option maxRecDepth 20000 in
set_option maxHeartbeats 2000000 in
theorem iIdxA (a : Option Addr) (n cap : Nat) (o : Nat → Ak) (hn : n ≤ 1048576) (x : ByteArray) (b : Nat) (v1 v2 v3 : Value) (w : World) (h : Aks w a n cap o) (hr : RowAt w b 72 #[.string x, v1, v2, v3]) :
 Calls Tryz.prog 55 #[.slice a n cap, .func (.func 56) #[] #[.pointer (some ⟨b, 0, none⟩)]] w fun e w' => ((∃ k : Nat, e = .returned (.int .i64 (k : Int)) ∧ fstK o x n = some k) ∨ (e = .returned (.int .i64 (-1)) ∧ fstK o x n = none)) ∧ Below w.heap.size w w' := by
 have HH := hid h
 have HR := hid hr
 clear h hr
 go_enter Tryz.func55, Tryz.ntmps55
 go_wp2_with fail
 go_loopw [8] (fun q wr => ∃ k : Nat, k ≤ n ∧ q = .int .i64 (k : Int) ∧ (∀ i, i < k → (o i).id ≠ x) ∧ Below w.heap.size w wr) (fun q _ => n - (intOf q).toNat)
 case atStart => exact ⟨0, Nat.zero_le _, rfl, fun i hi => absurd hi (by omega), Below.refl _ _⟩
 case round =>
  obtain ⟨k, hk, rfl, hno, hB⟩ := hrel
  have NO := hid hno
  have HB := hid hB
  clear hno hB
  by_cases hlt : k < n
  · have d1 : (k : Int) < (n : Int) := by omega
    have k0 : (0 : Int) ≤ (k : Int) := by omega
    rcases (HH.out.below HB.out).2 with q0 | ⟨b9, off, rfl, hbl, hc⟩
    · omega
    obtain ⟨y0, y1⟩ := hc k hlt
    have KK := fun wx (hx : Below w.heap.size w wx) => hid (iCk1 (o k).id (o k).sec x b v1 v2 v3 wx (RowAt.nxS hx HR.out))
    obtain ⟨T, hT⟩ : ∃ T, T = pb ((o k).id = x) := ⟨_, rfl⟩
    have HT : Hid (T = true ↔ (o k).id = x) := by rw [hT]; exact pb_iff
    rw [← hT] at KK
    generalize (o k).id = p0 at y0 KK
    generalize (o k).sec = p1 at y1 KK
    clear hc hT
    go_wp2_with fail
    refine (KK _ HB.out).out.mono ?_
    rintro e w2 ⟨rfl, hb2⟩
    have B2 := hid (HB.out.trans (hb2.mono HB.out.size))
    clear hb2 HB KK y0 y1
    cases T with
    | true =>
     have Y : Hid ((o k).id = x) := HT.out.1 rfl
     clear HT
     go_wp2
     go_ret
     exact ⟨.inl ⟨k, rfl, fstK_first hlt NO.out Y.out⟩, B2.out⟩
    | false =>
     have Y : Hid (¬ (o k).id = x) := fun q => Bool.noConfusion (HT.out.2 q)
     clear HT
     go_wp2
     go_roundw
     case rel => exact ⟨k + 1, by omega, by go_num, fun i hi => by
      rcases Nat.lt_or_ge i k with h1 | h1
      · exact NO.out i h1
      · rw [show i = k by omega]; exact Y.out, B2.out⟩
     case measure => simp [intOf]; omega
  · have d1 : ¬ (k : Int) < (n : Int) := by omega
    have hkn : k = n := by omega
    subst hkn
    go_wp2
    go_ret
    exact ⟨.inr ⟨rfl, fstK_none NO.out⟩, HB.out⟩
end Go.Proofs.YtkcjigelenofhaaGreatDoor
namespace Go.Proofs.YtkcjigelenofhaaGreatDoor
open Go.RowKit
def eqH (n1 : Nat) (o1 : Nat → Hp) (n2 : Nat) (o2 : Nat → Hp) : Prop := n1 = n2 ∧ ∀ i, i < n1 → (o1 i).nm = (o2 i).nm ∧ (o1 i).vl = (o2 i).vl
@[go_sem] theorem eqPr (p0 p1 p2 p3 : ByteArray) (w : World) : (Op.equalIn 10000 66 (.agg #[.string p0, .string p1]) (.agg #[.string p2, .string p3])).run Tryz.prog w = .ok (p0.toList == p2.toList && p1.toList == p3.toList) w := by
 have u9 := Tryz.underlying9
 have hS : Tryz.prog.underlying 66 = some (.struct (Tryz.prog.fieldsOf 66)) := by kernel_rfl
 rw [show (10000 : Nat) = 9999 + 1 from rfl, run_equalIn_agg w 9999 66 _ _ hS (by kernel_rfl)]
 simp only [Program.fieldsOf, Tryz.underlying66]
 go_simp
 by_cases h1 : p0.toList = p2.toList <;> by_cases h2 : p1.toList = p3.toList <;> simp [h1, h2]
@[go_sem] theorem eqGPr (op : BinOp) (x y : Operand) (xs ys : Array Value) (w : World) : (eqGuard op 66 x y (.agg xs) (.agg ys)).run Tryz.prog w = .ok () w := run_eqGuard_agg w op _ x y xs ys (by kernel_rfl)
set_option maxRecDepth 20000 in
set_option maxHeartbeats 4000000 in
theorem iEqP (a1 : Option Addr) (n1 c1 : Nat) (o1 : Nat → Hp) (a2 : Option Addr) (n2 c2 : Nat) (o2 : Nat → Hp) (hn : n1 ≤ 1048576) (w : World) (h1 : Hps w a1 n1 c1 o1) (h2 : Hps w a2 n2 c2 o2) :
 Calls Tryz.prog 94 #[.slice a1 n1 c1, .slice a2 n2 c2] w fun e w' => e = .returned (.bool (pb (eqH n1 o1 n2 o2))) ∧ Below w.heap.size w w' := by
 have H1 := hid h1
 have H2 := hid h2
 obtain ⟨P, hP⟩ : ∃ P, P = pb (eqH n1 o1 n2 o2) := ⟨_, rfl⟩
 rw [← hP]
 have HP := hid hP
 clear h1 h2 hP
 by_cases e0 : n1 = n2
 case neg =>
  have d0 : ¬ (n1 : Int) = (n2 : Int) := by omega
  have PF : Hid (P = false) := by show _ = _; rw [HP.out]; exact pb_f fun q => e0 q.1
  clear e0
  go_enter Tryz.func94, Tryz.ntmps94
  go_wp2
  go_ret
  exact ⟨by rw [PF.out]; rfl, Below.refl _ _⟩
 subst e0
 go_enter Tryz.func94, Tryz.ntmps94
 go_wp2_with fail
 go_loopw [13] (fun q wr => ∃ k : Nat, k ≤ n1 ∧ q = .int .i64 (k : Int) ∧ (∀ i, i < k → (o1 i).nm = (o2 i).nm ∧ (o1 i).vl = (o2 i).vl) ∧ Below w.heap.size w wr) (fun q _ => n1 - (intOf q).toNat)
 case atStart => exact ⟨0, Nat.zero_le _, rfl, fun i hi => absurd hi (by omega), Below.refl _ _⟩
 case round =>
  obtain ⟨k, hk, rfl, hno, hB⟩ := hrel
  have NO := hid hno
  have HB := hid hB
  clear hno hB
  by_cases hlt : k < n1
  · have d1 : (k : Int) < (n1 : Int) := by omega
    have k0 : (0 : Int) ≤ (k : Int) := by omega
    rcases (H1.out.below HB.out).2 with q0 | ⟨b, off, rfl, hbl, hc⟩
    · omega
    rcases (H2.out.below HB.out).2 with q0 | ⟨b', off', rfl, hbl', hc'⟩
    · omega
    obtain ⟨y0, y1⟩ := hc k hlt
    obtain ⟨z0, z1⟩ := hc' k hlt
    obtain ⟨T1, hT1⟩ : ∃ T, T = ((o1 k).nm.toList == (o2 k).nm.toList) := ⟨_, rfl⟩
    obtain ⟨T2, hT2⟩ : ∃ T, T = ((o1 k).vl.toList == (o2 k).vl.toList) := ⟨_, rfl⟩
    have HT1 : Hid (T1 = true ↔ (o1 k).nm = (o2 k).nm) := by show _ ↔ _; rw [hT1, ba_beqS2]; simp
    have HT2 : Hid (T2 = true ↔ (o1 k).vl = (o2 k).vl) := by show _ ↔ _; rw [hT2, ba_beqS2]; simp
    have Q1 := hT1.symm
    have Q2 := hT2.symm
    clear hT1 hT2 hc hc'
    generalize (o1 k).nm = p0 at y0 Q1
    generalize (o1 k).vl = p1 at y1 Q2
    generalize (o2 k).nm = p2 at z0 Q1
    generalize (o2 k).vl = p3 at z1 Q2
    go_wp2_with fail
    refine wp_region_held_drew (S := fun wx => (wx.cell? ⟨b, off + k * 2, none⟩ = some (.string p0) ∧ wx.cell? ⟨b, off + k * 2 + 1, none⟩ = some (.string p1)) ∧ wx.cell? ⟨b', off' + k * 2, none⟩ = some (.string p2) ∧ wx.cell? ⟨b', off' + k * 2 + 1, none⟩ = some (.string p3)) (by kernel_rfl) ?_ (fun hHeld => ?_)
    · exact ⟨⟨y0, y1⟩, z0, z1⟩
    refine wpAnyH_take (i := 0) (oi := { dst := some 16, op := Op.move (Operand.tmp 0), type := 23, pos := "slices.go:25", after := #[], guard := none }) (v := ?v1x0) rfl (by kernel_rfl) (by kernel_rfl) (by kernel_rfl) (fun _ _ _ h => h) (Or.inl ⟨by rfl, ?hy1x0⟩) hHeld ?rest1x0
    case hy1x0 => (intro w hSw; (try dsimp only at hSw); go_simp; try with_reducible rfl)
    simp only [Act.put, List.setIfInBounds_toArray, List.set_cons_zero, List.set_cons_succ]
    refine wpAnyH_take (i := 1) (oi := { dst := some 17, op := Op.move (Operand.tmp 5), type := 3, pos := "slices.go:25", after := #[], guard := none }) (v := ?v1x1) rfl (by kernel_rfl) (by kernel_rfl) (by kernel_rfl) (fun _ _ _ h => h) (Or.inl ⟨by rfl, ?hy1x1⟩) hHeld ?rest1x1
    case hy1x1 => (intro w hSw; (try dsimp only at hSw); go_simp; try with_reducible rfl)
    simp only [Act.put, List.setIfInBounds_toArray, List.set_cons_zero, List.set_cons_succ]
    refine wpAnyH_take (i := 2) (oi := { dst := some 18, op := Op.indexAddr 23 (Operand.tmp 16) (Operand.tmp 17), type := 0, pos := "slices.go:25", after := #[{ on := 0, ground := Ground.data }, { on := 1, ground := Ground.data }], guard := none }) (v := ?v1x2) rfl (by kernel_rfl) (by kernel_rfl) (by kernel_rfl) (fun _ _ _ h => h) (Or.inl ⟨by rfl, ?hy1x2⟩) hHeld ?rest1x2
    case hy1x2 => (intro w hSw; (try dsimp only at hSw); go_simp; try with_reducible rfl)
    simp only [Act.put, List.setIfInBounds_toArray, List.set_cons_zero, List.set_cons_succ]
    refine wpAnyH_take (i := 3) (oi := { dst := some 19, op := Op.load 66 (Operand.tmp 18), type := 66, pos := "slices.go:25", after := #[{ on := 2, ground := Ground.data }], guard := none }) (v := ?v1x3) rfl (by kernel_rfl) (by kernel_rfl) (by kernel_rfl) (fun _ _ _ h => h) (Or.inl ⟨by rfl, ?hy1x3⟩) hHeld ?rest1x3
    case hy1x3 => (intro w hSw; (try dsimp only at hSw); go_simp; try with_reducible rfl)
    simp only [Act.put, List.setIfInBounds_toArray, List.set_cons_zero, List.set_cons_succ]
    refine wpAnyH_take (i := 4) (oi := { dst := some 20, op := Op.move (Operand.tmp 1), type := 23, pos := "slices.go:25", after := #[], guard := none }) (v := ?v1x4) rfl (by kernel_rfl) (by kernel_rfl) (by kernel_rfl) (fun _ _ _ h => h) (Or.inl ⟨by rfl, ?hy1x4⟩) hHeld ?rest1x4
    case hy1x4 => (intro w hSw; (try dsimp only at hSw); go_simp; try with_reducible rfl)
    simp only [Act.put, List.setIfInBounds_toArray, List.set_cons_zero, List.set_cons_succ]
    refine wpAnyH_take (i := 5) (oi := { dst := some 21, op := Op.move (Operand.tmp 5), type := 3, pos := "slices.go:25", after := #[], guard := none }) (v := ?v1x5) rfl (by kernel_rfl) (by kernel_rfl) (by kernel_rfl) (fun _ _ _ h => h) (Or.inl ⟨by rfl, ?hy1x5⟩) hHeld ?rest1x5
    case hy1x5 => (intro w hSw; (try dsimp only at hSw); go_simp; try with_reducible rfl)
    simp only [Act.put, List.setIfInBounds_toArray, List.set_cons_zero, List.set_cons_succ]
    refine wpAnyH_take (i := 6) (oi := { dst := some 22, op := Op.indexAddr 23 (Operand.tmp 20) (Operand.tmp 21), type := 0, pos := "slices.go:25", after := #[{ on := 4, ground := Ground.data }, { on := 5, ground := Ground.data }], guard := none }) (v := ?v1x6) rfl (by kernel_rfl) (by kernel_rfl) (by kernel_rfl) (fun _ _ _ h => h) (Or.inl ⟨by rfl, ?hy1x6⟩) hHeld ?rest1x6
    case hy1x6 => (intro w hSw; (try dsimp only at hSw); go_simp; try with_reducible rfl)
    simp only [Act.put, List.setIfInBounds_toArray, List.set_cons_zero, List.set_cons_succ]
    refine wpAnyH_take (i := 7) (oi := { dst := some 23, op := Op.load 66 (Operand.tmp 22), type := 66, pos := "slices.go:25", after := #[{ on := 6, ground := Ground.data }], guard := none }) (v := ?v1x7) rfl (by kernel_rfl) (by kernel_rfl) (by kernel_rfl) (fun _ _ _ h => h) (Or.inl ⟨by rfl, ?hy1x7⟩) hHeld ?rest1x7
    case hy1x7 => (intro w hSw; (try dsimp only at hSw); go_simp; try with_reducible rfl)
    simp only [Act.put, List.setIfInBounds_toArray, List.set_cons_zero, List.set_cons_succ]
    refine wpAnyH_take (i := 8) (oi := { dst := some 24, op := Op.binOp BinOp.neq 66 (Operand.tmp 19) (Operand.tmp 23) 66, type := 4, pos := "slices.go:25", after := #[{ on := 3, ground := Ground.data }, { on := 7, ground := Ground.data }], guard := none }) (v := .bool (!(T1 && T2))) rfl (by kernel_rfl) (by kernel_rfl) (by kernel_rfl) (fun _ _ _ h => h) (Or.inl ⟨by rfl, ?hy1x8⟩) hHeld ?rest1x8
    case hy1x8 => (intro w hSw; (try dsimp only at hSw); go_simp; cases T1 <;> cases T2 <;> rfl)
    simp only [Act.put, List.setIfInBounds_toArray, List.set_cons_zero, List.set_cons_succ]
    refine wpAnyH_done (by kernel_rfl) ?_ _
    have Bq := hid (HB.out.drew)
    obtain ⟨bb, hbb⟩ : ∃ bb, bb = (T1 && T2) := ⟨_, rfl⟩
    have HBB := hid hbb
    rw [← hbb]
    clear hbb
    cases bb with
    | true =>
     have Y : Hid ((o1 k).nm = (o2 k).nm ∧ (o1 k).vl = (o2 k).vl) := by have := HBB.out; simp at this; exact ⟨HT1.out.1 this.1, HT2.out.1 this.2⟩
     clear HT1 HT2 HBB Q1 Q2 y0 y1 z0 z1
     go_wp2
     go_roundw
     case rel => exact ⟨k + 1, by omega, by go_num, fun i hi => by
      rcases Nat.lt_or_ge i k with h1 | h1
      · exact NO.out i h1
      · rw [show i = k by omega]; exact Y.out, Bq.out⟩
     case measure => simp [intOf]; omega
    | false =>
     have PF : Hid (P = false) := by show _ = _; rw [HP.out]; exact pb_f fun q => by have := HBB.out; rw [HT1.out.2 (q.2 k hlt).1, HT2.out.2 (q.2 k hlt).2] at this; simp at this
     clear HT1 HT2 HBB Q1 Q2 y0 y1 z0 z1
     go_wp2
     go_ret
     exact ⟨by rw [PF.out]; rfl, Bq.out⟩
  · have d1 : ¬ (k : Int) < (n1 : Int) := by omega
    have hkn : k = n1 := by omega
    subst hkn
    have PF : Hid (P = true) := by show _ = _; rw [HP.out]; exact pb_t ⟨rfl, NO.out⟩
    go_wp2
    go_ret
    exact ⟨by rw [PF.out]; rfl, HB.out⟩
end Go.Proofs.YtkcjigelenofhaaGreatDoor
